/- What the program's statements come to: an NReturn that is not a procedure's last statement. -/
import Derived.Test.YtfopddgjdaoidaaGreatDoorNM34
set_option linter.unusedVariables false
set_option linter.unusedSimpArgs false
set_option maxRecDepth 100000
namespace Go.Proofs.YtfopddgjdaoidaaGreatDoor.chk
open Go.RowKit Go.Shelf
open syn face
section
variable {E:Env} {p:Pr} {w0:World} {D Kb kn:Nat} {kf:KF}
set_option maxHeartbeats 4000000 in
theorem oStatIn (l:Bool) (k:Int) (x:ByteArray) (m:Int) (ks:List Tree) (hp:PlT (.node k x m ks)) (hx:LongN x) (hkids:∀ t ∈ ks,ExT t) (hT:∀ L,LabL L→Tab E L kf (vsOf L)):StatC E p w0 D Kb kn kf (.node 13 empty (bI l) [.node k x m ks]):=by
  intro ctx deep first L u v w at_ hv hInv hLab h20 hctx hdeep h h0 hm
  have c24:Tryz.prog.cellsOf 25=4:=by kernel_rfl
  have c2:Tryz.prog.cellsOf 179=2:=by kernel_rfl
  have c4:Tryz.prog.cellsOf 76=4:=cell4
  have hTab:=hT L hLab
  have hvs:(vsOf L).length≤1000:=by rw [vsOf_len];omega
  rw [cntN] at hm
  have hcl:=cntL_pos [.node k x m ks]
  obtain ⟨g,o,c,rfl,hg,hl,hkid⟩:=lies_kid hv (by simp)
  obtain ⟨kk,xx,mm,aa,na,ca,k0,k1,k2,k3,hle⟩:=hkid 0 (by simp)
  simp only [Nat.zero_mul,Nat.add_zero,List.getElem_cons_zero,List.length_singleton] at k0 k1 k2 k3 hle ⊢
  have HR:=show Hid _ from st_in p ctx deep at_ hTab hctx l hp
  obtain ⟨R,hR⟩:∃ R,stF E p ctx deep false (.node 13 empty (bI l) [.node k x m ks]) L at_=R:=⟨_,rfl⟩
  rw [hR] at HR ⊢
  clear hR hkid hv
  have hub:∀ b,u.ownBlock=some b→b<w.heap.size:=fun b e=>(h.rl.lt _ e).2
  have hd:=h.lt
  have hI0:=(h.alloc (.cells #[.int .i64 13,.string empty,.int .i64 (bI l),.slice (some ⟨g,o,none⟩) 1 c] 25)).alloc (.cells #[.int .i64 ctx,.int .i64 (first:Int)] 179)
  have hf0:=((FrU.refl D u w).alloc (.cells #[.int .i64 13,.string empty,.int .i64 (bI l),.slice (some ⟨g,o,none⟩) 1 c] 25)).alloc (.cells #[.int .i64 ctx,.int .i64 (first:Int)] 179)
  have hBg:=hI0.begin h0 (by omega)
  have hS0:HS w.heap.size g o (.int .i64 13) (.string empty) (.int .i64 (bI l)) (.slice (some ⟨g,o,none⟩) 1 c) (.int .i64 kk) (.string xx) (.int .i64 mm) (.slice aa na ca) (.int .i64 ctx) (.int .i64 (first:Int)) ((w.alloc (.cells #[.int .i64 13,.string empty,.int .i64 (bI l),.slice (some ⟨g,o,none⟩) 1 c] 25)).alloc (.cells #[.int .i64 ctx,.int .i64 (first:Int)] 179)) :=
    HS.new hI0.bs hg k0 k1 k2 k3
  have hgD:g≠D:=by have:=h.hD;omega
  have hKb:=h.mp.lt
  have hfm:=h.fm
  have hcp:=cntT_pos (.node k x m ks)
  have hcp2:=cntL_pos ks
  have hcn:=cntN k x m ks
  rw [cntL_one] at hm
  have hC:=fun W (hI1:CS w0 W D Kb kn kf (vsOf L) u (at_+1))=>oPlace E L hvs k x m ks _ W ctx (at_+1) hkids hx hle hI1 (by omega) (by omega) (fun j hj v w a h1 h2 h3 h4 h5=>oExpr E L ctx (hTab.agr ctx) hvs ks[j] v w a h1 h2 h3 h4 h5)
  have HA:Hid (∀ q,plP kf (vsOf L) k x (at_+1) (exL E L ctx ks (at_+1+1))=.ok q→q.2.2=at_+1+cntT (.node k x m ks)):=fun q hq=>plP_at (m:=m) hq
  clear hle k0 k1 k2 k3 hx hkids hcn hcp2
  generalize plP kf (vsOf L) k x (at_+1) (exL E L ctx ks (at_+1+1))=X at *
  go_enter Tryz.func157,Tryz.ntmps157
  go_wp2_with (go_at_call 81;refine hBg.mono ?_;rintro e w1 ⟨rfl,hw1⟩;have hI1:CS w0 w1 D Kb kn kf (vsOf L) u (at_+1):=by { rw [hw1];exact hI0.setAt _ };have hS1:HS w.heap.size g o (.int .i64 13) (.string empty) (.int .i64 (bI l)) (.slice (some ⟨g,o,none⟩) 1 c) (.int .i64 kk) (.string xx) (.int .i64 mm) (.slice aa na ca) (.int .i64 ctx) (.int .i64 (first:Int)) w1:=by { rw [hw1];exact hS0.setD (by omega) (by omega) hgD _ _ };have hf1:FrU D u u w w1:=by { rw [hw1];exact hf0.set _ _ (fun _ e=>e) };have hsz1:w.heap.size+2≤w1.heap.size:=by { rw [hw1,World.size_setCell];simp };clear hw1;obtain ⟨y0,y1,y2,y3,y4,y5,y6,y7,y8,y9⟩:=id hS1)
  clear y0 y1 y2 y3 y4 y5 y6 y7 y8 y9 hI0 hf0 hS0 hBg
  have hS:HS w.heap.size g o (.int .i64 13) (.string empty) (.int .i64 (bI l)) (.slice (some ⟨g,o,none⟩) 1 c) (.int .i64 kk) (.string xx) (.int .i64 mm) (.slice aa na ca) (.int .i64 ctx) (.int .i64 (first:Int)) w1.drew:=hS1
  refine wp_region_held_drew (S:=HS w.heap.size g o (.int .i64 13) (.string empty) (.int .i64 (bI l)) (.slice (some ⟨g,o,none⟩) 1 c) (.int .i64 kk) (.string xx) (.int .i64 mm) (.slice aa na ca) (.int .i64 ctx) (.int .i64 (first:Int))) (by kernel_rfl) hS (fun hHeld=>?_)
  clear hHeld
  replace hI1:=hI1.drew
  replace hf1:=hf1.drew
  replace hsz1:w.heap.size+2≤w1.drew.heap.size:=hsz1
  generalize w1.drew=W at *
  refine tkH (i:=0) (v:=.pointer (some ⟨D,0,none⟩)) rfl (Or.inl ⟨by rfl,fun w hSw=>by obtain ⟨y0,y1,y2,y3,y4,y5,y6,y7,y8,y9⟩:=hSw;go_simp⟩) hS ?_
  simp only [Act.put,jA,jB,jC]
  refine tkH (i:=1) (v:=.pointer (some ⟨w.heap.size,3,none⟩)) rfl (Or.inl ⟨by rfl,fun w hSw=>by obtain ⟨y0,y1,y2,y3,y4,y5,y6,y7,y8,y9⟩:=hSw;go_simp⟩) hS ?_
  simp only [Act.put,jA,jB,jC]
  refine tkH (i:=2) (v:=.slice (some ⟨g,o,none⟩) 1 c) rfl (Or.inl ⟨by rfl,fun w hSw=>by obtain ⟨y0,y1,y2,y3,y4,y5,y6,y7,y8,y9⟩:=hSw;go_simp⟩) hS ?_
  simp only [Act.put,jA,jB,jC]
  refine tkH (i:=3) (v:=.pointer (some ⟨g,o,none⟩)) rfl (Or.inl ⟨by rfl,fun w hSw=>by obtain ⟨y0,y1,y2,y3,y4,y5,y6,y7,y8,y9⟩:=hSw;go_simp⟩) hS ?_
  simp only [Act.put,jA,jB,jC]
  refine tkH (i:=4) (v:=.agg #[.int .i64 kk,.string xx,.int .i64 mm,.slice aa na ca]) rfl (Or.inl ⟨by rfl,fun w hSw=>by obtain ⟨y0,y1,y2,y3,y4,y5,y6,y7,y8,y9⟩:=hSw;go_simp⟩) hS ?_
  simp only [Act.put,jA,jB,jC]
  refine tkH (i:=5) (v:=.pointer (some ⟨w.heap.size+1,0,none⟩)) rfl (Or.inl ⟨by rfl,fun w hSw=>by obtain ⟨y0,y1,y2,y3,y4,y5,y6,y7,y8,y9⟩:=hSw;go_simp⟩) hS ?_
  simp only [Act.put,jA,jB,jC]
  refine tkH (i:=6) (v:=.int .i64 ctx) rfl (Or.inl ⟨by rfl,fun w hSw=>by obtain ⟨y0,y1,y2,y3,y4,y5,y6,y7,y8,y9⟩:=hSw;go_simp⟩) hS ?_
  simp only [Act.put,jA,jB,jC]
  refine wpAnyH_ready (rs:=[7,11]) (by kernel_rfl) (by simp) ?_
  refine AllReadyH.cons rfl (fun K hK=>?_) ?_
  · go_simp
    go_at_call 185
    refine (hC W hI1).mono ?_
    cases X with
    | bad cc bb =>
      have HB:Hid (R=.bad cc bb):=HR.out
      rintro e w2 ⟨rfl,hb2⟩
      go_wp2
      exact ⟨rfl,SR.mkBad HB.out hb2⟩
    | ok q =>
      have HAT:=HA.out q rfl
      obtain ⟨vv,ix,a1⟩:=q
      dsimp only at HAT
      subst HAT
      rintro e w2 ⟨rfl,hI2,hF2⟩
      dsimp only at hI2 HR
      unfold varV
      have hS2:=hS.fr (FrU.of hF2 u) hI1.bs hI2.bs hg (by omega) (by omega) (fun e=>by have:=hub _ e;omega) (fun e=>by have:=hub _ e;omega)
      have hf2:=hf1.trans (FrU.of hF2 u)
      have hsz2:w.heap.size+2≤w2.heap.size:=Nat.le_trans hsz1 hF2.size
      clear hF2 hS hI1 hf1 hC hsz1
      go_wp2
      refine hK.out _ _ hS2 (fun hHeld=>?_)
      clear hK K hHeld
      refine tkH (i:=8) (v:=.tuple #[.agg #[.string vv.name,.bool vv.pub,.int .i64 vv.label,.int .i64 vv.size],.int .i64 ix]) rfl (Or.inl ⟨by rfl,fun w hSw=>by go_simp⟩) hS2 ?_
      simp only [Act.put,jA,jB,jC]
      refine tkH (i:=9) (v:=.agg #[.string vv.name,.bool vv.pub,.int .i64 vv.label,.int .i64 vv.size]) rfl (Or.inl ⟨by rfl,fun w hSw=>by go_simp⟩) hS2 ?_
      simp only [Act.put,jA,jB,jC]
      refine tkH (i:=10) (v:=.int .i64 ix) rfl (Or.inl ⟨by rfl,fun w hSw=>by go_simp⟩) hS2 ?_
      simp only [Act.put,jA,jB,jC]
      refine wpAnyH_ready (rs:=[11]) (by kernel_rfl) (by simp) ?_
      refine AllReadyH.cons rfl (fun K hK=>?_) AllReadyH.nil
      go_simp
      have hB3:=Boxed4.new w2 zeroVar
      have hI3:=hI2.alloc (.cells #[.string ⟨#[]⟩,.bool false,.int .i64 0,.int .i64 0] 76)
      have hS3:=hS2.fr ((FrU.refl D u w2).alloc (.cells #[.string ⟨#[]⟩,.bool false,.int .i64 0,.int .i64 0] 76)) hI2.bs hI3.bs hg (by omega) (by omega) (fun e=>by have:=hub _ e;omega) (fun e=>by have:=hub _ e;omega)
      have hf3:=hf2.alloc (.cells #[.string ⟨#[]⟩,.bool false,.int .i64 0,.int .i64 0] 76)
      have hsz3:w.heap.size+2≤(w2.alloc (.cells #[.string ⟨#[]⟩,.bool false,.int .i64 0,.int .i64 0] 76)).heap.size:=by simp;omega
      refine hK.out _ _ hS3 (fun hHeld=>?_)
      clear hK K hHeld hI2 hS2 hf2
      change Boxed4 (w2.alloc (.cells #[.string ⟨#[]⟩,.bool false,.int .i64 0,.int .i64 0] 76)) w2.heap.size zeroVar at hB3
      generalize w2.alloc (.cells #[.string ⟨#[]⟩,.bool false,.int .i64 0,.int .i64 0] 76)=W3 at *
      have hlo:=hsz2
      clear hsz2
      generalize w2.heap.size=B3 at *
      obtain ⟨z0,z1,z2,z3,zf⟩:=hB3.cells
      have zf0:=zf 0
      have zf1:=zf 1
      have zf2:=zf 2
      have zf3:=zf 3
      refine wpAnyH_ready (rs:=[12]) (by kernel_rfl) (by simp) ?_
      refine AllReadyH.cons rfl (fun K hK=>?_) AllReadyH.nil
      go_simp
      have hg3:g≠B3:=by have:=hI3.mM;omega
      have hI5:=hI3.put4 (b:=B3) (by omega) (by omega) (fun e=>by have:=hub _ e;omega) (by omega) (.string vv.name) (.bool vv.pub) (.int .i64 vv.label) (.int .i64 vv.size)
      have hS5:=(((hS3.setD (D:=B3) (by omega) (by omega) hg3 0 (.string vv.name)).setD (D:=B3) (by omega) (by omega) hg3 1 (.bool vv.pub)).setD (D:=B3) (by omega) (by omega) hg3 2 (.int .i64 vv.label)).setD (D:=B3) (by omega) (by omega) hg3 3 (.int .i64 vv.size)
      have hf5:=(((hf3.put (b:=B3) (o:=0) (by omega) (.string vv.name)).put (b:=B3) (o:=1) (by omega) (.bool vv.pub)).put (b:=B3) (o:=2) (by omega) (.int .i64 vv.label)).put (b:=B3) (o:=3) (by omega) (.int .i64 vv.size)
      have hB5:=hB3.put vv
      have hsz5:w.heap.size+2≤((((W3.setCell ⟨B3,0,none⟩ (.string vv.name)).setCell ⟨B3,1,none⟩ (.bool vv.pub)).setCell ⟨B3,2,none⟩ (.int .i64 vv.label)).setCell ⟨B3,3,none⟩ (.int .i64 vv.size)).heap.size:=by simp only [World.size_setCell];exact hsz3
      refine hK.out _ _ hS5 (fun hHeld=>?_)
      clear hK K hHeld z0 z1 z2 z3 zf zf0 zf1 zf2 zf3 hI3 hS3 hf3 hB3 hsz3
      generalize ((((W3.setCell ⟨B3,0,none⟩ (.string vv.name)).setCell ⟨B3,1,none⟩ (.bool vv.pub)).setCell ⟨B3,2,none⟩ (.int .i64 vv.label)).setCell ⟨B3,3,none⟩ (.int .i64 vv.size))=W5 at *
      refine tkH (i:=13) (v:=.int .i64 ix) rfl (Or.inl ⟨by rfl,fun w hSw=>by go_simp⟩) hS5 ?_
      simp only [Act.put,jA,jB,jC]
      simp only [List.getElem_toArray,List.getElem_cons_succ,List.getElem_cons_zero,List.setIfInBounds_toArray,List.set_cons_zero,List.set_cons_succ]
      refine wpAnyH_done (by kernel_rfl) ?_ _
      obtain ⟨y0,y1,y2,y3,y4,y5,y6,y7,y8,y9⟩:=id hS5
      clear HA hTab hT
      generalize at_+1+cntT (.node k x m ks)=a1 at *
      go_wp2_with (go_at_call 156;refine (oLabelOf 13 empty (bI l) _ _ _ _).mono ?_;rintro e w6 ⟨rfl,hb6⟩;rw [bits_bI];have hI6:=hI5.below hb6;have hS6:=hS5.fr (FrU.below hb6 D u) hI5.bs hI6.bs hg (by omega) (by omega) (fun e=>by have:=hub _ e;omega) (fun e=>by have:=hub _ e;omega);have hf6:=hf5.trans (FrU.below hb6 D u);have hB6:=hB5.below hb6 hB5.lt;obtain ⟨y0,y1,y2,y3,y4,y5,y6,y7,y8,y9⟩:=id hS6)
      have hI7:=hI6.alloc (.cells #[.int .i64 ctx] 3)
      have hS7:=hS6.fr ((FrU.refl D u w6).alloc (.cells #[.int .i64 ctx] 3)) hI6.bs hI7.bs hg (by omega) (by omega) (fun e=>by have:=hub _ e;omega) (fun e=>by have:=hub _ e;omega)
      have hf7:=hf6.alloc (.cells #[.int .i64 ctx] 3)
      have hB7:=hB6.alloc (.cells #[.int .i64 ctx] 3)
      refine (oFlow at_ (bI l) [ctx] _ _ (ints_one _ _)).mono ?_
      clear hI5 hS5 hf5 hB5 hI6 hS6 hf6 hB6 hb6 y0 y1 y2 y3 y4 y5 y6 y7 y8 y9
      generalize w6.alloc (.cells #[.int .i64 ctx] 3)=W7 at *
      rintro e w8 (⟨hfl,rfl,rfl⟩ | ⟨hfl,rfl,rfl⟩)
      · have HB:Hid (R=if flows vv.label [bI l,ix,ctx]=false then .bad 7 at_ else .ok (L,a1)):=HR.out.trans (if_neg (by rw [hfl];decide))
        clear hfl HR
        obtain ⟨z0,z1,z2,z3,zf⟩:=hB7.cells
        obtain ⟨y0,y1,y2,y3,y4,y5,y6,y7,y8,y9⟩:=id hS7
        go_wp2_with (fail)
        refine (oFlow at_ vv.label [bI l,ix,ctx] _ _ (ints_three _ _ _ _)).mono ?_
        rintro e w9 (⟨hfl,rfl,rfl⟩ | ⟨hfl,rfl,rfl⟩)
        · have HC:Hid (R=.ok (L,a1)):=HB.out.trans (if_neg (by rw [hfl];decide))
          clear hfl HB
          go_wp2
          go_end0
          exact SR.mkOk HC.out (hI7.alloc _) (hf7.alloc _)
        · have HC:Hid (R=.bad 7 at_):=HB.out.trans (if_pos hfl)
          clear hfl HB
          go_wp2
          exact ⟨rfl,SR.mkBad HC.out (hI7.alloc _).bs⟩
      · have HC:Hid (R=.bad 7 at_):=HR.out.trans (if_pos hfl)
        clear hfl HR
        go_wp2
        exact ⟨rfl,SR.mkBad HC.out hI7.bs⟩
  · refine AllReadyH.cons rfl (fun K hK=>?_) AllReadyH.nil
    go_simp
    have hB2:=Boxed4.new W zeroVar
    have hI2:=hI1.alloc (.cells #[.string ⟨#[]⟩,.bool false,.int .i64 0,.int .i64 0] 76)
    have hS2:=hS.fr ((FrU.refl D u W).alloc (.cells #[.string ⟨#[]⟩,.bool false,.int .i64 0,.int .i64 0] 76)) hI1.bs hI2.bs hg (by omega) (by omega) (fun e=>by have:=hub _ e;omega) (fun e=>by have:=hub _ e;omega)
    have hf2:=hf1.alloc (.cells #[.string ⟨#[]⟩,.bool false,.int .i64 0,.int .i64 0] 76)
    have hsz2:w.heap.size+2≤(W.alloc (.cells #[.string ⟨#[]⟩,.bool false,.int .i64 0,.int .i64 0] 76)).heap.size:=by simp;omega
    refine hK.out _ _ hS2 (fun hHeld=>?_)
    clear hK K hHeld hI1 hS hf1
    change Boxed4 (W.alloc (.cells #[.string ⟨#[]⟩,.bool false,.int .i64 0,.int .i64 0] 76)) W.heap.size zeroVar at hB2
    generalize W.alloc (.cells #[.string ⟨#[]⟩,.bool false,.int .i64 0,.int .i64 0] 76)=W2 at *
    have hlo:=hsz1
    clear hsz1
    generalize W.heap.size=B3 at *
    refine wpAnyH_ready (rs:=[7]) (by kernel_rfl) (by simp) ?_
    refine AllReadyH.cons rfl (fun K hK=>?_) AllReadyH.nil
    go_simp
    go_at_call 185
    refine (hC W2 hI2).mono ?_
    cases X with
    | bad cc bb =>
      have HB:Hid (R=.bad cc bb):=HR.out
      rintro e w3 ⟨rfl,hb3⟩
      go_wp2
      exact ⟨rfl,SR.mkBad HB.out hb3⟩
    | ok q =>
      have HAT:=HA.out q rfl
      obtain ⟨vv,ix,a1⟩:=q
      dsimp only at HAT
      subst HAT
      rintro e W3 ⟨rfl,hI3,hF3⟩
      dsimp only at hI3 HR
      unfold varV
      have hS3:=hS2.fr (FrU.of hF3 u) hI2.bs hI3.bs hg (by omega) (by omega) (fun e=>by have:=hub _ e;omega) (fun e=>by have:=hub _ e;omega)
      have hf3:=hf2.trans (FrU.of hF3 u)
      have hsz3:w.heap.size+2≤W3.heap.size:=Nat.le_trans hsz2 hF3.size
      have hB3:=hB2.kept hF3 (by simp;omega)
      clear hF3 hS2 hI2 hf2 hsz2 hC hB2
      go_wp2
      refine hK.out _ _ hS3 (fun hHeld=>?_)
      clear hK K hHeld
      refine tkH (i:=8) (v:=.tuple #[.agg #[.string vv.name,.bool vv.pub,.int .i64 vv.label,.int .i64 vv.size],.int .i64 ix]) rfl (Or.inl ⟨by rfl,fun w hSw=>by go_simp⟩) hS3 ?_
      simp only [Act.put,jA,jB,jC]
      refine tkH (i:=9) (v:=.agg #[.string vv.name,.bool vv.pub,.int .i64 vv.label,.int .i64 vv.size]) rfl (Or.inl ⟨by rfl,fun w hSw=>by go_simp⟩) hS3 ?_
      simp only [Act.put,jA,jB,jC]
      refine tkH (i:=10) (v:=.int .i64 ix) rfl (Or.inl ⟨by rfl,fun w hSw=>by go_simp⟩) hS3 ?_
      simp only [Act.put,jA,jB,jC]
      obtain ⟨z0,z1,z2,z3,zf⟩:=hB3.cells
      have zf0:=zf 0
      have zf1:=zf 1
      have zf2:=zf 2
      have zf3:=zf 3
      refine wpAnyH_ready (rs:=[12]) (by kernel_rfl) (by simp) ?_
      refine AllReadyH.cons rfl (fun K hK=>?_) AllReadyH.nil
      go_simp
      have hg3:g≠B3:=by have:=hI3.mM;omega
      have hI5:=hI3.put4 (b:=B3) (by omega) (by omega) (fun e=>by have:=hub _ e;omega) (by omega) (.string vv.name) (.bool vv.pub) (.int .i64 vv.label) (.int .i64 vv.size)
      have hS5:=(((hS3.setD (D:=B3) (by omega) (by omega) hg3 0 (.string vv.name)).setD (D:=B3) (by omega) (by omega) hg3 1 (.bool vv.pub)).setD (D:=B3) (by omega) (by omega) hg3 2 (.int .i64 vv.label)).setD (D:=B3) (by omega) (by omega) hg3 3 (.int .i64 vv.size)
      have hf5:=(((hf3.put (b:=B3) (o:=0) (by omega) (.string vv.name)).put (b:=B3) (o:=1) (by omega) (.bool vv.pub)).put (b:=B3) (o:=2) (by omega) (.int .i64 vv.label)).put (b:=B3) (o:=3) (by omega) (.int .i64 vv.size)
      have hB5:=hB3.put vv
      have hsz5:w.heap.size+2≤((((W3.setCell ⟨B3,0,none⟩ (.string vv.name)).setCell ⟨B3,1,none⟩ (.bool vv.pub)).setCell ⟨B3,2,none⟩ (.int .i64 vv.label)).setCell ⟨B3,3,none⟩ (.int .i64 vv.size)).heap.size:=by simp only [World.size_setCell];exact hsz3
      refine hK.out _ _ hS5 (fun hHeld=>?_)
      clear hK K hHeld z0 z1 z2 z3 zf zf0 zf1 zf2 zf3 hI3 hS3 hf3 hB3 hsz3
      generalize ((((W3.setCell ⟨B3,0,none⟩ (.string vv.name)).setCell ⟨B3,1,none⟩ (.bool vv.pub)).setCell ⟨B3,2,none⟩ (.int .i64 vv.label)).setCell ⟨B3,3,none⟩ (.int .i64 vv.size))=W5 at *
      refine tkH (i:=13) (v:=.int .i64 ix) rfl (Or.inl ⟨by rfl,fun w hSw=>by go_simp⟩) hS5 ?_
      simp only [Act.put,jA,jB,jC]
      simp only [List.getElem_toArray,List.getElem_cons_succ,List.getElem_cons_zero,List.setIfInBounds_toArray,List.set_cons_zero,List.set_cons_succ]
      refine wpAnyH_done (by kernel_rfl) ?_ _
      obtain ⟨y0,y1,y2,y3,y4,y5,y6,y7,y8,y9⟩:=id hS5
      clear HA hTab hT
      generalize at_+1+cntT (.node k x m ks)=a1 at *
      go_wp2_with (go_at_call 156;refine (oLabelOf 13 empty (bI l) _ _ _ _).mono ?_;rintro e w6 ⟨rfl,hb6⟩;rw [bits_bI];have hI6:=hI5.below hb6;have hS6:=hS5.fr (FrU.below hb6 D u) hI5.bs hI6.bs hg (by omega) (by omega) (fun e=>by have:=hub _ e;omega) (fun e=>by have:=hub _ e;omega);have hf6:=hf5.trans (FrU.below hb6 D u);have hB6:=hB5.below hb6 hB5.lt;obtain ⟨y0,y1,y2,y3,y4,y5,y6,y7,y8,y9⟩:=id hS6)
      have hI7:=hI6.alloc (.cells #[.int .i64 ctx] 3)
      have hS7:=hS6.fr ((FrU.refl D u w6).alloc (.cells #[.int .i64 ctx] 3)) hI6.bs hI7.bs hg (by omega) (by omega) (fun e=>by have:=hub _ e;omega) (fun e=>by have:=hub _ e;omega)
      have hf7:=hf6.alloc (.cells #[.int .i64 ctx] 3)
      have hB7:=hB6.alloc (.cells #[.int .i64 ctx] 3)
      refine (oFlow at_ (bI l) [ctx] _ _ (ints_one _ _)).mono ?_
      clear hI5 hS5 hf5 hB5 hI6 hS6 hf6 hB6 hb6 y0 y1 y2 y3 y4 y5 y6 y7 y8 y9
      generalize w6.alloc (.cells #[.int .i64 ctx] 3)=W7 at *
      rintro e w8 (⟨hfl,rfl,rfl⟩ | ⟨hfl,rfl,rfl⟩)
      · have HB:Hid (R=if flows vv.label [bI l,ix,ctx]=false then .bad 7 at_ else .ok (L,a1)):=HR.out.trans (if_neg (by rw [hfl];decide))
        clear hfl HR
        obtain ⟨z0,z1,z2,z3,zf⟩:=hB7.cells
        obtain ⟨y0,y1,y2,y3,y4,y5,y6,y7,y8,y9⟩:=id hS7
        go_wp2_with (fail)
        refine (oFlow at_ vv.label [bI l,ix,ctx] _ _ (ints_three _ _ _ _)).mono ?_
        rintro e w9 (⟨hfl,rfl,rfl⟩ | ⟨hfl,rfl,rfl⟩)
        · have HC:Hid (R=.ok (L,a1)):=HB.out.trans (if_neg (by rw [hfl];decide))
          clear hfl HB
          go_wp2
          go_end0
          exact SR.mkOk HC.out (hI7.alloc _) (hf7.alloc _)
        · have HC:Hid (R=.bad 7 at_):=HB.out.trans (if_pos hfl)
          clear hfl HB
          go_wp2
          exact ⟨rfl,SR.mkBad HC.out (hI7.alloc _).bs⟩
      · have HC:Hid (R=.bad 7 at_):=HR.out.trans (if_pos hfl)
        clear hfl HR
        go_wp2
        exact ⟨rfl,SR.mkBad HC.out hI7.bs⟩
end
section
variable {E:Env} {p:Pr} {w0:World} {D Kb kn:Nat} {kf:KF}
set_option maxHeartbeats 4000000 in
theorem oStatRet (e:Tree) (hx:ExT e) (hT:∀ L,LabL L→Tab E L kf (vsOf L)):StatC E p w0 D Kb kn kf (.node 14 empty 0 [e]):=by
  intro ctx deep first L u v w at_ hv hInv hLab h20 hctx hdeep h h0 hm
  have c24:Tryz.prog.cellsOf 25=4:=by kernel_rfl
  have c2:Tryz.prog.cellsOf 179=2:=by kernel_rfl
  have c4:Tryz.prog.cellsOf 76=4:=cell4
  have hTab:=hT L hLab
  have hvs:(vsOf L).length≤1000:=by rw [vsOf_len];omega
  rw [cntN] at hm
  have hcl:=cntL_pos [e]
  obtain ⟨g,o,c,rfl,hg,hl,hkid⟩:=lies_kid hv (by simp)
  obtain ⟨kk,xx,mm,aa,na,ca,k0,k1,k2,k3,hle⟩:=hkid 0 (by simp)
  simp only [Nat.zero_mul,Nat.add_zero,List.getElem_cons_zero,List.length_singleton] at k0 k1 k2 k3 hle ⊢
  have HR:=show Hid _ from st_ret (E:=E) (L:=L) p ctx deep at_ e
  obtain ⟨R,hR⟩:∃ R,stF E p ctx deep false (.node 14 empty 0 [e]) L at_=R:=⟨_,rfl⟩
  rw [hR] at HR ⊢
  clear hR hkid hv
  have hub:∀ b,u.ownBlock=some b→b<w.heap.size:=fun b e=>(h.rl.lt _ e).2
  have hd:=h.lt
  have hI0:=(h.alloc (.cells #[.int .i64 14,.string empty,.int .i64 0,.slice (some ⟨g,o,none⟩) 1 c] 25)).alloc (.cells #[.int .i64 ctx,.int .i64 (first:Int)] 179)
  have hf0:=((FrU.refl D u w).alloc (.cells #[.int .i64 14,.string empty,.int .i64 0,.slice (some ⟨g,o,none⟩) 1 c] 25)).alloc (.cells #[.int .i64 ctx,.int .i64 (first:Int)] 179)
  have hBg:=hI0.begin h0 (by omega)
  have hS0:HS w.heap.size g o (.int .i64 14) (.string empty) (.int .i64 0) (.slice (some ⟨g,o,none⟩) 1 c) (.int .i64 kk) (.string xx) (.int .i64 mm) (.slice aa na ca) (.int .i64 ctx) (.int .i64 (first:Int)) ((w.alloc (.cells #[.int .i64 14,.string empty,.int .i64 0,.slice (some ⟨g,o,none⟩) 1 c] 25)).alloc (.cells #[.int .i64 ctx,.int .i64 (first:Int)] 179)) :=
    HS.new hI0.bs hg k0 k1 k2 k3
  have hgD:g≠D:=by have:=h.hD;omega
  have hKb:=h.mp.lt
  have hfm:=h.fm
  have hcp:=cntT_pos e
  rw [cntL_one] at hm
  have hC:=fun W (hI1:CS w0 W D Kb kn kf (vsOf L) u (at_+1))=>oExpr E L ctx (hTab.agr ctx) hvs e _ W (at_+1) hx hle hI1 (by omega) (by omega)
  clear hle k0 k1 k2 k3 hx hTab hT
  generalize exF E L ctx false e (at_+1)=X at *
  go_enter Tryz.func157,Tryz.ntmps157
  go_wp2_with (go_at_call 81;refine hBg.mono ?_;rintro e w1 ⟨rfl,hw1⟩;have hI1:CS w0 w1 D Kb kn kf (vsOf L) u (at_+1):=by { rw [hw1];exact hI0.setAt _ };have hS1:HS w.heap.size g o (.int .i64 14) (.string empty) (.int .i64 0) (.slice (some ⟨g,o,none⟩) 1 c) (.int .i64 kk) (.string xx) (.int .i64 mm) (.slice aa na ca) (.int .i64 ctx) (.int .i64 (first:Int)) w1:=by { rw [hw1];exact hS0.setD (by omega) (by omega) hgD _ _ };have hf1:FrU D u u w w1:=by { rw [hw1];exact hf0.set _ _ (fun _ e=>e) };have hsz1:w.heap.size+2≤w1.heap.size:=by { rw [hw1,World.size_setCell];simp };clear hw1;obtain ⟨y0,y1,y2,y3,y4,y5,y6,y7,y8,y9⟩:=id hS1)
  clear y0 y1 y2 y3 y4 y5 y6 y7 y8 y9 hI0 hf0 hS0 hBg
  have hS:HS w.heap.size g o (.int .i64 14) (.string empty) (.int .i64 0) (.slice (some ⟨g,o,none⟩) 1 c) (.int .i64 kk) (.string xx) (.int .i64 mm) (.slice aa na ca) (.int .i64 ctx) (.int .i64 (first:Int)) w1.drew:=hS1
  refine wp_region_held_drew (S:=HS w.heap.size g o (.int .i64 14) (.string empty) (.int .i64 0) (.slice (some ⟨g,o,none⟩) 1 c) (.int .i64 kk) (.string xx) (.int .i64 mm) (.slice aa na ca) (.int .i64 ctx) (.int .i64 (first:Int))) (by kernel_rfl) hS (fun hHeld=>?_)
  clear hHeld
  replace hI1:=hI1.drew
  replace hf1:=hf1.drew
  replace hsz1:w.heap.size+2≤w1.drew.heap.size:=hsz1
  generalize w1.drew=W at *
  refine tkH (i:=0) (v:=.pointer (some ⟨D,0,none⟩)) rfl (Or.inl ⟨by rfl,fun w hSw=>by obtain ⟨y0,y1,y2,y3,y4,y5,y6,y7,y8,y9⟩:=hSw;go_simp⟩) hS ?_
  simp only [Act.put,jA,jB,jC]
  refine tkH (i:=1) (v:=.pointer (some ⟨w.heap.size,3,none⟩)) rfl (Or.inl ⟨by rfl,fun w hSw=>by obtain ⟨y0,y1,y2,y3,y4,y5,y6,y7,y8,y9⟩:=hSw;go_simp⟩) hS ?_
  simp only [Act.put,jA,jB,jC]
  refine tkH (i:=2) (v:=.slice (some ⟨g,o,none⟩) 1 c) rfl (Or.inl ⟨by rfl,fun w hSw=>by obtain ⟨y0,y1,y2,y3,y4,y5,y6,y7,y8,y9⟩:=hSw;go_simp⟩) hS ?_
  simp only [Act.put,jA,jB,jC]
  refine tkH (i:=3) (v:=.pointer (some ⟨g,o,none⟩)) rfl (Or.inl ⟨by rfl,fun w hSw=>by obtain ⟨y0,y1,y2,y3,y4,y5,y6,y7,y8,y9⟩:=hSw;go_simp⟩) hS ?_
  simp only [Act.put,jA,jB,jC]
  refine tkH (i:=4) (v:=.agg #[.int .i64 kk,.string xx,.int .i64 mm,.slice aa na ca]) rfl (Or.inl ⟨by rfl,fun w hSw=>by obtain ⟨y0,y1,y2,y3,y4,y5,y6,y7,y8,y9⟩:=hSw;go_simp⟩) hS ?_
  simp only [Act.put,jA,jB,jC]
  refine tkH (i:=5) (v:=.pointer (some ⟨w.heap.size+1,0,none⟩)) rfl (Or.inl ⟨by rfl,fun w hSw=>by obtain ⟨y0,y1,y2,y3,y4,y5,y6,y7,y8,y9⟩:=hSw;go_simp⟩) hS ?_
  simp only [Act.put,jA,jB,jC]
  refine tkH (i:=6) (v:=.int .i64 ctx) rfl (Or.inl ⟨by rfl,fun w hSw=>by obtain ⟨y0,y1,y2,y3,y4,y5,y6,y7,y8,y9⟩:=hSw;go_simp⟩) hS ?_
  simp only [Act.put,jA,jB,jC]
  refine wpAnyH_ready (rs:=[7]) (by kernel_rfl) (by simp) ?_
  refine AllReadyH.cons rfl (fun K hK=>?_) AllReadyH.nil
  go_simp
  go_at_call 159
  refine (hC W hI1).mono ?_
  cases X with
  | bad cc bb =>
    have HB:Hid (R=.bad cc bb):=HR.out
    rintro e w2 ⟨rfl,hb2⟩
    go_wp2
    exact ⟨rfl,SR.mkBad HB.out hb2⟩
  | ok q =>
    obtain ⟨l1,a1⟩:=q
    have HB:Hid (R=.bad 2 at_):=HR.out
    rintro e w2 ⟨rfl,hI2,hF2⟩
    have hS2:=hS.fr (FrU.of hF2 u) hI1.bs hI2.bs hg (by omega) (by omega) (fun e=>by have:=hub _ e;omega) (fun e=>by have:=hub _ e;omega)
    have hf2:=hf1.trans (FrU.of hF2 u)
    have hsz2:w.heap.size+2≤w2.heap.size:=Nat.le_trans hsz1 hF2.size
    clear hF2 hS hI1 hf1 hC hsz1
    go_wp2
    refine hK.out _ _ hS2 (fun hHeld=>?_)
    clear hK K hHeld
    refine wpAnyH_done (by kernel_rfl) ?_ _
    go_wp2_with (go_at_call 131;refine (oRefuseC 2 at_ _).mono ?_;rintro e w3 ⟨rfl,hw3⟩;rw [hw3])
    exact ⟨rfl,SR.mkBad HB.out hI2.bs⟩
end
end Go.Proofs.YtfopddgjdaoidaaGreatDoor.chk
