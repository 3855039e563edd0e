/- Boxes of cells, while others turn. -/
import Derived.Test.YtfopddgjdaoidaaGreatDoorNR16
set_option linter.unusedVariables false
set_option linter.unusedSimpArgs false
set_option maxRecDepth 100000
namespace Go.Proofs.YtfopddgjdaoidaaGreatDoor
namespace chk
open Go.RowKit Go.Shelf
open syn face
section
variable {E:Env} {p:Pr} {w0:World} {D Kb kn:Nat} {kf:KF}
set_option maxHeartbeats 4000000 in
theorem oStatIn (l:Bool) (k:Int) (x:ByteArray) (m:Int) (ks:List Tree) (hp:PlT (.node k x m ks)) (hx:LongN x) (hkids:∀ t∈ks,ExT t) (hT:∀ L,LabL L→Tab E L kf (vsOf L)):StatC E p w0 D Kb kn kf (.node 13 empty (bI l) [.node k x m ks]):=by
 intro ctx deep first L u v w at_ hv hInv hLab h20 hctx hdeep h h0 hm
 have c24:=kc25
 have c2:=kc179
 have c4:Tryz.prog.cellsOf 76=4:=cell4
 have hTab:=hT L hLab
 have hvs:(vsOf L).length≤1000:=by rw [vsOf_len];omega
 rw [cntN] at hm
 have hcl:=cntL_pos [.node k x m ks]
 obtain ⟨g,o,c,rfl,hg,hl,hkid⟩:=lies_kid hv (by simp)
 obtain ⟨kk,xx,mm,aa,na,ca,k0,k1,k2,k3,hle⟩:=hkid 0 (by simp)
 simp only [Nat.zero_mul,Nat.add_zero,List.getElem_cons_zero,List.length_singleton] at k0 k1 k2 k3 hle ⊢
 have HR:=show Hid _ from st_in p ctx deep at_ hTab hctx l hp
 obtain ⟨R,hR⟩:∃ R,stF E p ctx deep false (.node 13 empty (bI l) [.node k x m ks]) L at_=R:=⟨_,rfl⟩
 rw [hR] at HR ⊢
 clear hR hkid hv
 have hub:∀ b,u.ownBlock=some b→b<w.heap.size:=fun b e=>(h.rl.lt _ e).2
 have hd:=h.lt
 have hI0:=(h.alloc (.cells #[.int .i64 13,.string empty,.int .i64 (bI l),.slice (some ⟨g,o,none⟩) 1 c] 25)).alloc (.cells #[.int .i64 ctx,.int .i64 (first:Int)] 179)
 have hf0:=((FrU.refl D u w).alloc (.cells #[.int .i64 13,.string empty,.int .i64 (bI l),.slice (some ⟨g,o,none⟩) 1 c] 25)).alloc (.cells #[.int .i64 ctx,.int .i64 (first:Int)] 179)
 have hBg:=hI0.begin h0 (by omega)
 have hS0:HS w.heap.size g o (.int .i64 13) (.string empty) (.int .i64 (bI l)) (.slice (some ⟨g,o,none⟩) 1 c) (.int .i64 kk) (.string xx) (.int .i64 mm) (.slice aa na ca) (.int .i64 ctx) (.int .i64 (first:Int)) ((w.alloc (.cells #[.int .i64 13,.string empty,.int .i64 (bI l),.slice (some ⟨g,o,none⟩) 1 c] 25)).alloc (.cells #[.int .i64 ctx,.int .i64 (first:Int)] 179)) :=
  HS.new hI0.bs hg k0 k1 k2 k3
 have hgD:g≠D:=by have:=h.hD;omega
 have hKb:=h.mp.lt
 have hfm:=h.fm
 have hcp:=cntT_pos (.node k x m ks)
 have hcp2:=cntL_pos ks
 have hcn:=cntN k x m ks
 rw [cntL_one] at hm
 have hC:=fun W (hI1:CS w0 W D Kb kn kf (vsOf L) u (at_+1))=>oPlace E L hvs k x m ks _ W ctx (at_+1) hkids hx hle hI1 (by omega) (by omega) (fun j hj v w a h1 h2 h3 h4 h5=>oExpr E L ctx (hTab.agr ctx) hvs ks[j] v w a h1 h2 h3 h4 h5)
 have HA:Hid (∀ q,plP kf (vsOf L) k x (at_+1) (exL E L ctx ks (at_+1+1))=.ok q→q.2.2=at_+1+cntT (.node k x m ks)):=fun q hq=>plP_at (m:=m) hq
 clear hle k0 k1 k2 k3 hx hkids hcn hcp2
 generalize plP kf (vsOf L) k x (at_+1) (exL E L ctx ks (at_+1+1))=X at *
 go_enter Tryz.func157,Tryz.ntmps157
 go_wp2_with (go_at_call 81;refine hBg.mono ?_;rintro e w1 ⟨rfl,hw1⟩;have hI1:CS w0 w1 D Kb kn kf (vsOf L) u (at_+1):=by { rw [hw1];exact hI0.setAt _ };have hS1:HS w.heap.size g o (.int .i64 13) (.string empty) (.int .i64 (bI l)) (.slice (some ⟨g,o,none⟩) 1 c) (.int .i64 kk) (.string xx) (.int .i64 mm) (.slice aa na ca) (.int .i64 ctx) (.int .i64 (first:Int)) w1:=by { rw [hw1];exact hS0.setD (by omega) (by omega) hgD _ _ };have hf1:FrU D u u w w1:=by { rw [hw1];exact hf0.set _ _ (fun _ e=>e) };have hsz1:w.heap.size+2≤w1.heap.size:=by { rw [hw1,World.size_setCell];simp };clear hw1;obtain ⟨y0,y1,y2,y3,y4,y5,y6,y7,y8,y9⟩:=id hS1)
 clear y0 y1 y2 y3 y4 y5 y6 y7 y8 y9 hI0 hf0 hS0 hBg
 have hS:HS w.heap.size g o (.int .i64 13) (.string empty) (.int .i64 (bI l)) (.slice (some ⟨g,o,none⟩) 1 c) (.int .i64 kk) (.string xx) (.int .i64 mm) (.slice aa na ca) (.int .i64 ctx) (.int .i64 (first:Int)) w1.drew:=hS1
 refine wp_region_held_drew (S:=HS w.heap.size g o (.int .i64 13) (.string empty) (.int .i64 (bI l)) (.slice (some ⟨g,o,none⟩) 1 c) (.int .i64 kk) (.string xx) (.int .i64 mm) (.slice aa na ca) (.int .i64 ctx) (.int .i64 (first:Int))) (by kernel_rfl) hS (fun hHeld=>?_)
 clear hHeld
 replace hI1:=hI1.drew
 replace hf1:=hf1.drew
 replace hsz1:w.heap.size+2≤w1.drew.heap.size:=hsz1
 generalize w1.drew=W at *
 refine tkP 0 (.pointer (some ⟨D,0,none⟩)) hS ?_
 simp only [Act.put,jA,jB,jC]
 refine tkP 1 (.pointer (some ⟨w.heap.size,3,none⟩)) hS ?_
 simp only [Act.put,jA,jB,jC]
 refine tkP 2 (.slice (some ⟨g,o,none⟩) 1 c) hS ?_
 simp only [Act.put,jA,jB,jC]
 refine tkP 3 (.pointer (some ⟨g,o,none⟩)) hS ?_
 simp only [Act.put,jA,jB,jC]
 refine tkP 4 (.agg #[.int .i64 kk,.string xx,.int .i64 mm,.slice aa na ca]) hS ?_
 simp only [Act.put,jA,jB,jC]
 refine tkP 5 (.pointer (some ⟨w.heap.size+1,0,none⟩)) hS ?_
 simp only [Act.put,jA,jB,jC]
 refine tkP 6 (.int .i64 ctx) hS ?_
 simp only [Act.put,jA,jB,jC]
 refine wpAnyH_ready (rs:=[7,11]) (by kernel_rfl) (by simp) ?_
 refine AllReadyH.cons rfl (fun K hK=>?_) ?_
 ·go_simp
  go_at_call 185
  refine (hC W hI1).mono ?_
  cases X with
  | bad cc bb =>
   have HB:Hid (R=.bad cc bb):=HR.out
   rintro e w2 ⟨rfl,hb2⟩
   go_wp2
   exact ⟨rfl,SR.mkBad HB.out hb2⟩
  | ok q =>
   have HAT:=HA.out q rfl
   obtain ⟨vv,ix,a1⟩:=q
   dsimp only at HAT
   subst HAT
   rintro e w2 ⟨rfl,hI2,hF2⟩
   dsimp only at hI2 HR
   unfold varV
   have hS2:=hS.fr (FrU.of hF2 u) hI1.bs hI2.bs hg (by omega) (by omega) (fun e=>by have:=hub _ e;omega) (fun e=>by have:=hub _ e;omega)
   have hf2:=hf1.trans (FrU.of hF2 u)
   have hsz2:w.heap.size+2≤w2.heap.size:=Nat.le_trans hsz1 hF2.size
   clear hF2 hS hI1 hf1 hC hsz1
   go_wp2
   refine hK.out _ _ hS2 (fun hHeld=>?_)
   clear hK K hHeld
   refine tkP 8 (.tuple #[.agg #[.string vv.name,.bool vv.pub,.int .i64 vv.label,.int .i64 vv.size],.int .i64 ix]) hS2 ?_
   simp only [Act.put,jA,jB,jC]
   refine tkP 9 (.agg #[.string vv.name,.bool vv.pub,.int .i64 vv.label,.int .i64 vv.size]) hS2 ?_
   simp only [Act.put,jA,jB,jC]
   refine tkP 10 (.int .i64 ix) hS2 ?_
   simp only [Act.put,jA,jB,jC]
   refine oneH 11 fun K hK=>?_
   go_simp
   have hB3:=Boxed4.new w2 zeroVar
   have hI3:=hI2.alloc (.cells #[.string ⟨#[]⟩,.bool false,.int .i64 0,.int .i64 0] 76)
   have hS3:=hS2.fr ((FrU.refl D u w2).alloc (.cells #[.string ⟨#[]⟩,.bool false,.int .i64 0,.int .i64 0] 76)) hI2.bs hI3.bs hg (by omega) (by omega) (fun e=>by have:=hub _ e;omega) (fun e=>by have:=hub _ e;omega)
   have hf3:=hf2.alloc (.cells #[.string ⟨#[]⟩,.bool false,.int .i64 0,.int .i64 0] 76)
   have hsz3:w.heap.size+2≤(w2.alloc (.cells #[.string ⟨#[]⟩,.bool false,.int .i64 0,.int .i64 0] 76)).heap.size:=by simp;omega
   refine hK.out _ _ hS3 (fun hHeld=>?_)
   clear hK K hHeld hI2 hS2 hf2
   change Boxed4 (w2.alloc (.cells #[.string ⟨#[]⟩,.bool false,.int .i64 0,.int .i64 0] 76)) w2.heap.size zeroVar at hB3
   generalize w2.alloc (.cells #[.string ⟨#[]⟩,.bool false,.int .i64 0,.int .i64 0] 76)=W3 at *
   have hlo:=hsz2
   clear hsz2
   generalize w2.heap.size=B3 at *
   obtain ⟨z0,z1,z2,z3,zf⟩:=hB3.cells
   have zf0:=zf 0
   have zf1:=zf 1
   have zf2:=zf 2
   have zf3:=zf 3
   refine oneH 12 fun K hK=>?_
   go_simp
   have hg3:g≠B3:=by have:=hI3.mM;omega
   have hI5:=hI3.put4 (b:=B3) (by omega) (by omega) (fun e=>by have:=hub _ e;omega) (by omega) (.string vv.name) (.bool vv.pub) (.int .i64 vv.label) (.int .i64 vv.size)
   have hS5:=(((hS3.setD (D:=B3) (by omega) (by omega) hg3 0 (.string vv.name)).setD (D:=B3) (by omega) (by omega) hg3 1 (.bool vv.pub)).setD (D:=B3) (by omega) (by omega) hg3 2 (.int .i64 vv.label)).setD (D:=B3) (by omega) (by omega) hg3 3 (.int .i64 vv.size)
   have hf5:=(((hf3.put (b:=B3) (o:=0) (by omega) (.string vv.name)).put (b:=B3) (o:=1) (by omega) (.bool vv.pub)).put (b:=B3) (o:=2) (by omega) (.int .i64 vv.label)).put (b:=B3) (o:=3) (by omega) (.int .i64 vv.size)
   have hB5:=hB3.put vv
   have hsz5:w.heap.size+2≤((((W3.setCell ⟨B3,0,none⟩ (.string vv.name)).setCell ⟨B3,1,none⟩ (.bool vv.pub)).setCell ⟨B3,2,none⟩ (.int .i64 vv.label)).setCell ⟨B3,3,none⟩ (.int .i64 vv.size)).heap.size:=by simp only [World.size_setCell];exact hsz3
   refine hK.out _ _ hS5 (fun hHeld=>?_)
   clear hK K hHeld z0 z1 z2 z3 zf zf0 zf1 zf2 zf3 hI3 hS3 hf3 hB3 hsz3
   generalize ((((W3.setCell ⟨B3,0,none⟩ (.string vv.name)).setCell ⟨B3,1,none⟩ (.bool vv.pub)).setCell ⟨B3,2,none⟩ (.int .i64 vv.label)).setCell ⟨B3,3,none⟩ (.int .i64 vv.size))=W5 at *
   refine tkP 13 (.int .i64 ix) hS5 ?_
   simp only [Act.put,jA,jB,jC]
   simp only [List.getElem_toArray,List.getElem_cons_succ,List.getElem_cons_zero,List.setIfInBounds_toArray,List.set_cons_zero,List.set_cons_succ]
   refine wpAnyH_done (by kernel_rfl) ?_ _
   obtain ⟨y0,y1,y2,y3,y4,y5,y6,y7,y8,y9⟩:=id hS5
   clear HA hTab hT
   generalize at_+1+cntT (.node k x m ks)=a1 at *
   go_wp2_with (go_at_call 156;refine (oLabelOf 13 empty (bI l) _ _ _ _).mono ?_;rintro e w6 ⟨rfl,hb6⟩;rw [bits_bI];have hI6:=hI5.below hb6;have hS6:=hS5.fr (FrU.below hb6 D u) hI5.bs hI6.bs hg (by omega) (by omega) (fun e=>by have:=hub _ e;omega) (fun e=>by have:=hub _ e;omega);have hf6:=hf5.trans (FrU.below hb6 D u);have hB6:=hB5.below hb6 hB5.lt;obtain ⟨y0,y1,y2,y3,y4,y5,y6,y7,y8,y9⟩:=id hS6)
   have hI7:=hI6.alloc (.cells #[.int .i64 ctx] 3)
   have hS7:=hS6.fr ((FrU.refl D u w6).alloc (.cells #[.int .i64 ctx] 3)) hI6.bs hI7.bs hg (by omega) (by omega) (fun e=>by have:=hub _ e;omega) (fun e=>by have:=hub _ e;omega)
   have hf7:=hf6.alloc (.cells #[.int .i64 ctx] 3)
   have hB7:=hB6.alloc (.cells #[.int .i64 ctx] 3)
   refine (oFlow at_ (bI l) [ctx] _ _ (ints_one _ _)).mono ?_
   clear hI5 hS5 hf5 hB5 hI6 hS6 hf6 hB6 hb6 y0 y1 y2 y3 y4 y5 y6 y7 y8 y9
   generalize w6.alloc (.cells #[.int .i64 ctx] 3)=W7 at *
   rintro e w8 (⟨hfl,rfl,rfl⟩|⟨hfl,rfl,rfl⟩)
   ·have HB:Hid (R=if flows vv.label [bI l,ix,ctx]=false then .bad 7 at_ else .ok (L,a1)):=HR.out.trans (if_neg (by rw [hfl];decide))
    clear hfl HR
    obtain ⟨z0,z1,z2,z3,zf⟩:=hB7.cells
    obtain ⟨y0,y1,y2,y3,y4,y5,y6,y7,y8,y9⟩:=id hS7
    go_wp2_with (fail)
    refine (oFlow at_ vv.label [bI l,ix,ctx] _ _ (ints_three _ _ _ _)).mono ?_
    rintro e w9 (⟨hfl,rfl,rfl⟩|⟨hfl,rfl,rfl⟩)
    ·have HC:Hid (R=.ok (L,a1)):=HB.out.trans (if_neg (by rw [hfl];decide))
     clear hfl HB
     go_wp2
     go_end0
     exact SR.mkOk HC.out (hI7.alloc _) (hf7.alloc _)
    ·have HC:Hid (R=.bad 7 at_):=HB.out.trans (if_pos hfl)
     clear hfl HB
     go_wp2
     exact ⟨rfl,SR.mkBad HC.out (hI7.alloc _).bs⟩
   ·have HC:Hid (R=.bad 7 at_):=HR.out.trans (if_pos hfl)
    clear hfl HR
    go_wp2
    exact ⟨rfl,SR.mkBad HC.out hI7.bs⟩
 ·refine AllReadyH.cons rfl (fun K hK=>?_) AllReadyH.nil
  go_simp
  have hB2:=Boxed4.new W zeroVar
  have hI2:=hI1.alloc (.cells #[.string ⟨#[]⟩,.bool false,.int .i64 0,.int .i64 0] 76)
  have hS2:=hS.fr ((FrU.refl D u W).alloc (.cells #[.string ⟨#[]⟩,.bool false,.int .i64 0,.int .i64 0] 76)) hI1.bs hI2.bs hg (by omega) (by omega) (fun e=>by have:=hub _ e;omega) (fun e=>by have:=hub _ e;omega)
  have hf2:=hf1.alloc (.cells #[.string ⟨#[]⟩,.bool false,.int .i64 0,.int .i64 0] 76)
  have hsz2:w.heap.size+2≤(W.alloc (.cells #[.string ⟨#[]⟩,.bool false,.int .i64 0,.int .i64 0] 76)).heap.size:=by simp;omega
  refine hK.out _ _ hS2 (fun hHeld=>?_)
  clear hK K hHeld hI1 hS hf1
  change Boxed4 (W.alloc (.cells #[.string ⟨#[]⟩,.bool false,.int .i64 0,.int .i64 0] 76)) W.heap.size zeroVar at hB2
  generalize W.alloc (.cells #[.string ⟨#[]⟩,.bool false,.int .i64 0,.int .i64 0] 76)=W2 at *
  have hlo:=hsz1
  clear hsz1
  generalize W.heap.size=B3 at *
  refine oneH 7 fun K hK=>?_
  go_simp
  go_at_call 185
  refine (hC W2 hI2).mono ?_
  cases X with
  | bad cc bb =>
   have HB:Hid (R=.bad cc bb):=HR.out
   rintro e w3 ⟨rfl,hb3⟩
   go_wp2
   exact ⟨rfl,SR.mkBad HB.out hb3⟩
  | ok q =>
   have HAT:=HA.out q rfl
   obtain ⟨vv,ix,a1⟩:=q
   dsimp only at HAT
   subst HAT
   rintro e W3 ⟨rfl,hI3,hF3⟩
   dsimp only at hI3 HR
   unfold varV
   have hS3:=hS2.fr (FrU.of hF3 u) hI2.bs hI3.bs hg (by omega) (by omega) (fun e=>by have:=hub _ e;omega) (fun e=>by have:=hub _ e;omega)
   have hf3:=hf2.trans (FrU.of hF3 u)
   have hsz3:w.heap.size+2≤W3.heap.size:=Nat.le_trans hsz2 hF3.size
   have hB3:=hB2.kept hF3 (by simp;omega)
   clear hF3 hS2 hI2 hf2 hsz2 hC hB2
   go_wp2
   refine hK.out _ _ hS3 (fun hHeld=>?_)
   clear hK K hHeld
   refine tkP 8 (.tuple #[.agg #[.string vv.name,.bool vv.pub,.int .i64 vv.label,.int .i64 vv.size],.int .i64 ix]) hS3 ?_
   simp only [Act.put,jA,jB,jC]
   refine tkP 9 (.agg #[.string vv.name,.bool vv.pub,.int .i64 vv.label,.int .i64 vv.size]) hS3 ?_
   simp only [Act.put,jA,jB,jC]
   refine tkP 10 (.int .i64 ix) hS3 ?_
   simp only [Act.put,jA,jB,jC]
   obtain ⟨z0,z1,z2,z3,zf⟩:=hB3.cells
   have zf0:=zf 0
   have zf1:=zf 1
   have zf2:=zf 2
   have zf3:=zf 3
   refine oneH 12 fun K hK=>?_
   go_simp
   have hg3:g≠B3:=by have:=hI3.mM;omega
   have hI5:=hI3.put4 (b:=B3) (by omega) (by omega) (fun e=>by have:=hub _ e;omega) (by omega) (.string vv.name) (.bool vv.pub) (.int .i64 vv.label) (.int .i64 vv.size)
   have hS5:=(((hS3.setD (D:=B3) (by omega) (by omega) hg3 0 (.string vv.name)).setD (D:=B3) (by omega) (by omega) hg3 1 (.bool vv.pub)).setD (D:=B3) (by omega) (by omega) hg3 2 (.int .i64 vv.label)).setD (D:=B3) (by omega) (by omega) hg3 3 (.int .i64 vv.size)
   have hf5:=(((hf3.put (b:=B3) (o:=0) (by omega) (.string vv.name)).put (b:=B3) (o:=1) (by omega) (.bool vv.pub)).put (b:=B3) (o:=2) (by omega) (.int .i64 vv.label)).put (b:=B3) (o:=3) (by omega) (.int .i64 vv.size)
   have hB5:=hB3.put vv
   have hsz5:w.heap.size+2≤((((W3.setCell ⟨B3,0,none⟩ (.string vv.name)).setCell ⟨B3,1,none⟩ (.bool vv.pub)).setCell ⟨B3,2,none⟩ (.int .i64 vv.label)).setCell ⟨B3,3,none⟩ (.int .i64 vv.size)).heap.size:=by simp only [World.size_setCell];exact hsz3
   refine hK.out _ _ hS5 (fun hHeld=>?_)
   clear hK K hHeld z0 z1 z2 z3 zf zf0 zf1 zf2 zf3 hI3 hS3 hf3 hB3 hsz3
   generalize ((((W3.setCell ⟨B3,0,none⟩ (.string vv.name)).setCell ⟨B3,1,none⟩ (.bool vv.pub)).setCell ⟨B3,2,none⟩ (.int .i64 vv.label)).setCell ⟨B3,3,none⟩ (.int .i64 vv.size))=W5 at *
   refine tkP 13 (.int .i64 ix) hS5 ?_
   simp only [Act.put,jA,jB,jC]
   simp only [List.getElem_toArray,List.getElem_cons_succ,List.getElem_cons_zero,List.setIfInBounds_toArray,List.set_cons_zero,List.set_cons_succ]
   refine wpAnyH_done (by kernel_rfl) ?_ _
   obtain ⟨y0,y1,y2,y3,y4,y5,y6,y7,y8,y9⟩:=id hS5
   clear HA hTab hT
   generalize at_+1+cntT (.node k x m ks)=a1 at *
   go_wp2_with (go_at_call 156;refine (oLabelOf 13 empty (bI l) _ _ _ _).mono ?_;rintro e w6 ⟨rfl,hb6⟩;rw [bits_bI];have hI6:=hI5.below hb6;have hS6:=hS5.fr (FrU.below hb6 D u) hI5.bs hI6.bs hg (by omega) (by omega) (fun e=>by have:=hub _ e;omega) (fun e=>by have:=hub _ e;omega);have hf6:=hf5.trans (FrU.below hb6 D u);have hB6:=hB5.below hb6 hB5.lt;obtain ⟨y0,y1,y2,y3,y4,y5,y6,y7,y8,y9⟩:=id hS6)
   have hI7:=hI6.alloc (.cells #[.int .i64 ctx] 3)
   have hS7:=hS6.fr ((FrU.refl D u w6).alloc (.cells #[.int .i64 ctx] 3)) hI6.bs hI7.bs hg (by omega) (by omega) (fun e=>by have:=hub _ e;omega) (fun e=>by have:=hub _ e;omega)
   have hf7:=hf6.alloc (.cells #[.int .i64 ctx] 3)
   have hB7:=hB6.alloc (.cells #[.int .i64 ctx] 3)
   refine (oFlow at_ (bI l) [ctx] _ _ (ints_one _ _)).mono ?_
   clear hI5 hS5 hf5 hB5 hI6 hS6 hf6 hB6 hb6 y0 y1 y2 y3 y4 y5 y6 y7 y8 y9
   generalize w6.alloc (.cells #[.int .i64 ctx] 3)=W7 at *
   rintro e w8 (⟨hfl,rfl,rfl⟩|⟨hfl,rfl,rfl⟩)
   ·have HB:Hid (R=if flows vv.label [bI l,ix,ctx]=false then .bad 7 at_ else .ok (L,a1)):=HR.out.trans (if_neg (by rw [hfl];decide))
    clear hfl HR
    obtain ⟨z0,z1,z2,z3,zf⟩:=hB7.cells
    obtain ⟨y0,y1,y2,y3,y4,y5,y6,y7,y8,y9⟩:=id hS7
    go_wp2_with (fail)
    refine (oFlow at_ vv.label [bI l,ix,ctx] _ _ (ints_three _ _ _ _)).mono ?_
    rintro e w9 (⟨hfl,rfl,rfl⟩|⟨hfl,rfl,rfl⟩)
    ·have HC:Hid (R=.ok (L,a1)):=HB.out.trans (if_neg (by rw [hfl];decide))
     clear hfl HB
     go_wp2
     go_end0
     exact SR.mkOk HC.out (hI7.alloc _) (hf7.alloc _)
    ·have HC:Hid (R=.bad 7 at_):=HB.out.trans (if_pos hfl)
     clear hfl HB
     go_wp2
     exact ⟨rfl,SR.mkBad HC.out (hI7.alloc _).bs⟩
   ·have HC:Hid (R=.bad 7 at_):=HR.out.trans (if_pos hfl)
    clear hfl HR
    go_wp2
    exact ⟨rfl,SR.mkBad HC.out hI7.bs⟩
end
section
variable {E:Env} {p:Pr} {w0:World} {D Kb kn:Nat} {kf:KF}
set_option maxHeartbeats 4000000 in
theorem oStatRet (e:Tree) (hx:ExT e) (hT:∀ L,LabL L→Tab E L kf (vsOf L)):StatC E p w0 D Kb kn kf (.node 14 empty 0 [e]):=by
 intro ctx deep first L u v w at_ hv hInv hLab h20 hctx hdeep h h0 hm
 have c24:=kc25
 have c2:=kc179
 have c4:Tryz.prog.cellsOf 76=4:=cell4
 have hTab:=hT L hLab
 have hvs:(vsOf L).length≤1000:=by rw [vsOf_len];omega
 rw [cntN] at hm
 have hcl:=cntL_pos [e]
 obtain ⟨g,o,c,rfl,hg,hl,hkid⟩:=lies_kid hv (by simp)
 obtain ⟨kk,xx,mm,aa,na,ca,k0,k1,k2,k3,hle⟩:=hkid 0 (by simp)
 simp only [Nat.zero_mul,Nat.add_zero,List.getElem_cons_zero,List.length_singleton] at k0 k1 k2 k3 hle ⊢
 have HR:=show Hid _ from st_ret (E:=E) (L:=L) p ctx deep at_ e
 obtain ⟨R,hR⟩:∃ R,stF E p ctx deep false (.node 14 empty 0 [e]) L at_=R:=⟨_,rfl⟩
 rw [hR] at HR ⊢
 clear hR hkid hv
 have hub:∀ b,u.ownBlock=some b→b<w.heap.size:=fun b e=>(h.rl.lt _ e).2
 have hd:=h.lt
 have hI0:=(h.alloc (.cells #[.int .i64 14,.string empty,.int .i64 0,.slice (some ⟨g,o,none⟩) 1 c] 25)).alloc (.cells #[.int .i64 ctx,.int .i64 (first:Int)] 179)
 have hf0:=((FrU.refl D u w).alloc (.cells #[.int .i64 14,.string empty,.int .i64 0,.slice (some ⟨g,o,none⟩) 1 c] 25)).alloc (.cells #[.int .i64 ctx,.int .i64 (first:Int)] 179)
 have hBg:=hI0.begin h0 (by omega)
 have hS0:HS w.heap.size g o (.int .i64 14) (.string empty) (.int .i64 0) (.slice (some ⟨g,o,none⟩) 1 c) (.int .i64 kk) (.string xx) (.int .i64 mm) (.slice aa na ca) (.int .i64 ctx) (.int .i64 (first:Int)) ((w.alloc (.cells #[.int .i64 14,.string empty,.int .i64 0,.slice (some ⟨g,o,none⟩) 1 c] 25)).alloc (.cells #[.int .i64 ctx,.int .i64 (first:Int)] 179)) :=
  HS.new hI0.bs hg k0 k1 k2 k3
 have hgD:g≠D:=by have:=h.hD;omega
 have hKb:=h.mp.lt
 have hfm:=h.fm
 have hcp:=cntT_pos e
 rw [cntL_one] at hm
 have hC:=fun W (hI1:CS w0 W D Kb kn kf (vsOf L) u (at_+1))=>oExpr E L ctx (hTab.agr ctx) hvs e _ W (at_+1) hx hle hI1 (by omega) (by omega)
 clear hle k0 k1 k2 k3 hx hTab hT
 generalize exF E L ctx false e (at_+1)=X at *
 go_enter Tryz.func157,Tryz.ntmps157
 go_wp2_with (go_at_call 81;refine hBg.mono ?_;rintro e w1 ⟨rfl,hw1⟩;have hI1:CS w0 w1 D Kb kn kf (vsOf L) u (at_+1):=by { rw [hw1];exact hI0.setAt _ };have hS1:HS w.heap.size g o (.int .i64 14) (.string empty) (.int .i64 0) (.slice (some ⟨g,o,none⟩) 1 c) (.int .i64 kk) (.string xx) (.int .i64 mm) (.slice aa na ca) (.int .i64 ctx) (.int .i64 (first:Int)) w1:=by { rw [hw1];exact hS0.setD (by omega) (by omega) hgD _ _ };have hf1:FrU D u u w w1:=by { rw [hw1];exact hf0.set _ _ (fun _ e=>e) };have hsz1:w.heap.size+2≤w1.heap.size:=by { rw [hw1,World.size_setCell];simp };clear hw1;obtain ⟨y0,y1,y2,y3,y4,y5,y6,y7,y8,y9⟩:=id hS1)
 clear y0 y1 y2 y3 y4 y5 y6 y7 y8 y9 hI0 hf0 hS0 hBg
 have hS:HS w.heap.size g o (.int .i64 14) (.string empty) (.int .i64 0) (.slice (some ⟨g,o,none⟩) 1 c) (.int .i64 kk) (.string xx) (.int .i64 mm) (.slice aa na ca) (.int .i64 ctx) (.int .i64 (first:Int)) w1.drew:=hS1
 refine wp_region_held_drew (S:=HS w.heap.size g o (.int .i64 14) (.string empty) (.int .i64 0) (.slice (some ⟨g,o,none⟩) 1 c) (.int .i64 kk) (.string xx) (.int .i64 mm) (.slice aa na ca) (.int .i64 ctx) (.int .i64 (first:Int))) (by kernel_rfl) hS (fun hHeld=>?_)
 clear hHeld
 replace hI1:=hI1.drew
 replace hf1:=hf1.drew
 replace hsz1:w.heap.size+2≤w1.drew.heap.size:=hsz1
 generalize w1.drew=W at *
 refine tkP 0 (.pointer (some ⟨D,0,none⟩)) hS ?_
 simp only [Act.put,jA,jB,jC]
 refine tkP 1 (.pointer (some ⟨w.heap.size,3,none⟩)) hS ?_
 simp only [Act.put,jA,jB,jC]
 refine tkP 2 (.slice (some ⟨g,o,none⟩) 1 c) hS ?_
 simp only [Act.put,jA,jB,jC]
 refine tkP 3 (.pointer (some ⟨g,o,none⟩)) hS ?_
 simp only [Act.put,jA,jB,jC]
 refine tkP 4 (.agg #[.int .i64 kk,.string xx,.int .i64 mm,.slice aa na ca]) hS ?_
 simp only [Act.put,jA,jB,jC]
 refine tkP 5 (.pointer (some ⟨w.heap.size+1,0,none⟩)) hS ?_
 simp only [Act.put,jA,jB,jC]
 refine tkP 6 (.int .i64 ctx) hS ?_
 simp only [Act.put,jA,jB,jC]
 refine oneH 7 fun K hK=>?_
 go_simp
 go_at_call 159
 refine (hC W hI1).mono ?_
 cases X with
 | bad cc bb =>
  have HB:Hid (R=.bad cc bb):=HR.out
  rintro e w2 ⟨rfl,hb2⟩
  go_wp2
  exact ⟨rfl,SR.mkBad HB.out hb2⟩
 | ok q =>
  obtain ⟨l1,a1⟩:=q
  have HB:Hid (R=.bad 2 at_):=HR.out
  rintro e w2 ⟨rfl,hI2,hF2⟩
  have hS2:=hS.fr (FrU.of hF2 u) hI1.bs hI2.bs hg (by omega) (by omega) (fun e=>by have:=hub _ e;omega) (fun e=>by have:=hub _ e;omega)
  have hf2:=hf1.trans (FrU.of hF2 u)
  have hsz2:w.heap.size+2≤w2.heap.size:=Nat.le_trans hsz1 hF2.size
  clear hF2 hS hI1 hf1 hC hsz1
  go_wp2
  refine hK.out _ _ hS2 (fun hHeld=>?_)
  clear hK K hHeld
  refine wpAnyH_done (by kernel_rfl) ?_ _
  go_wp2_with (go_at_call 131;refine (oRefuseC 2 at_ _).mono ?_;rintro e w3 ⟨rfl,hw3⟩;rw [hw3])
  exact ⟨rfl,SR.mkBad HB.out hI2.bs⟩
end
theorem blsF_step (E:Env) (p:Pr) (ctx deep:Int) (ks:List Tree) (j:Nat) (hj:j<ks.length) (L:List Loc) (a:Int):blsF E p ctx deep (ks.drop j) L a=match blF E p ctx deep ks[j] L a with
  | .bad c b=>.bad c b
  | .ok q=>blsF E p ctx deep (ks.drop (j+1)) q.1 q.2:=by
 rw [List.drop_eq_getElem_cons hj]
 simp only [blsF]
 rfl
section
variable {E:Env} {p:Pr} {w0:World} {D Kb kn:Nat} {kf:KF}
set_option maxHeartbeats 4000000 in
theorem oStatIf (k:Int) (hk:k=10∨k=11) (x:ByteArray) (m:Int) (e:Tree) (r:List Tree) (hx:ExT e) (hr:∀ t∈r,BlT t) (hne:0<r.length) (hT:∀ L,LabL L→Tab E L kf (vsOf L)) (hcap:∀ g o c,Lies (·<w0.heap.size) w0 (.node k x m (e :: r)) (.agg #[.int .i64 k,.string x,.int .i64 m,.slice (some ⟨g,o,none⟩) (r.length+1) c])→r.length+1≤c)
  (ih:∀ j (hj:j<r.length),BlockC E p w0 D Kb kn kf r[j]):StatC E p w0 D Kb kn kf (.node k x m (e :: r)):=by
 intro ctx deep first L u v w at_ hv hInv hLab h20 hctx hdeep h h0 hm
 have c24:=kc25
 have c2:=kc179
 have c4:Tryz.prog.cellsOf 76=4:=cell4
 have hTab:=hT L hLab
 have hvs:(vsOf L).length≤1000:=by rw [vsOf_len];omega
 rw [cntN] at hm
 have hcl:=cntL_pos (e :: r)
 obtain ⟨g,o,c,rfl,hg,hl,hkid⟩:=lies_kid hv (by simp)
 obtain ⟨kk,xx,mm,aa,na,ca,k0,k1,k2,k3,hle⟩:=hkid 0 (by simp)
 simp only [Nat.zero_mul,Nat.add_zero,List.getElem_cons_zero,List.length_cons] at k0 k1 k2 k3 hle hl ⊢
 have hcp2:=hcap _ _ _ hv
 have hkid2:∀ j (hj:j<r.length),∃ kk xx mm aa na ca,w0.cell? ⟨g,o+4+j*4,none⟩=some (.int .i64 kk)∧w0.cell? ⟨g,o+4+j*4+1,none⟩=some (.string xx)∧w0.cell? ⟨g,o+4+j*4+2,none⟩=some (.int .i64 mm)∧w0.cell? ⟨g,o+4+j*4+3,none⟩=some (.slice aa na ca)∧Lies (·<w0.heap.size) w0 r[j] (.agg #[.int .i64 kk,.string xx,.int .i64 mm,.slice aa na ca]):=fun j hj=>by
  have:=hkid (j+1) (by simp;omega)
  rw [show o+(j+1)*4=o+4+j*4 by omega] at this
  simpa using this
 have HR:=show Hid _ from st_if (E:=E) (L:=L) p ctx deep at_ hk x m e r
 obtain ⟨R,hR⟩:∃ R,stF E p ctx deep false (.node k x m (e :: r)) L at_=R:=⟨_,rfl⟩
 rw [hR] at HR ⊢
 clear hR hkid hv
 have hub:∀ b,u.ownBlock=some b→b<w.heap.size:=fun b e=>(h.rl.lt _ e).2
 have hd:=h.lt
 have hI0:=(h.alloc (.cells #[.int .i64 k,.string x,.int .i64 m,.slice (some ⟨g,o,none⟩) (r.length+1) c] 25)).alloc (.cells #[.int .i64 ctx,.int .i64 (first:Int)] 179)
 have hf0:=((FrU.refl D u w).alloc (.cells #[.int .i64 k,.string x,.int .i64 m,.slice (some ⟨g,o,none⟩) (r.length+1) c] 25)).alloc (.cells #[.int .i64 ctx,.int .i64 (first:Int)] 179)
 have hBg:=hI0.begin h0 (by omega)
 have hS0:HS w.heap.size g o (.int .i64 k) (.string x) (.int .i64 m) (.slice (some ⟨g,o,none⟩) (r.length+1) c) (.int .i64 kk) (.string xx) (.int .i64 mm) (.slice aa na ca) (.int .i64 ctx) (.int .i64 (first:Int)) ((w.alloc (.cells #[.int .i64 k,.string x,.int .i64 m,.slice (some ⟨g,o,none⟩) (r.length+1) c] 25)).alloc (.cells #[.int .i64 ctx,.int .i64 (first:Int)] 179)) :=
  HS.new hI0.bs hg k0 k1 k2 k3
 have hgD:g≠D:=by have:=h.hD;omega
 have hKb:=h.mp.lt
 have hfm:=h.fm
 have hcp:=cntT_pos e
 have hcr:=cntL_pos r
 have hlr:=len_cnt r
 have hce:cntL (e :: r)=cntT e+cntL r:=rfl
 have hC:=fun W (hI1:CS w0 W D Kb kn kf (vsOf L) u (at_+1))=>oExpr E L ctx (hTab.agr ctx) hvs e _ W (at_+1) hx hle hI1 (by omega) (by omega)
 have HA:Hid (∀ q,exF E L ctx false e (at_+1)=.ok q→q.2=at_+1+cntT e):=fun q hq=>exF_at E L ctx _ _ _ _ hq
 clear hle k0 k1 k2 k3 hx hTab hT hcap
 generalize exF E L ctx false e (at_+1)=X at *
 have hk7:¬ k=7:=by omega
 have hk8:¬ k=8:=by omega
 have hk9:¬ k=9:=by omega
 go_enter Tryz.func157,Tryz.ntmps157
 go_wp2_with (go_at_call 81;refine hBg.mono ?_;rintro e w1 ⟨rfl,hw1⟩;have hI1:CS w0 w1 D Kb kn kf (vsOf L) u (at_+1):=by { rw [hw1];exact hI0.setAt _ };have hS1:HS w.heap.size g o (.int .i64 k) (.string x) (.int .i64 m) (.slice (some ⟨g,o,none⟩) (r.length+1) c) (.int .i64 kk) (.string xx) (.int .i64 mm) (.slice aa na ca) (.int .i64 ctx) (.int .i64 (first:Int)) w1:=by { rw [hw1];exact hS0.setD (by omega) (by omega) hgD _ _ };have hf1:FrU D u u w w1:=by { rw [hw1];exact hf0.set _ _ (fun _ e=>e) };have hsz1:w.heap.size+2≤w1.heap.size:=by { rw [hw1,World.size_setCell];simp };clear hw1;obtain ⟨y0,y1,y2,y3,y4,y5,y6,y7,y8,y9⟩:=id hS1)
 clear y0 y1 y2 y3 y4 y5 y6 y7 y8 y9 hI0 hf0 hS0 hBg
 all_goals
  have hS:HS w.heap.size g o (.int .i64 k) (.string x) (.int .i64 m) (.slice (some ⟨g,o,none⟩) (r.length+1) c) (.int .i64 kk) (.string xx) (.int .i64 mm) (.slice aa na ca) (.int .i64 ctx) (.int .i64 (first:Int)) w1.drew:=hS1
  refine wp_region_held_drew (S:=HS w.heap.size g o (.int .i64 k) (.string x) (.int .i64 m) (.slice (some ⟨g,o,none⟩) (r.length+1) c) (.int .i64 kk) (.string xx) (.int .i64 mm) (.slice aa na ca) (.int .i64 ctx) (.int .i64 (first:Int))) (by kernel_rfl) hS (fun hHeld=>?_)
  clear hHeld
  replace hI1:=hI1.drew
  replace hf1:=hf1.drew
  replace hsz1:w.heap.size+2≤w1.drew.heap.size:=hsz1
  generalize w1.drew=W at *
  refine tkP 0 (.pointer (some ⟨D,0,none⟩)) hS ?_
  simp only [Act.put,jA,jB,jC]
  refine tkP 1 (.pointer (some ⟨w.heap.size,3,none⟩)) hS ?_
  simp only [Act.put,jA,jB,jC]
  refine tkP 2 (.slice (some ⟨g,o,none⟩) (r.length+1) c) hS ?_
  simp only [Act.put,jA,jB,jC]
  refine tkP 3 (.pointer (some ⟨g,o,none⟩)) hS ?_
  simp only [Act.put,jA,jB,jC]
  refine tkP 4 (.agg #[.int .i64 kk,.string xx,.int .i64 mm,.slice aa na ca]) hS ?_
  simp only [Act.put,jA,jB,jC]
  refine tkP 5 (.pointer (some ⟨w.heap.size+1,0,none⟩)) hS ?_
  simp only [Act.put,jA,jB,jC]
  refine tkP 6 (.int .i64 ctx) hS ?_
  simp only [Act.put,jA,jB,jC]
  refine oneH 7 fun K hK=>?_
  go_simp
  go_at_call 159
  refine (hC W hI1).mono ?_
  cases X with
  | bad cc bb =>
   have HB:Hid (R=.bad cc bb):=HR.out
   rintro e w2 ⟨rfl,hb2⟩
   go_wp2
   exact ⟨rfl,SR.mkBad HB.out hb2⟩
  | ok q =>
   have HAT:=HA.out q rfl
   obtain ⟨l1,a1⟩:=q
   dsimp only at HAT
   subst HAT
   have HB:Hid (R=blsF E p (jn ctx l1) (deep+1) r L (at_+1+cntT e)):=HR.out
   clear HR HA
   rintro e9 w2 ⟨rfl,hI2,hF2⟩
   dsimp only at hI2
   have hS2:=hS.fr (FrU.of hF2 u) hI1.bs hI2.bs hg (by omega) (by omega) (fun e=>by have:=hub _ e;omega) (fun e=>by have:=hub _ e;omega)
   have hf2:=hf1.trans (FrU.of hF2 u)
   have hsz2:w.heap.size+2≤w2.heap.size:=Nat.le_trans hsz1 hF2.size
   clear hF2 hS hI1 hf1 hC hsz1
   go_wp2
   refine hK.out _ _ hS2 (fun hHeld=>?_)
   clear hK K hHeld
   refine tkP 8 (.int .i64 l1) hS2 ?_
   simp only [Act.put,jA,jB,jC]
   simp only [List.getElem_toArray,List.getElem_cons_succ,List.getElem_cons_zero,List.setIfInBounds_toArray,List.set_cons_zero,List.set_cons_succ]
   refine wpAnyH_done (by kernel_rfl) ?_ _
   obtain ⟨y0,y1,y2,y3,y4,y5,y6,y7,y8,y9⟩:=id hS2
   have hc1:¬ c=1:=by omega
   go_wp2
   clear y0 y1 y2 y3 y4 y5 y6 y7 y8 y9
   go_loopw [104] (fun t wr=>∃ (j:Nat) (u':Value),j≤r.length∧t=.int .i64 j∧CS w0 wr D Kb kn kf (vsOf L) u' (at_+1+cntT e+cntL (r.take j))∧FrU D u u' w2 wr∧Hid (R=blsF E p (jn ctx l1) (deep+1) (r.drop j) L (at_+1+cntT e+cntL (r.take j)))) (fun t _=>r.length - (intOf t).toNat)
   case atStart =>
    refine ⟨0,u,Nat.zero_le _,rfl,by simpa [cntL] using hI2,FrU.refl _ _ _,?_⟩
    show _=_
    rw [HB.out,List.drop_zero]
    simp only [List.take_zero,cntL,Int.add_zero]
   case round =>
    obtain ⟨j,u',hj,rfl,hI,hFr,HRR⟩:=hrel
    have hS6:=hS2.fr hFr hI2.bs hI.bs hg (by omega) (by omega) (fun e=>by have:=hub _ e;omega) (fun e=>by have:=hub _ e;omega)
    have hub':∀ b,u'.ownBlock=some b→b<wr.heap.size:=fun b e=>(hI.rl.lt _ e).2
    by_cases hlt:j<r.length
    ·obtain ⟨jk,jx,jm,ja,jn2,jc,c0,c1',c2',c3,hlk⟩:=hkid2 j hlt
     have q0:=(hI.bs.cell (p:=⟨g,o+4+j*4,none⟩) hg).trans c0
     have q1:=(hI.bs.cell (p:=⟨g,o+4+j*4+1,none⟩) hg).trans c1'
     have q2:=(hI.bs.cell (p:=⟨g,o+4+j*4+2,none⟩) hg).trans c2'
     have q3:=(hI.bs.cell (p:=⟨g,o+4+j*4+3,none⟩) hg).trans c3
     have hs1:=cntL_take r j hlt
     have hs2:=cntL_take_le r (j+1)
     have hs3:=cntT_pos r[j]
     have hs4:=cntL_pos (r.take j)
     have hI1:=hI.alloc (.cells #[.int .i64 jk,.string jx,.int .i64 jm,.slice ja jn2 jc] 25)
     have hFr1:=hFr.alloc (.cells #[.int .i64 jk,.string jx,.int .i64 jm,.slice ja jn2 jc] 25)
     have hszr:w2.heap.size≤wr.heap.size:=hFr.size
     have hC:=fun W hIW=>ih j hlt (jn ctx l1) deep first L u' _ W (at_+1+cntT e+cntL (r.take j)) hlk hInv hLab h20 (jn_lab _ _) hdeep hIW (by omega) (by omega)
     have HP:Hid (R=match blF E p (jn ctx l1) (deep+1) r[j] L (at_+1+cntT e+cntL (r.take j)) with
       | .bad c b=>.bad c b
       | .ok q=>blsF E p (jn ctx l1) (deep+1) (r.drop (j+1)) q.1 q.2):=HRR.out.trans (blsF_step E p _ _ r j hlt L _)
     have HA2:Hid (∀ q,blF E p (jn ctx l1) (deep+1) r[j] L (at_+1+cntT e+cntL (r.take j))=.ok q→q.1=L∧q.2=at_+1+cntT e+cntL (r.take (j+1))):=fun q hq=>by
      obtain ⟨h1,h2⟩:=blF_ok E p _ _ _ _ _ _ (hr _ (List.getElem_mem hlt)) hq
      exact ⟨h1,by omega⟩
     clear c0 c1' c2' c3 hlk HRR hs1 hs2 hs3 hs4 ih hkid2 HB
     generalize blF E p (jn ctx l1) (deep+1) r[j] L (at_+1+cntT e+cntL (r.take j))=Y at *
     have n0:=cell_new hS6.2.2.2.2.2.2.2.2.1 (.cells #[.int .i64 jk,.string jx,.int .i64 jm,.slice ja jn2 jc] 25)
     have hS8:(fun W=>W.cell? ⟨wr.heap.size,0,none⟩=some (.int .i64 jk)∧W.cell? ⟨wr.heap.size,1,none⟩=some (.string jx)∧W.cell? ⟨wr.heap.size,2,none⟩=some (.int .i64 jm)∧W.cell? ⟨wr.heap.size,3,none⟩=some (.slice ja jn2 jc)∧W.cell? ⟨w.heap.size+1,0,none⟩=some (.int .i64 ctx)) (wr.alloc (.cells #[.int .i64 jk,.string jx,.int .i64 jm,.slice ja jn2 jc] 25)).drew:=⟨by simp,by simp,by simp,by simp,n0⟩
     go_wp2
     refine wp_region_held_drew (S:=fun W=>W.cell? ⟨wr.heap.size,0,none⟩=some (.int .i64 jk)∧W.cell? ⟨wr.heap.size,1,none⟩=some (.string jx)∧W.cell? ⟨wr.heap.size,2,none⟩=some (.int .i64 jm)∧W.cell? ⟨wr.heap.size,3,none⟩=some (.slice ja jn2 jc)∧W.cell? ⟨w.heap.size+1,0,none⟩=some (.int .i64 ctx)) (by kernel_rfl) hS8 (fun hHeld=>?_)
     clear hHeld q0 q1 q2 q3
     replace hI1:=hI1.drew
     replace hFr1:=hFr1.drew
     have hlt8:wr.heap.size<(wr.alloc (.cells #[.int .i64 jk,.string jx,.int .i64 jm,.slice ja jn2 jc] 25)).drew.heap.size:=by show _<(wr.alloc (.cells #[.int .i64 jk,.string jx,.int .i64 jm,.slice ja jn2 jc] 25)).heap.size;simp
     generalize (wr.alloc (.cells #[.int .i64 jk,.string jx,.int .i64 jm,.slice ja jn2 jc] 25)).drew=W8 at *
     refine tkP 0 (.pointer (some ⟨D,0,none⟩)) hS8 ?_
     simp only [Act.put,jA,jB,jC]
     refine tkP 1 (.agg #[.int .i64 jk,.string jx,.int .i64 jm,.slice ja jn2 jc]) hS8 ?_
     simp only [Act.put,jA,jB,jC]
     refine tkP 2 (.pointer (some ⟨w.heap.size+1,0,none⟩)) hS8 ?_
     simp only [Act.put,jA,jB,jC]
     refine tkP 3 (.int .i64 ctx) hS8 ?_
     simp only [Act.put,jA,jB,jC]
     refine tkP 4 (.int .i64 l1) hS8 ?_
     simp only [Act.put,jA,jB,jC]
     refine oneH 5 fun K hK=>?_
     go_simp
     go_at_call 188
     refine (oJoin _ _ _).mono ?_
     rintro e6 w6 ⟨rfl,hw6⟩
     obtain rfl:=hw6.symm
     go_wp2
     refine hK.out _ _ hS8 (fun hHeld=>?_)
     clear hK K hHeld
     refine oneH 6 fun K hK=>?_
     go_simp
     go_at_call 187
     refine (hC _ hI1).mono ?_
     cases Y with
     | bad cc bb =>
      have HC:Hid (R=.bad cc bb):=HP.out
      rintro e6 w9 ⟨rfl,hb2⟩
      go_wp2
      exact ⟨rfl,SR.mkBad HC.out hb2⟩
     | ok q =>
      obtain ⟨L2,a2⟩:=q
      obtain ⟨g1,g2⟩:=HA2.out _ rfl
      dsimp only at g1 g2
      subst g1 g2
      have HC:Hid (R=blsF E p (jn ctx l1) (deep+1) (r.drop (j+1)) L2 (at_+1+cntT e+cntL (r.take (j+1)))):=HP.out
      clear HP HA2
      rintro e6 w9 ⟨rfl,u9,hI9,hf9⟩
      dsimp only at hI9
      have hS9:(fun W=>W.cell? ⟨wr.heap.size,0,none⟩=some (.int .i64 jk)∧W.cell? ⟨wr.heap.size,1,none⟩=some (.string jx)∧W.cell? ⟨wr.heap.size,2,none⟩=some (.int .i64 jm)∧W.cell? ⟨wr.heap.size,3,none⟩=some (.slice ja jn2 jc)∧W.cell? ⟨w.heap.size+1,0,none⟩=some (.int .i64 ctx)) w9:=⟨(hf9.cell hlt8 (by omega) (fun e=>by have:=hub' _ e;omega)).trans hS8.1,(hf9.cell hlt8 (by omega) (fun e=>by have:=hub' _ e;omega)).trans hS8.2.1,(hf9.cell hlt8 (by omega) (fun e=>by have:=hub' _ e;omega)).trans hS8.2.2.1,(hf9.cell hlt8 (by omega) (fun e=>by have:=hub' _ e;omega)).trans hS8.2.2.2.1,(hf9.cell (by omega) (by omega) (fun e=>by rcases hFr.own _ e with h5 | h5;have:=hub _ h5;omega;omega)).trans hS8.2.2.2.2⟩
      go_wp2
      refine hK.out _ _ hS9 (fun hHeld=>?_)
      clear hK K hHeld
      refine wpAnyH_done (by kernel_rfl) ?_ _
      go_wp2
      exact ⟨⟨j+1,u9,by omega,by simp,hI9,hFr1.trans hf9,HC.out⟩,by simp [intOf];omega⟩
    ·obtain rfl:j=r.length:=by omega
     have HX:Hid (R=.ok (L,at_+1+cntT e+cntL r)):=by
      show _=_
      rw [HRR.out,List.drop_eq_nil_of_le (by omega),List.take_of_length_le (by omega)]
      simp only [blsF]
     rw [List.take_of_length_le (by omega)] at hI
     clear ih HRR hkid2 HB
     go_wp2
     go_end0
     exact SR.mkOk HX.out hI (hf2.trans hFr)
end
def HP (N g o:Nat) (n0 n1 n2 n3 k0 k1 k2 k3 s3 s5:Value) (W:World):Prop :=
 W.cell? ⟨N,0,none⟩=some n0∧W.cell? ⟨N,1,none⟩=some n1∧W.cell? ⟨N,2,none⟩=some n2∧W.cell? ⟨N,3,none⟩=some n3 ∧
 W.cell? ⟨g,o,none⟩=some k0∧W.cell? ⟨g,o+1,none⟩=some k1∧W.cell? ⟨g,o+2,none⟩=some k2∧W.cell? ⟨g,o+3,none⟩=some k3 ∧
 W.cell? ⟨N+1,3,none⟩=some s3∧W.cell? ⟨N+1,5,none⟩=some s5
theorem HP.to {N g o:Nat} {n0 n1 n2 n3 k0 k1 k2 k3 s3 s5:Value} {w w':World} (h:HP N g o n0 n1 n2 n3 k0 k1 k2 k3 s3 s5 w) (a1:∀ i,w'.cell? ⟨N,i,none⟩=w.cell? ⟨N,i,none⟩) (a2:∀ i,w'.cell? ⟨N+1,i,none⟩=w.cell? ⟨N+1,i,none⟩) (a3:∀ i,w'.cell? ⟨g,i,none⟩=w.cell? ⟨g,i,none⟩):HP N g o n0 n1 n2 n3 k0 k1 k2 k3 s3 s5 w':=by
 unfold HP
 rw [a1,a1,a1,a1,a2,a2,a3,a3,a3,a3]
 exact h
theorem HP.setD {N g o D:Nat} {n0 n1 n2 n3 k0 k1 k2 k3 s3 s5:Value} {w:World} (h:HP N g o n0 n1 n2 n3 k0 k1 k2 k3 s3 s5 w) (h1:N≠D) (h2:N+1≠D) (h3:g≠D) (j:Nat) (v:Value):HP N g o n0 n1 n2 n3 k0 k1 k2 k3 s3 s5 (w.setCell ⟨D,j,none⟩ v) :=
 h.to (fun i=>World.cell?_of_block (a:=⟨N,i,none⟩) (Below.heap_setCell w ⟨D,j,none⟩ v N h1)) (fun i=>World.cell?_of_block (a:=⟨N+1,i,none⟩) (Below.heap_setCell w ⟨D,j,none⟩ v (N+1) h2)) (fun i=>World.cell?_of_block (a:=⟨g,i,none⟩) (Below.heap_setCell w ⟨D,j,none⟩ v g h3))
theorem HP.fr {N g o D:Nat} {n0 n1 n2 n3 k0 k1 k2 k3 s3 s5:Value} {w0 w w':World} {u u':Value} (h:HP N g o n0 n1 n2 n3 k0 k1 k2 k3 s3 s5 w) (hf:FrU D u u' w w') (b0:Below w0.heap.size w0 w) (b1:Below w0.heap.size w0 w') (hg:g<w0.heap.size) (hN:N≠D) (hN1:N+1≠D) (hu:u.ownBlock≠some N) (hu1:u.ownBlock≠some (N+1)):HP N g o n0 n1 n2 n3 k0 k1 k2 k3 s3 s5 w' :=
 h.to (fun i=>hf.cell (World.block_lt_of_cell? w ⟨N,0,none⟩ h.1) hN hu) (fun i=>hf.cell (World.block_lt_of_cell? w ⟨N+1,3,none⟩ h.2.2.2.2.2.2.2.2.1) hN1 hu1) (fun i=>(b1.cell (p:=⟨g,i,none⟩) hg).trans (b0.cell (p:=⟨g,i,none⟩) hg).symm)
section
variable {E:Env} {p:Pr} {w0:World} {D Kb kn:Nat} {kf:KF}
set_option maxHeartbeats 4000000 in
theorem oResult (e:Tree) (hx:ExT e) (hT:∀ L,LabL L→Tab E L kf (vsOf L)) (q:ProcD) (za:Option Addr) (zn zc:Nat) (hgv:q.gives=true) (hlg:Lab q.given) (L:List Loc) (u v:Value) (w:World) (at_:Int) (hv:Lies (·<w0.heap.size) w0 (.node 14 empty 0 [e]) v) (hLab:LabL L) (h20:L.length≤20) (h:CS w0 w D Kb kn kf (vsOf L) u at_) (h0:0≤at_) (hm:at_+cntT (.node 14 empty 0 [e])≤1000000) :
  Calls Tryz.prog 134 #[.pointer (some ⟨D,0,none⟩),v,procV q (.slice za zn zc)] w (SR w0 D Kb kn kf u w (stF E ⟨q.gives,q.given⟩ q.writes 1 true (.node 14 empty 0 [e]) L at_)):=by
 have c24:=kc25
 have c6:Tryz.prog.cellsOf 80=6:=cell6
 have hTab:=hT L hLab
 have hvs:(vsOf L).length≤1000:=by rw [vsOf_len];omega
 rw [cntN,cntL_one] at hm
 have hcp:=cntT_pos e
 obtain ⟨g,o,c,rfl,hg,hl,hkid⟩:=lies_kid hv (by simp)
 obtain ⟨kk,xx,mm,aa,na,ca,k0,k1,k2,k3,hle⟩:=hkid 0 (by simp)
 simp only [Nat.zero_mul,Nat.add_zero,List.getElem_cons_zero,List.length_singleton] at k0 k1 k2 k3 hle ⊢
 have HR:=show Hid _ from st_last (E:=E) (L:=L) ⟨q.gives,q.given⟩ q.writes 1 at_ hTab hgv hlg e
 obtain ⟨R,hR⟩:∃ R,stF E ⟨q.gives,q.given⟩ q.writes 1 true (.node 14 empty 0 [e]) L at_=R:=⟨_,rfl⟩
 rw [hR] at HR ⊢
 clear hR hkid hv hgv
 unfold procV
 have hub:∀ b,u.ownBlock=some b→b<w.heap.size:=fun b e=>(h.rl.lt _ e).2
 have hd:=h.lt
 have hI0:=(h.alloc (.cells #[.int .i64 14,.string empty,.int .i64 0,.slice (some ⟨g,o,none⟩) 1 c] 25)).alloc (.cells #[.string q.name,.bool q.pub,.slice za zn zc,.int .i64 q.writes,.bool q.gives,.int .i64 q.given] 80)
 have hf0:=((FrU.refl D u w).alloc (.cells #[.int .i64 14,.string empty,.int .i64 0,.slice (some ⟨g,o,none⟩) 1 c] 25)).alloc (.cells #[.string q.name,.bool q.pub,.slice za zn zc,.int .i64 q.writes,.bool q.gives,.int .i64 q.given] 80)
 have hBg:=hI0.begin h0 (by omega)
 have hS0:HP w.heap.size g o (.int .i64 14) (.string empty) (.int .i64 0) (.slice (some ⟨g,o,none⟩) 1 c) (.int .i64 kk) (.string xx) (.int .i64 mm) (.slice aa na ca) (.int .i64 q.writes) (.int .i64 q.given) ((w.alloc (.cells #[.int .i64 14,.string empty,.int .i64 0,.slice (some ⟨g,o,none⟩) 1 c] 25)).alloc (.cells #[.string q.name,.bool q.pub,.slice za zn zc,.int .i64 q.writes,.bool q.gives,.int .i64 q.given] 80)) :=
  ⟨by simp,by simp,by simp,by simp,(hI0.bs.cell (p:=⟨g,o,none⟩) hg).trans k0,(hI0.bs.cell (p:=⟨g,o+1,none⟩) hg).trans k1,(hI0.bs.cell (p:=⟨g,o+2,none⟩) hg).trans k2,(hI0.bs.cell (p:=⟨g,o+3,none⟩) hg).trans k3,news_new _ #[.string q.name,.bool q.pub,.slice za zn zc,.int .i64 q.writes,.bool q.gives,.int .i64 q.given] _ (w.heap.size+1) (by simp) 3 _ rfl,news_new _ #[.string q.name,.bool q.pub,.slice za zn zc,.int .i64 q.writes,.bool q.gives,.int .i64 q.given] _ (w.heap.size+1) (by simp) 5 _ rfl⟩
 have hgD:g≠D:=by have:=h.hD;omega
 have hC:=fun W (hI1:CS w0 W D Kb kn kf (vsOf L) u (at_+1))=>oExpr E L q.writes (hTab.agr q.writes) hvs e _ W (at_+1) hx hle hI1 (by omega) (by omega)
 clear hle k0 k1 k2 k3 hx hTab hT
 generalize exF E L q.writes false e (at_+1)=X at *
 go_enter Tryz.func134,Tryz.ntmps134
 go_wp2_with (go_at_call 81;refine hBg.mono ?_;rintro e w1 ⟨rfl,hw1⟩;have hI1:CS w0 w1 D Kb kn kf (vsOf L) u (at_+1):=by { rw [hw1];exact hI0.setAt _ };have hS1:HP w.heap.size g o (.int .i64 14) (.string empty) (.int .i64 0) (.slice (some ⟨g,o,none⟩) 1 c) (.int .i64 kk) (.string xx) (.int .i64 mm) (.slice aa na ca) (.int .i64 q.writes) (.int .i64 q.given) w1:=by { rw [hw1];exact hS0.setD (by omega) (by omega) hgD _ _ };have hf1:FrU D u u w w1:=by { rw [hw1];exact hf0.set _ _ (fun _ e=>e) };clear hw1)
 clear hI0 hf0 hS0 hBg
 have hS:HP w.heap.size g o (.int .i64 14) (.string empty) (.int .i64 0) (.slice (some ⟨g,o,none⟩) 1 c) (.int .i64 kk) (.string xx) (.int .i64 mm) (.slice aa na ca) (.int .i64 q.writes) (.int .i64 q.given) w1.drew:=hS1
 refine wp_region_held_drew (S:=HP w.heap.size g o (.int .i64 14) (.string empty) (.int .i64 0) (.slice (some ⟨g,o,none⟩) 1 c) (.int .i64 kk) (.string xx) (.int .i64 mm) (.slice aa na ca) (.int .i64 q.writes) (.int .i64 q.given)) (by kernel_rfl) hS (fun hHeld=>?_)
 clear hHeld hS1
 replace hI1:=hI1.drew
 replace hf1:=hf1.drew
 generalize w1.drew=W at *
 refine tkP 0 (.int .i64 at_) hS ?_
 simp only [Act.put,jA,jB,jC]
 refine tkP 1 (.pointer (some ⟨w.heap.size+1,5,none⟩)) hS ?_
 simp only [Act.put,jA,jB,jC]
 refine tkP 2 (.int .i64 q.given) hS ?_
 simp only [Act.put,jA,jB,jC]
 refine tkP 3 (.pointer (some ⟨D,0,none⟩)) hS ?_
 simp only [Act.put,jA,jB,jC]
 refine tkP 4 (.pointer (some ⟨w.heap.size,3,none⟩)) hS ?_
 simp only [Act.put,jA,jB,jC]
 refine tkP 5 (.slice (some ⟨g,o,none⟩) 1 c) hS ?_
 simp only [Act.put,jA,jB,jC]
 refine tkP 6 (.pointer (some ⟨g,o,none⟩)) hS ?_
 simp only [Act.put,jA,jB,jC]
 refine tkP 7 (.agg #[.int .i64 kk,.string xx,.int .i64 mm,.slice aa na ca]) hS ?_
 simp only [Act.put,jA,jB,jC]
 refine tkP 8 (.pointer (some ⟨w.heap.size+1,3,none⟩)) hS ?_
 simp only [Act.put,jA,jB,jC]
 refine tkP 9 (.int .i64 q.writes) hS ?_
 simp only [Act.put,jA,jB,jC]
 refine oneH 10 fun K hK=>?_
 go_simp
 go_at_call 159
 refine (hC W hI1).mono ?_
 cases X with
 | bad cc bb =>
  have HB:Hid (R=.bad cc bb):=HR.out
  rintro e w2 ⟨rfl,hb2⟩
  go_wp2
  exact ⟨rfl,SR.mkBad HB.out hb2⟩
 | ok qq =>
  obtain ⟨l1,a1⟩:=qq
  have HB:Hid (R=if flows q.given [l1]=false then .bad 7 at_ else .ok (L,a1)):=HR.out
  clear HR
  rintro e w2 ⟨rfl,hI2,hF2⟩
  dsimp only at hI2
  have hS2:=hS.fr (FrU.of hF2 u) hI1.bs hI2.bs hg (by omega) (by omega) (fun e=>by have:=hub _ e;omega) (fun e=>by have:=hub _ e;omega)
  have hf2:=hf1.trans (FrU.of hF2 u)
  clear hF2 hS hI1 hf1 hC
  go_wp2
  refine hK.out _ _ hS2 (fun hHeld=>?_)
  clear hK K hHeld
  refine oneH 11 fun K hK=>?_
  go_simp
  have hIn:=ints_one w2 l1
  have hI3:=hI2.alloc (.cells #[.int .i64 l1] 3)
  have hS3:=hS2.fr ((FrU.refl D u w2).alloc (.cells #[.int .i64 l1] 3)) hI2.bs hI3.bs hg (by omega) (by omega) (fun e=>by have:=hub _ e;omega) (fun e=>by have:=hub _ e;omega)
  have hf3:=hf2.alloc (.cells #[.int .i64 l1] 3)
  refine hK.out _ _ hS3 (fun hHeld=>?_)
  clear hK K hHeld hS2 hI2 hf2
  generalize w2.alloc (.cells #[.int .i64 l1] 3)=W3 at *
  generalize w2.heap.size=B3 at *
  refine oneH 12 fun K hK=>?_
  go_simp
  go_at_call 158
  refine (oFlow at_ q.given [l1] _ _ hIn).mono ?_
  rintro e w6 (⟨hfl,rfl,rfl⟩|⟨hfl,rfl,rfl⟩)
  ·have HC:Hid (R=.ok (L,a1)):=HB.out.trans (if_neg (by rw [hfl];decide))
   clear hfl HB
   go_wp2
   refine hK.out _ _ hS3 (fun hHeld=>?_)
   clear hK K hHeld
   refine wpAnyH_done (by kernel_rfl) ?_ _
   go_wp2
   go_end0
   exact SR.mkOk HC.out hI3 hf3
  ·have HC:Hid (R=.bad 7 at_):=HB.out.trans (if_pos hfl)
   clear hfl HB
   go_wp2
   exact ⟨rfl,SR.mkBad HC.out hI3.bs⟩
end
theorem lies_cap {w:World} {P:Nat→Prop} {k:Int} {x:ByteArray} {m:Int} {ks:List Tree} {a:Option Addr} {n c:Nat} (h:Lies P w (.node k x m ks) (.agg #[.int .i64 k,.string x,.int .i64 m,.slice a n c])):ks.length≤c:=by
 unfold Lies at h
 obtain ⟨a',c',e,⟨h1,h2⟩,_⟩:=h
 injection e with e
 simp only [Array.mk.injEq,List.cons.injEq,and_true,true_and,Value.slice.injEq] at e
 omega
section
variable {E:Env} {p:Pr} {w0:World} {D Kb kn:Nat} {kf:KF}
theorem oStat_all (hT:∀ L,LabL L→Tab E L kf (vsOf L)):∀ n:Nat,(∀ t:Tree,SizeOf.sizeOf t≤n→StT t→StatC E p w0 D Kb kn kf t)∧(∀ t:Tree,SizeOf.sizeOf t≤n→BlT t→BlockC E p w0 D Kb kn kf t):=by
 intro n
 induction n with
 | zero =>
  refine ⟨fun t h=>?_,fun t h=>?_⟩<;>(obtain ⟨k,x,m,ks⟩:=t;simp at h)
 | succ n ih =>
  obtain ⟨ihS,ihB⟩:=ih
  have hkid:∀ {k:Int} {x:ByteArray} {m:Int} {ks:List Tree},SizeOf.sizeOf (Tree.node k x m ks)≤n+1→∀ t∈ks,SizeOf.sizeOf t≤n:=fun h t ht=>by
   have h1:=List.sizeOf_lt_of_mem ht
   simp at h
   omega
  refine ⟨fun t h hs=>?_,fun t h hb=>?_⟩
  ·cases hs with
   | loc l hx he=>exact oStatLocal _ l _ he hT
   | set hp he =>
    cases hp with
    | nam hx=>exact oStatSet 16 _ 0 [] _ (.nam hx) he hx (fun t ht=>by cases ht) hT
    | item hx hi=>exact oStatSet 17 _ 0 _ _ (.item hx hi) he hx (fun t ht=>by simp only [List.mem_singleton] at ht;subst ht;exact hi) hT
   | dd hc =>
    cases hc with
    | mk hx hk=>exact oStatDo _ 0 _ hx hk hT
   | ift he hb =>
    exact oStatIf 10 (.inl rfl) _ _ _ _ he (fun t ht=>by simp only [List.mem_singleton] at ht;subst ht;exact hb) (by simp) hT (fun g o c hv=>lies_cap hv) (fun j hj=>by
     have hm:=List.getElem_mem hj
     exact ihB _ (hkid h _ (List.mem_cons_of_mem _ hm)) (by simp only [List.mem_singleton] at hm;rw [hm];exact hb))
   | ife he hb hc =>
    exact oStatIf 10 (.inl rfl) _ _ _ _ he (fun t ht=>by simp only [List.mem_cons,List.not_mem_nil,or_false] at ht;rcases ht with rfl | rfl;exact hb;exact hc) (by simp) hT (fun g o c hv=>lies_cap hv) (fun j hj=>by
     have hm:=List.getElem_mem hj
     refine ihB _ (hkid h _ (List.mem_cons_of_mem _ hm)) ?_
     generalize ([_,_]:List Tree)[j]=t at hm
     simp only [List.mem_cons,List.not_mem_nil,or_false] at hm
     rcases hm with rfl | rfl
     ·exact hb
     ·exact hc)
   | whi he hb =>
    exact oStatIf 11 (.inr rfl) _ _ _ _ he (fun t ht=>by simp only [List.mem_singleton] at ht;subst ht;exact hb) (by simp) hT (fun g o c hv=>lies_cap hv) (fun j hj=>by
     have hm:=List.getElem_mem hj
     exact ihB _ (hkid h _ (List.mem_cons_of_mem _ hm)) (by simp only [List.mem_singleton] at hm;rw [hm];exact hb))
   | out l he=>exact oStatOut l _ he hT
   | inn l hp =>
    cases hp with
    | nam hx=>exact oStatIn l 16 _ 0 [] (.nam hx) hx (fun t ht=>by cases ht) hT
    | item hx hi=>exact oStatIn l 17 _ 0 _ (.item hx hi) hx (fun t ht=>by simp only [List.mem_singleton] at ht;subst ht;exact hi) hT
   | ret he=>exact oStatRet _ he hT
  ·obtain ⟨k,x,m,ks⟩:=t
   have hst:∀ t∈ks,StT t:=by cases hb with | mk h=>exact h
   exact oBlock k x m ks hb (oStats ks hst (fun j hj=>ihS _ (hkid h _ (List.getElem_mem hj)) (hst _ (List.getElem_mem hj))))
theorem oStatsAll (hT:∀ L,LabL L→Tab E L kf (vsOf L)) (ks:List Tree) (hst:∀ t∈ks,StT t):StatsC E p w0 D Kb kn kf ks :=
 oStats ks hst (fun j hj=>(oStat_all hT _).1 _ (jE _) (hst _ (List.getElem_mem hj)))
end
end chk
namespace chk
open syn face
def parL (ps:List (ByteArray × Bool)):List Loc:=ps.map fun q=>⟨q.1,bI q.2,1⟩
theorem parL_len (ps:List (ByteArray × Bool)):(parL ps).length=ps.length:=by unfold parL;rw [List.length_map]
theorem parL_lab (ps:List (ByteArray × Bool)):LabL (parL ps):=by
 intro l hl
 obtain ⟨q,_,rfl⟩:=List.mem_map.1 hl
 exact bI_lab _
theorem parL_inv (ps:List (ByteArray × Bool)):InvL (parL ps) 1 0:=by
 refine ⟨Nat.zero_le _,fun l hl=>by simp at hl,fun l hl=>?_⟩
 rw [List.drop_zero] at hl
 obtain ⟨q,_,rfl⟩:=List.mem_map.1 hl
 rfl
theorem retL_ends (k:Int) (x:ByteArray) (m:Int):∀ ks:List Tree,endsT (.node k x m ks)=retL ks
 | []=>rfl
 | [.node k2 y n l]=>rfl
 | a :: b :: r=>by
  have ih:=retL_ends k x m (b :: r)
  simp only [endsT] at ih ⊢
  rw [List.getLast?_cons_cons]
  rw [show retL (a :: b :: r)=retL (b :: r) by simp [retL]]
  exact ih
theorem retL_snoc (z:Tree):∀ ks:List Tree,retL (ks++[z])=retL [z]
 | []=>rfl
 | [a]=>by simp [retL]
 | a :: b :: r=>by
  have ih:=retL_snoc z (b :: r)
  show retL (a :: b :: (r++[z]))=_
  rw [show retL (a :: b :: (r++[z]))=retL (b :: (r++[z])) by simp [retL]]
  exact ih
section
variable (E:Env) (q:ProcD) (ps:List (ByteArray × Bool)) (k:Int) (x:ByteArray) (m:Int) (ks:List Tree) (a:Int)
theorem prF_is (ends:Bool):prF E q ps (.node k x m ks) ends a=match stsF E ⟨q.gives,q.given⟩ q.writes 1 ks (parL ps) (a+1+ps.length+1) with
  | .bad c d=>.bad c d
  | .ok s=>if q.gives=true∧ends=false then .bad 2 a else .ok s.2:=by
 unfold prF
 rw [show (ps.map fun p=>(⟨p.1,bI p.2,1⟩:Loc))=parL ps from rfl]
 simp only [blF]
 cases stsF E ⟨q.gives,q.given⟩ q.writes 1 ks (parL ps) (a+1+ps.length+1)<;>rfl
theorem prF_none (hst:∀ t∈ks,StT t) (hg:q.gives=false):prF E q ps (.node k x m ks) (endsT (.node k x m ks)) a=match stsN E ⟨q.gives,q.given⟩ q.writes 1 ks (parL ps) (a+1+ps.length+1) with
  | .bad c d=>.bad c d
  | .ok s=>.ok s.2:=by
 rw [prF_is,stsN_none E _ _ hg ks _ _ hst]
 cases stsN E ⟨q.gives,q.given⟩ q.writes 1 ks (parL ps) (a+1+ps.length+1) with
 | bad c d=>rfl
 | ok s=>exact if_neg (fun e=>by rw [hg] at e;exact absurd e.1 (by decide))
theorem prF_noret (hst:∀ t∈ks,StT t) (hg:q.gives=true) (hr:retL ks=false):prF E q ps (.node k x m ks) (endsT (.node k x m ks)) a=match stsN E ⟨q.gives,q.given⟩ q.writes 1 ks (parL ps) (a+1+ps.length+1) with
  | .bad c d=>.bad c d
  | .ok s=>.bad 2 a:=by
 rw [prF_is,stsN_noret E _ _ ks _ _ hst hr,retL_ends,hr]
 cases stsN E ⟨q.gives,q.given⟩ q.writes 1 ks (parL ps) (a+1+ps.length+1) with
 | bad c d=>rfl
 | ok s=>exact if_pos ⟨hg,rfl⟩
theorem prF_ret (z:Tree) (hr:retL (ks++[z])=true):prF E q ps (.node k x m (ks++[z])) (endsT (.node k x m (ks++[z]))) a=match stsN E ⟨q.gives,q.given⟩ q.writes 1 ks (parL ps) (a+1+ps.length+1) with
  | .bad c d=>.bad c d
  | .ok s=>match stF E ⟨q.gives,q.given⟩ q.writes 1 true z s.1 s.2 with
   | .bad c d=>.bad c d
   | .ok s=>.ok s.2:=by
 rw [prF_is,stsN_ret E _ _ z ks,retL_ends,hr]
 cases stsN E ⟨q.gives,q.given⟩ q.writes 1 ks (parL ps) (a+1+ps.length+1) with
 | bad c d=>rfl
 | ok s =>
  dsimp only
  cases stF E ⟨q.gives,q.given⟩ q.writes 1 true z s.1 s.2 with
  | bad c d=>rfl
  | ok s2=>exact if_neg (fun e=>absurd e.2 (by decide))
end
theorem procD_lab (x:ByteArray) (p l:Bool) (g:Option Bool) (ps:List (ByteArray × Bool)):(∀ y∈(procD x p l g ps).params,Lab y)∧Lab (procD x p l g ps).writes∧Lab (procD x p l g ps).given:=by
 refine ⟨fun y hy=>?_,bI_lab _,bI_lab _⟩
 obtain ⟨q,_,rfl⟩:=List.mem_map.1 hy
 exact bI_lab _
end chk
namespace chk
open Go.RowKit Go.Shelf
open syn face
theorem proc_cells {w:World} {B:Nat} {x:ByteArray} {p l:Bool} {gv:Option Bool} {ps:List (ByteArray × Bool)} {ss:List Tree} {v:Value} (h:Lies (·<B) w (Kid.proc x p l gv ps (.node 6 empty 0 ss)).tree v) :
  ∃ g o c,v=.agg #[.int .i64 4,.string x,.int .i64 (2*bI p+bI l+gI gv),.slice (some ⟨g,o,none⟩) (ps.length+1) c]∧g<B∧ps.length+1≤c∧ps.length+1≤4611686018427387904 ∧
   (∀ j (hj:j<ps.length),∃ pa pc,w.cell? ⟨g,o+j*4,none⟩=some (.int .i64 5)∧w.cell? ⟨g,o+j*4+1,none⟩=some (.string ps[j].1)∧w.cell? ⟨g,o+j*4+2,none⟩=some (.int .i64 (bI ps[j].2))∧w.cell? ⟨g,o+j*4+3,none⟩=some (.slice pa 0 pc)) ∧
   ∃ sa sc,w.cell? ⟨g,o+ps.length*4+3,none⟩=some (.slice sa ss.length sc)∧ss.length≤sc∧ss.length≤4611686018427387904∧(ss≠[]→∃ g2 o2,sa=some ⟨g2,o2,none⟩∧g2<B∧LiesAt (·<B) w ss g2 o2):=by
 unfold Kid.tree at h
 have hcap:=h
 obtain ⟨g,o,c,rfl,hg,hl,hkid⟩:=lies_kid h (by simp)
 have hcp:=lies_cap hcap
 simp only [List.length_append,List.length_map,List.length_singleton] at hl hcp hkid ⊢
 refine ⟨g,o,c,rfl,hg,hcp,hl,fun j hj=>?_,?_⟩
 ·obtain ⟨kk,xx,mm,aa,na,ca,k0,k1,k2,k3,hle⟩:=hkid j (by omega)
  rw [List.getElem_append_left (by simpa using hj),List.getElem_map] at hle
  unfold parT Lies at hle
  obtain ⟨a',c',e,_,_⟩:=hle
  injection e with e
  simp only [Array.mk.injEq,List.cons.injEq,and_true,Value.int.injEq,Value.string.injEq,Value.slice.injEq,true_and,List.length_nil] at e
  obtain ⟨rfl,rfl,rfl,rfl,rfl,rfl⟩:=e
  exact ⟨aa,ca,k0,k1,k2,k3⟩
 ·obtain ⟨kk,xx,mm,aa,na,ca,k0,k1,k2,k3,hle⟩:=hkid ps.length (by omega)
  rw [List.getElem_append_right (by simp)] at hle
  simp only [List.length_map,Nat.sub_self,List.getElem_cons_zero] at hle
  unfold Lies at hle
  obtain ⟨a',c',e,⟨h1,h2⟩,hk⟩:=hle
  injection e with e
  simp only [Array.mk.injEq,List.cons.injEq,and_true,Value.int.injEq,Value.string.injEq,Value.slice.injEq,true_and] at e
  obtain ⟨rfl,rfl,rfl,rfl,rfl,rfl⟩:=e
  exact ⟨aa,ca,k3,h2,h1,hk⟩
theorem cntL_app:∀ a b:List Tree,cntL (a++b)=cntL a+cntL b
 | [],b=>by simp [cntL]
 | t :: r,b=>by
  show cntT t+cntL (r++b)=cntT t+cntL r+cntL b
  rw [cntL_app r b]
  omega
theorem cntL_par:∀ ps:List (ByteArray × Bool),cntL (ps.map parT)=ps.length
 | []=>by simp [cntL]
 | q :: r=>by
  show cntT (parT q)+cntL (r.map parT)=_
  rw [cntL_par r]
  unfold parT
  rw [cntN]
  simp [cntL]
  omega
theorem proc_cnt (x:ByteArray) (p l:Bool) (gv:Option Bool) (ps:List (ByteArray × Bool)) (ss:List Tree):cntT (Kid.proc x p l gv ps (.node 6 empty 0 ss)).tree=1+ps.length+(1+cntL ss):=by
 unfold Kid.tree
 rw [cntN,cntL_app,cntL_par,cntL_one,cntN]
 omega
section
variable {w0 w w':World} {D Kb kn:Nat} {kf:KF} {vs:List VarD} {u:Value} {a:Int}
theorem CS.clear (h:CS w0 w D Kb kn kf vs u a):CS w0 (w.setCell ⟨D,6,none⟩ (.slice none 0 0)) D Kb kn kf [] (.slice none 0 0) a:=by
 refine ⟨h.bs.setCell h.hD _,h.hD,?_,?_,?_,?_,fun k=>?_,h.mp.setCell h.nk _,h.fi,fun p x hc=>⟨(h.fw p x hc).1,(h.fw p x hc).2.1,(World.cell?_of_block (a:=p) (Below.heap_setCell w ⟨D,6,none⟩ _ p.block (h.fw p x hc).1)).trans (h.fw p x hc).2.2⟩,by rw [World.size_setCell];exact h.fm,h.mM,fun b e=>(by cases e),World.ownsRow_nil _ _ _ _,h.nk,h.mx,fun e=>(by cases e)⟩
 ·rw [jD _ _ _ _ (by simp)];exact h.c4
 ·rw [jD _ _ _ _ (by simp)];exact h.c5
 ·exact World.cell?_setCell_same' _ _ _ (by rw [h.c6];rfl)
 ·rw [jD _ _ _ _ (by simp)];exact h.c7
 ·rw [World.frozen?_setCell];exact h.fz k
end
def PR (w0:World) (D Kb kn:Nat) (kf:KF) (r:Res Int) (e:Ending) (w':World):Prop:=match r with
 | .bad c b=>e=.panicked (Thrown c b)∧Below w0.heap.size w0 w'
 | .ok a=>e=.returned (.tuple #[])∧∃ vs u,CS w0 w' D Kb kn kf vs u a
theorem PR.mkBad {w0 w':World} {D Kb kn:Nat} {kf:KF} {r:Res Int} {c b:Int} (h:r=.bad c b) (hb:Below w0.heap.size w0 w'):PR w0 D Kb kn kf r (.panicked (Thrown c b)) w':=by rw [h];exact ⟨rfl,hb⟩
theorem PR.mkOk {w0 w':World} {D Kb kn:Nat} {kf:KF} {r:Res Int} {vs:List VarD} {u:Value} {a:Int} (h:r=.ok a) (hc:CS w0 w' D Kb kn kf vs u a):PR w0 D Kb kn kf r (.returned (.tuple #[])) w':=by rw [h];exact ⟨rfl,vs,u,hc⟩
def BoxC (W:World) (B:Nat) (cs:Array Value) (T:TypeId):Prop:=W.heap[B]?=some (.cells cs T (0,0))
section
variable {W W':World} {B D:Nat} {cs:Array Value} {T:TypeId} {u u':Value}
theorem BoxC.lt (h:BoxC W B cs T):B<W.heap.size:=(Array.getElem?_eq_some_iff.1 h).1
theorem BoxC.new (W:World) (cs:Array Value) (T:TypeId):BoxC (W.alloc (.cells cs T)) W.heap.size cs T:=World.alloc_heap_new W _
theorem BoxC.fr (h:BoxC W B cs T) (hf:FrU D u u' W W') (h1:B≠D) (h2:u.ownBlock≠some B):BoxC W' B cs T:=(hf.block B h.lt h1 h2).trans h
theorem BoxC.below (h:BoxC W B cs T) (hb:Below W.heap.size W W'):BoxC W' B cs T:=(hb.block B h.lt).trans h
theorem BoxC.grown {row:Option Nat} (h:BoxC W B cs T) (hg:W.grownBy W' row) (hne:row≠some B):BoxC W' B cs T:=(hg.block B h.lt (fun e=>hne e.symm)).trans h
theorem BoxC.alloc (h:BoxC W B cs T) (o:Obj):BoxC (W.alloc o) B cs T:=h.below (bal o)
theorem BoxC.other (h:BoxC W B cs T) {b o:Nat} (hne:B≠b) (v:Value):BoxC (W.setCell ⟨b,o,none⟩ v) B cs T:=(Below.heap_setCell W ⟨b,o,none⟩ v B hne).trans h
theorem BoxC.set (h:BoxC W B cs T) (i:Nat) (v:Value):BoxC (W.setCell ⟨B,i,none⟩ v) B (cs.setIfInBounds i v) T:=heap_setCell_same W B i cs T v h
theorem BoxC.cell (h:BoxC W B cs T) (i:Nat) {v:Value} (hv:cs[i]?=some v):W.cell? ⟨B,i,none⟩=some v:=by
 simp [World.cell?,show W.heap[B]?=_ from h,hv]
theorem BoxC.fz (h:BoxC W B cs T) (i:Nat):W.frozen? ⟨B,i,none⟩=false:=by
 simp [World.frozen?,show W.heap[B]?=_ from h]
end
end chk
end Go.Proofs.YtfopddgjdaoidaaGreatDoor
