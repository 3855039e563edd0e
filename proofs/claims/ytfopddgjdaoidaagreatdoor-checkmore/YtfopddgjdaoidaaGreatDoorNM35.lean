/- What the program's statements come to: an NOut. -/
import Derived.Test.YtfopddgjdaoidaaGreatDoorNM33
set_option linter.unusedVariables false
set_option linter.unusedSimpArgs false
set_option maxRecDepth 100000
namespace Go.Proofs.YtfopddgjdaoidaaGreatDoor.chk
open Go.RowKit Go.Shelf
open syn face
section
variable {E:Env} {p:Pr} {w0:World} {D Kb kn:Nat} {kf:KF}
set_option maxHeartbeats 4000000 in
theorem oStatDo (x:ByteArray) (m:Int) (ks:List Tree) (hx:LongN x) (hkids:∀ t ∈ ks,ExT t) (hT:∀ L,LabL L→Tab E L kf (vsOf L)):StatC E p w0 D Kb kn kf (.node 9 empty 0 [.node 18 x m ks]):=by
  intro ctx deep first L u v w at_ hv hInv hLab h20 hctx hdeep h h0 hm
  have c24:Tryz.prog.cellsOf 25=4:=by kernel_rfl
  have c2:Tryz.prog.cellsOf 179=2:=by kernel_rfl
  have c4:Tryz.prog.cellsOf 76=4:=cell4
  have hTab:=hT L hLab
  have hvs:(vsOf L).length≤1000:=by rw [vsOf_len];omega
  rw [cntN] at hm
  have hcl:=cntL_pos [.node 18 x m ks]
  obtain ⟨g,o,c,rfl,hg,hl,hkid⟩:=lies_kid hv (by simp)
  obtain ⟨kk,xx,mm,aa,na,ca,k0,k1,k2,k3,hle⟩:=hkid 0 (by simp)
  simp only [Nat.zero_mul,Nat.add_zero,List.getElem_cons_zero,List.length_singleton] at k0 k1 k2 k3 hle ⊢
  have HR:=show Hid _ from st_do p ctx deep at_ hTab hx (m:=m) (ks:=ks)
  obtain ⟨R,hR⟩:∃ R,stF E p ctx deep false (.node 9 empty 0 [.node 18 x m ks]) L at_=R:=⟨_,rfl⟩
  rw [hR] at HR ⊢
  clear hR hkid hv
  have hub:∀ b,u.ownBlock=some b→b<w.heap.size:=fun b e=>(h.rl.lt _ e).2
  have hd:=h.lt
  have hI0:=(h.alloc (.cells #[.int .i64 9,.string empty,.int .i64 0,.slice (some ⟨g,o,none⟩) 1 c] 25)).alloc (.cells #[.int .i64 ctx,.int .i64 (first:Int)] 179)
  have hf0:=((FrU.refl D u w).alloc (.cells #[.int .i64 9,.string empty,.int .i64 0,.slice (some ⟨g,o,none⟩) 1 c] 25)).alloc (.cells #[.int .i64 ctx,.int .i64 (first:Int)] 179)
  have hBg:=hI0.begin h0 (by omega)
  have hS0:HS w.heap.size g o (.int .i64 9) (.string empty) (.int .i64 0) (.slice (some ⟨g,o,none⟩) 1 c) (.int .i64 kk) (.string xx) (.int .i64 mm) (.slice aa na ca) (.int .i64 ctx) (.int .i64 (first:Int)) ((w.alloc (.cells #[.int .i64 9,.string empty,.int .i64 0,.slice (some ⟨g,o,none⟩) 1 c] 25)).alloc (.cells #[.int .i64 ctx,.int .i64 (first:Int)] 179)) :=
    HS.new hI0.bs hg k0 k1 k2 k3
  have hgD:g≠D:=by have:=h.hD;omega
  have hKb:=h.mp.lt
  have hfm:=h.fm
  have hcp:=cntL_pos ks
  rw [cntL_one,cntN] at hm
  have hC:=fun W (hI1:CS w0 W D Kb kn kf (vsOf L) u (at_+1))=>oCall E L 18 x m ks _ W ctx (at_+1) true hkids hx hle hI1 (by omega) (by omega) (fun j hj v w a h1 h2 h3 h4 h5=>oExpr E L ctx (hTab.agr ctx) hvs ks[j] v w a h1 h2 h3 h4 h5)
  clear hle k0 k1 k2 k3 hx hTab hT hkids
  generalize clP kf ctx true x (at_+1) (exL E L ctx ks (at_+1+1))=X at *
  go_enter Tryz.func157,Tryz.ntmps157
  go_wp2_with (go_at_call 81;refine hBg.mono ?_;rintro e w1 ⟨rfl,hw1⟩;have hI1:CS w0 w1 D Kb kn kf (vsOf L) u (at_+1):=by { rw [hw1];exact hI0.setAt _ };have hS1:HS w.heap.size g o (.int .i64 9) (.string empty) (.int .i64 0) (.slice (some ⟨g,o,none⟩) 1 c) (.int .i64 kk) (.string xx) (.int .i64 mm) (.slice aa na ca) (.int .i64 ctx) (.int .i64 (first:Int)) w1:=by { rw [hw1];exact hS0.setD (by omega) (by omega) hgD _ _ };have hf1:FrU D u u w w1:=by { rw [hw1];exact hf0.set _ _ (fun _ e=>e) };have hsz1:w.heap.size+2≤w1.heap.size:=by { rw [hw1,World.size_setCell];simp };clear hw1;obtain ⟨y0,y1,y2,y3,y4,y5,y6,y7,y8,y9⟩:=id hS1)
  clear y0 y1 y2 y3 y4 y5 y6 y7 y8 y9 hI0 hf0 hS0 hBg
  have hS:HS w.heap.size g o (.int .i64 9) (.string empty) (.int .i64 0) (.slice (some ⟨g,o,none⟩) 1 c) (.int .i64 kk) (.string xx) (.int .i64 mm) (.slice aa na ca) (.int .i64 ctx) (.int .i64 (first:Int)) w1.drew:=hS1
  refine wp_region_held_drew (S:=HS w.heap.size g o (.int .i64 9) (.string empty) (.int .i64 0) (.slice (some ⟨g,o,none⟩) 1 c) (.int .i64 kk) (.string xx) (.int .i64 mm) (.slice aa na ca) (.int .i64 ctx) (.int .i64 (first:Int))) (by kernel_rfl) hS (fun hHeld=>?_)
  clear hHeld
  replace hI1:=hI1.drew
  replace hf1:=hf1.drew
  replace hsz1:w.heap.size+2≤w1.drew.heap.size:=hsz1
  generalize w1.drew=W at *
  refine tkH (i:=0) (v:=.pointer (some ⟨D,0,none⟩)) rfl (Or.inl ⟨by rfl,fun w hSw=>by obtain ⟨y0,y1,y2,y3,y4,y5,y6,y7,y8,y9⟩:=hSw;go_simp⟩) hS ?_
  simp only [Act.put,jA,jB,jC]
  refine tkH (i:=1) (v:=.pointer (some ⟨w.heap.size,3,none⟩)) rfl (Or.inl ⟨by rfl,fun w hSw=>by obtain ⟨y0,y1,y2,y3,y4,y5,y6,y7,y8,y9⟩:=hSw;go_simp⟩) hS ?_
  simp only [Act.put,jA,jB,jC]
  refine tkH (i:=2) (v:=.slice (some ⟨g,o,none⟩) 1 c) rfl (Or.inl ⟨by rfl,fun w hSw=>by obtain ⟨y0,y1,y2,y3,y4,y5,y6,y7,y8,y9⟩:=hSw;go_simp⟩) hS ?_
  simp only [Act.put,jA,jB,jC]
  refine tkH (i:=3) (v:=.pointer (some ⟨g,o,none⟩)) rfl (Or.inl ⟨by rfl,fun w hSw=>by obtain ⟨y0,y1,y2,y3,y4,y5,y6,y7,y8,y9⟩:=hSw;go_simp⟩) hS ?_
  simp only [Act.put,jA,jB,jC]
  refine tkH (i:=4) (v:=.agg #[.int .i64 kk,.string xx,.int .i64 mm,.slice aa na ca]) rfl (Or.inl ⟨by rfl,fun w hSw=>by obtain ⟨y0,y1,y2,y3,y4,y5,y6,y7,y8,y9⟩:=hSw;go_simp⟩) hS ?_
  simp only [Act.put,jA,jB,jC]
  refine tkH (i:=5) (v:=.pointer (some ⟨w.heap.size+1,0,none⟩)) rfl (Or.inl ⟨by rfl,fun w hSw=>by obtain ⟨y0,y1,y2,y3,y4,y5,y6,y7,y8,y9⟩:=hSw;go_simp⟩) hS ?_
  simp only [Act.put,jA,jB,jC]
  refine tkH (i:=6) (v:=.int .i64 ctx) rfl (Or.inl ⟨by rfl,fun w hSw=>by obtain ⟨y0,y1,y2,y3,y4,y5,y6,y7,y8,y9⟩:=hSw;go_simp⟩) hS ?_
  simp only [Act.put,jA,jB,jC]
  refine wpAnyH_ready (rs:=[7]) (by kernel_rfl) (by simp) ?_
  refine AllReadyH.cons rfl (fun K hK=>?_) AllReadyH.nil
  go_simp
  go_at_call 186
  refine (hC W hI1).mono ?_
  cases X with
  | bad cc bb =>
    have HB:Hid (R=.bad cc bb):=HR.out
    rintro e w2 ⟨rfl,hb2⟩
    go_wp2
    exact ⟨rfl,SR.mkBad HB.out hb2⟩
  | ok q =>
    obtain ⟨p1,a1⟩:=q
    have HB:Hid (R=.ok (L,a1)):=HR.out
    rintro e w2 ⟨⟨z,rfl⟩,hI2,hF2⟩
    have hS2:=hS.fr (FrU.of hF2 u) hI1.bs hI2.bs hg (by omega) (by omega) (fun e=>by have:=hub _ e;omega) (fun e=>by have:=hub _ e;omega)
    have hf2:=hf1.trans (FrU.of hF2 u)
    have hsz2:w.heap.size+2≤w2.heap.size:=Nat.le_trans hsz1 hF2.size
    clear hF2 hS hI1 hf1 hC hsz1
    go_wp2
    refine hK.out _ _ hS2 (fun hHeld=>?_)
    clear hK K hHeld
    refine wpAnyH_done (by kernel_rfl) ?_ _
    go_wp2
    go_end0
    exact SR.mkOk HB.out hI2 hf2
end
section
variable {E:Env} {p:Pr} {w0:World} {D Kb kn:Nat} {kf:KF}
set_option maxHeartbeats 4000000 in
theorem oStatOut (l:Bool) (e:Tree) (hx:ExT e) (hT:∀ L,LabL L→Tab E L kf (vsOf L)):StatC E p w0 D Kb kn kf (.node 12 empty (bI l) [e]):=by
  intro ctx deep first L u v w at_ hv hInv hLab h20 hctx hdeep h h0 hm
  have c24:Tryz.prog.cellsOf 25=4:=by kernel_rfl
  have c2:Tryz.prog.cellsOf 179=2:=by kernel_rfl
  have c4:Tryz.prog.cellsOf 76=4:=cell4
  have hTab:=hT L hLab
  have hvs:(vsOf L).length≤1000:=by rw [vsOf_len];omega
  rw [cntN] at hm
  have hcl:=cntL_pos [e]
  obtain ⟨g,o,c,rfl,hg,hl,hkid⟩:=lies_kid hv (by simp)
  obtain ⟨kk,xx,mm,aa,na,ca,k0,k1,k2,k3,hle⟩:=hkid 0 (by simp)
  simp only [Nat.zero_mul,Nat.add_zero,List.getElem_cons_zero,List.length_singleton] at k0 k1 k2 k3 hle ⊢
  have HR:=show Hid _ from st_out p ctx deep at_ hTab hctx l e
  obtain ⟨R,hR⟩:∃ R,stF E p ctx deep false (.node 12 empty (bI l) [e]) L at_=R:=⟨_,rfl⟩
  rw [hR] at HR ⊢
  clear hR hkid hv
  have hub:∀ b,u.ownBlock=some b→b<w.heap.size:=fun b e=>(h.rl.lt _ e).2
  have hd:=h.lt
  have hI0:=(h.alloc (.cells #[.int .i64 12,.string empty,.int .i64 (bI l),.slice (some ⟨g,o,none⟩) 1 c] 25)).alloc (.cells #[.int .i64 ctx,.int .i64 (first:Int)] 179)
  have hf0:=((FrU.refl D u w).alloc (.cells #[.int .i64 12,.string empty,.int .i64 (bI l),.slice (some ⟨g,o,none⟩) 1 c] 25)).alloc (.cells #[.int .i64 ctx,.int .i64 (first:Int)] 179)
  have hBg:=hI0.begin h0 (by omega)
  have hS0:HS w.heap.size g o (.int .i64 12) (.string empty) (.int .i64 (bI l)) (.slice (some ⟨g,o,none⟩) 1 c) (.int .i64 kk) (.string xx) (.int .i64 mm) (.slice aa na ca) (.int .i64 ctx) (.int .i64 (first:Int)) ((w.alloc (.cells #[.int .i64 12,.string empty,.int .i64 (bI l),.slice (some ⟨g,o,none⟩) 1 c] 25)).alloc (.cells #[.int .i64 ctx,.int .i64 (first:Int)] 179)) :=
    HS.new hI0.bs hg k0 k1 k2 k3
  have hgD:g≠D:=by have:=h.hD;omega
  have hKb:=h.mp.lt
  have hfm:=h.fm
  have hcp:=cntT_pos e
  rw [cntL_one] at hm
  have hC:=fun W (hI1:CS w0 W D Kb kn kf (vsOf L) u (at_+1))=>oExpr E L ctx (hTab.agr ctx) hvs e _ W (at_+1) hx hle hI1 (by omega) (by omega)
  clear hle k0 k1 k2 k3 hx hTab hT
  generalize exF E L ctx false e (at_+1)=X at *
  go_enter Tryz.func157,Tryz.ntmps157
  go_wp2_with (go_at_call 81;refine hBg.mono ?_;rintro e w1 ⟨rfl,hw1⟩;have hI1:CS w0 w1 D Kb kn kf (vsOf L) u (at_+1):=by { rw [hw1];exact hI0.setAt _ };have hS1:HS w.heap.size g o (.int .i64 12) (.string empty) (.int .i64 (bI l)) (.slice (some ⟨g,o,none⟩) 1 c) (.int .i64 kk) (.string xx) (.int .i64 mm) (.slice aa na ca) (.int .i64 ctx) (.int .i64 (first:Int)) w1:=by { rw [hw1];exact hS0.setD (by omega) (by omega) hgD _ _ };have hf1:FrU D u u w w1:=by { rw [hw1];exact hf0.set _ _ (fun _ e=>e) };have hsz1:w.heap.size+2≤w1.heap.size:=by { rw [hw1,World.size_setCell];simp };clear hw1;obtain ⟨y0,y1,y2,y3,y4,y5,y6,y7,y8,y9⟩:=id hS1)
  clear y0 y1 y2 y3 y4 y5 y6 y7 y8 y9 hI0 hf0 hS0 hBg
  have hS:HS w.heap.size g o (.int .i64 12) (.string empty) (.int .i64 (bI l)) (.slice (some ⟨g,o,none⟩) 1 c) (.int .i64 kk) (.string xx) (.int .i64 mm) (.slice aa na ca) (.int .i64 ctx) (.int .i64 (first:Int)) w1.drew:=hS1
  refine wp_region_held_drew (S:=HS w.heap.size g o (.int .i64 12) (.string empty) (.int .i64 (bI l)) (.slice (some ⟨g,o,none⟩) 1 c) (.int .i64 kk) (.string xx) (.int .i64 mm) (.slice aa na ca) (.int .i64 ctx) (.int .i64 (first:Int))) (by kernel_rfl) hS (fun hHeld=>?_)
  clear hHeld
  replace hI1:=hI1.drew
  replace hf1:=hf1.drew
  replace hsz1:w.heap.size+2≤w1.drew.heap.size:=hsz1
  generalize w1.drew=W at *
  refine tkH (i:=0) (v:=.pointer (some ⟨D,0,none⟩)) rfl (Or.inl ⟨by rfl,fun w hSw=>by obtain ⟨y0,y1,y2,y3,y4,y5,y6,y7,y8,y9⟩:=hSw;go_simp⟩) hS ?_
  simp only [Act.put,jA,jB,jC]
  refine tkH (i:=1) (v:=.pointer (some ⟨w.heap.size,3,none⟩)) rfl (Or.inl ⟨by rfl,fun w hSw=>by obtain ⟨y0,y1,y2,y3,y4,y5,y6,y7,y8,y9⟩:=hSw;go_simp⟩) hS ?_
  simp only [Act.put,jA,jB,jC]
  refine tkH (i:=2) (v:=.slice (some ⟨g,o,none⟩) 1 c) rfl (Or.inl ⟨by rfl,fun w hSw=>by obtain ⟨y0,y1,y2,y3,y4,y5,y6,y7,y8,y9⟩:=hSw;go_simp⟩) hS ?_
  simp only [Act.put,jA,jB,jC]
  refine tkH (i:=3) (v:=.pointer (some ⟨g,o,none⟩)) rfl (Or.inl ⟨by rfl,fun w hSw=>by obtain ⟨y0,y1,y2,y3,y4,y5,y6,y7,y8,y9⟩:=hSw;go_simp⟩) hS ?_
  simp only [Act.put,jA,jB,jC]
  refine tkH (i:=4) (v:=.agg #[.int .i64 kk,.string xx,.int .i64 mm,.slice aa na ca]) rfl (Or.inl ⟨by rfl,fun w hSw=>by obtain ⟨y0,y1,y2,y3,y4,y5,y6,y7,y8,y9⟩:=hSw;go_simp⟩) hS ?_
  simp only [Act.put,jA,jB,jC]
  refine tkH (i:=5) (v:=.pointer (some ⟨w.heap.size+1,0,none⟩)) rfl (Or.inl ⟨by rfl,fun w hSw=>by obtain ⟨y0,y1,y2,y3,y4,y5,y6,y7,y8,y9⟩:=hSw;go_simp⟩) hS ?_
  simp only [Act.put,jA,jB,jC]
  refine tkH (i:=6) (v:=.int .i64 ctx) rfl (Or.inl ⟨by rfl,fun w hSw=>by obtain ⟨y0,y1,y2,y3,y4,y5,y6,y7,y8,y9⟩:=hSw;go_simp⟩) hS ?_
  simp only [Act.put,jA,jB,jC]
  refine wpAnyH_ready (rs:=[7]) (by kernel_rfl) (by simp) ?_
  refine AllReadyH.cons rfl (fun K hK=>?_) AllReadyH.nil
  go_simp
  go_at_call 159
  refine (hC W hI1).mono ?_
  cases X with
  | bad cc bb =>
    have HB:Hid (R=.bad cc bb):=HR.out
    rintro e w2 ⟨rfl,hb2⟩
    go_wp2
    exact ⟨rfl,SR.mkBad HB.out hb2⟩
  | ok q =>
    obtain ⟨l1,a1⟩:=q
    have HB:Hid (R=if flows (bI l) [l1,ctx]=false then .bad 7 at_ else .ok (L,a1)):=HR.out
    clear HR
    rintro e w2 ⟨rfl,hI2,hF2⟩
    dsimp only at hI2
    have hS2:=hS.fr (FrU.of hF2 u) hI1.bs hI2.bs hg (by omega) (by omega) (fun e=>by have:=hub _ e;omega) (fun e=>by have:=hub _ e;omega)
    have hf2:=hf1.trans (FrU.of hF2 u)
    have hsz2:w.heap.size+2≤w2.heap.size:=Nat.le_trans hsz1 hF2.size
    clear hF2 hS hI1 hf1 hC hsz1
    go_wp2
    refine hK.out _ _ hS2 (fun hHeld=>?_)
    clear hK K hHeld
    refine tkH (i:=8) (v:=.int .i64 l1) rfl (Or.inl ⟨by rfl,fun w hSw=>by go_simp⟩) hS2 ?_
    simp only [Act.put,jA,jB,jC]
    simp only [List.getElem_toArray,List.getElem_cons_succ,List.getElem_cons_zero,List.setIfInBounds_toArray,List.set_cons_zero,List.set_cons_succ]
    refine wpAnyH_done (by kernel_rfl) ?_ _
    have hS:HS w.heap.size g o (.int .i64 12) (.string empty) (.int .i64 (bI l)) (.slice (some ⟨g,o,none⟩) 1 c) (.int .i64 kk) (.string xx) (.int .i64 mm) (.slice aa na ca) (.int .i64 ctx) (.int .i64 (first:Int)) w2.drew:=hS2
    go_wp2
    refine wp_region_held_drew (S:=HS w.heap.size g o (.int .i64 12) (.string empty) (.int .i64 (bI l)) (.slice (some ⟨g,o,none⟩) 1 c) (.int .i64 kk) (.string xx) (.int .i64 mm) (.slice aa na ca) (.int .i64 ctx) (.int .i64 (first:Int))) (by kernel_rfl) hS (fun hHeld=>?_)
    clear hHeld hS2
    replace hI2:=hI2.drew
    replace hf2:=hf2.drew
    replace hsz2:w.heap.size+2≤w2.drew.heap.size:=hsz2
    generalize w2.drew=W2 at *
    refine tkH (i:=0) (v:=.int .i64 at_) rfl (Or.inl ⟨by rfl,fun w hSw=>by obtain ⟨y0,y1,y2,y3,y4,y5,y6,y7,y8,y9⟩:=hSw;go_simp⟩) hS ?_
    simp only [Act.put,jA,jB,jC]
    refine tkH (i:=1) (v:=.agg #[.int .i64 12,.string empty,.int .i64 (bI l),.slice (some ⟨g,o,none⟩) 1 c]) rfl (Or.inl ⟨by rfl,fun w hSw=>by obtain ⟨y0,y1,y2,y3,y4,y5,y6,y7,y8,y9⟩:=hSw;go_simp⟩) hS ?_
    simp only [Act.put,jA,jB,jC]
    refine tkH (i:=3) (v:=.int .i64 l1) rfl (Or.inl ⟨by rfl,fun w hSw=>by obtain ⟨y0,y1,y2,y3,y4,y5,y6,y7,y8,y9⟩:=hSw;go_simp⟩) hS ?_
    simp only [Act.put,jA,jB,jC]
    refine tkH (i:=4) (v:=.pointer (some ⟨w.heap.size+1,0,none⟩)) rfl (Or.inl ⟨by rfl,fun w hSw=>by obtain ⟨y0,y1,y2,y3,y4,y5,y6,y7,y8,y9⟩:=hSw;go_simp⟩) hS ?_
    simp only [Act.put,jA,jB,jC]
    refine tkH (i:=5) (v:=.int .i64 ctx) rfl (Or.inl ⟨by rfl,fun w hSw=>by obtain ⟨y0,y1,y2,y3,y4,y5,y6,y7,y8,y9⟩:=hSw;go_simp⟩) hS ?_
    simp only [Act.put,jA,jB,jC]
    refine wpAnyH_ready (rs:=[2,6]) (by kernel_rfl) (by simp) ?_
    refine AllReadyH.cons rfl (fun K hK=>?_) ?_
    · go_simp
      go_at_call 156
      refine (oLabelOf 12 empty (bI l) _ _ _ W2).mono ?_
      rintro e w3 ⟨rfl,hb3⟩
      rw [bits_bI]
      have hI3:=hI2.below hb3
      have hS3:=hS.fr (FrU.below hb3 D u) hI2.bs hI3.bs hg (by omega) (by omega) (fun e=>by have:=hub _ e;omega) (fun e=>by have:=hub _ e;omega)
      have hf3:=hf2.trans (FrU.below hb3 D u)
      go_wp2
      refine hK.out _ _ hS3 (fun hHeld=>?_)
      clear hK K hHeld hS hI2 hf2
      refine wpAnyH_ready (rs:=[6]) (by kernel_rfl) (by simp) ?_
      refine AllReadyH.cons rfl (fun K hK=>?_) AllReadyH.nil
      go_simp
      have hIn:=ints_two w3 l1 ctx
      have hI4:=hI3.alloc (.cells #[.int .i64 l1,.int .i64 ctx] 3)
      have hS4:=hS3.fr ((FrU.refl D u w3).alloc (.cells #[.int .i64 l1,.int .i64 ctx] 3)) hI3.bs hI4.bs hg (by omega) (by omega) (fun e=>by have:=hub _ e;omega) (fun e=>by have:=hub _ e;omega)
      have hf4:=hf3.alloc (.cells #[.int .i64 l1,.int .i64 ctx] 3)
      refine hK.out _ _ hS4 (fun hHeld=>?_)
      clear hK K hHeld hS3 hI3 hf3
      generalize w3.alloc (.cells #[.int .i64 l1,.int .i64 ctx] 3)=W4 at *
      generalize w3.heap.size=B4 at *
      refine wpAnyH_ready (rs:=[7]) (by kernel_rfl) (by simp) ?_
      refine AllReadyH.cons rfl (fun K hK=>?_) AllReadyH.nil
      go_simp
      go_at_call 158
      refine (oFlow at_ (bI l) [l1,ctx] _ _ hIn).mono ?_
      rintro e w6 (⟨hfl,rfl,rfl⟩ | ⟨hfl,rfl,rfl⟩)
      · have HC:Hid (R=.ok (L,a1)):=HB.out.trans (if_neg (by rw [hfl];decide))
        clear hfl HB
        go_wp2
        refine hK.out _ _ hS4 (fun hHeld=>?_)
        clear hK K hHeld
        refine wpAnyH_done (by kernel_rfl) ?_ _
        go_wp2
        go_end0
        exact SR.mkOk HC.out hI4 hf4
      · have HC:Hid (R=.bad 7 at_):=HB.out.trans (if_pos hfl)
        clear hfl HB
        go_wp2
        exact ⟨rfl,SR.mkBad HC.out hI4.bs⟩
    · refine AllReadyH.cons rfl (fun K hK=>?_) AllReadyH.nil
      go_simp
      have hIn:=ints_two W2 l1 ctx
      have hI3:=hI2.alloc (.cells #[.int .i64 l1,.int .i64 ctx] 3)
      have hS3:=hS.fr ((FrU.refl D u W2).alloc (.cells #[.int .i64 l1,.int .i64 ctx] 3)) hI2.bs hI3.bs hg (by omega) (by omega) (fun e=>by have:=hub _ e;omega) (fun e=>by have:=hub _ e;omega)
      have hf3:=hf2.alloc (.cells #[.int .i64 l1,.int .i64 ctx] 3)
      refine hK.out _ _ hS3 (fun hHeld=>?_)
      clear hK K hHeld hS hI2 hf2
      generalize W2.alloc (.cells #[.int .i64 l1,.int .i64 ctx] 3)=W3 at *
      generalize W2.heap.size=B4 at *
      refine wpAnyH_ready (rs:=[2]) (by kernel_rfl) (by simp) ?_
      refine AllReadyH.cons rfl (fun K hK=>?_) AllReadyH.nil
      go_simp
      go_at_call 156
      refine (oLabelOf 12 empty (bI l) _ _ _ W3).mono ?_
      rintro e W4 ⟨rfl,hb4⟩
      rw [bits_bI]
      have hI4:=hI3.below hb4
      have hS4:=hS3.fr (FrU.below hb4 D u) hI3.bs hI4.bs hg (by omega) (by omega) (fun e=>by have:=hub _ e;omega) (fun e=>by have:=hub _ e;omega)
      have hf4:=hf3.trans (FrU.below hb4 D u)
      replace hIn:=hIn.below hb4
      go_wp2
      refine hK.out _ _ hS4 (fun hHeld=>?_)
      clear hK K hHeld hS3 hI3 hf3
      refine wpAnyH_ready (rs:=[7]) (by kernel_rfl) (by simp) ?_
      refine AllReadyH.cons rfl (fun K hK=>?_) AllReadyH.nil
      go_simp
      go_at_call 158
      refine (oFlow at_ (bI l) [l1,ctx] _ _ hIn).mono ?_
      rintro e w6 (⟨hfl,rfl,rfl⟩ | ⟨hfl,rfl,rfl⟩)
      · have HC:Hid (R=.ok (L,a1)):=HB.out.trans (if_neg (by rw [hfl];decide))
        clear hfl HB
        go_wp2
        refine hK.out _ _ hS4 (fun hHeld=>?_)
        clear hK K hHeld
        refine wpAnyH_done (by kernel_rfl) ?_ _
        go_wp2
        go_end0
        exact SR.mkOk HC.out hI4 hf4
      · have HC:Hid (R=.bad 7 at_):=HB.out.trans (if_pos hfl)
        clear hfl HB
        go_wp2
        exact ⟨rfl,SR.mkBad HC.out hI4.bs⟩
end
end Go.Proofs.YtfopddgjdaoidaaGreatDoor.chk
