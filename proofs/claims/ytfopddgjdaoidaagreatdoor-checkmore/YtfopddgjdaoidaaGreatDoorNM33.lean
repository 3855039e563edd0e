/- Statements of the program: what is held while their kids are gone over; an NLocal. -/
import Derived.Test.YtfopddgjdaoidaaGreatDoorNM32
set_option linter.unusedVariables false
set_option linter.unusedSimpArgs false
set_option maxRecDepth 100000
namespace Go.Proofs.YtfopddgjdaoidaaGreatDoor.chk
open Go.RowKit Go.Shelf
open syn face
def HS (N g o:Nat) (n0 n1 n2 n3 k0 k1 k2 k3 s0 s1:Value) (W:World):Prop :=
  W.cell? ⟨N,0,none⟩=some n0∧W.cell? ⟨N,1,none⟩=some n1∧W.cell? ⟨N,2,none⟩=some n2∧W.cell? ⟨N,3,none⟩=some n3 ∧
  W.cell? ⟨g,o,none⟩=some k0∧W.cell? ⟨g,o+1,none⟩=some k1∧W.cell? ⟨g,o+2,none⟩=some k2∧W.cell? ⟨g,o+3,none⟩=some k3 ∧
  W.cell? ⟨N+1,0,none⟩=some s0∧W.cell? ⟨N+1,1,none⟩=some s1
theorem lies_kid {w:World} {B:Nat} {k:Int} {x:ByteArray} {m:Int} {ks:List Tree} {v:Value} (h:Lies (·<B) w (.node k x m ks) v) (hne:ks≠[]) :
    ∃ g o c,v=.agg #[.int .i64 k,.string x,.int .i64 m,.slice (some ⟨g,o,none⟩) ks.length c]∧g<B∧ks.length≤4611686018427387904∧∀ j (hj:j<ks.length),∃ kk xx mm aa na ca,w.cell? ⟨g,o+j * 4,none⟩=some (.int .i64 kk)∧w.cell? ⟨g,o+j * 4+1,none⟩=some (.string xx)∧w.cell? ⟨g,o+j * 4+2,none⟩=some (.int .i64 mm)∧w.cell? ⟨g,o+j * 4+3,none⟩=some (.slice aa na ca)∧Lies (·<B) w ks[j] (.agg #[.int .i64 kk,.string xx,.int .i64 mm,.slice aa na ca]):=by
  unfold Lies at h
  obtain ⟨a,c,rfl,hl,hk⟩:=h
  obtain ⟨g,o,rfl,hg,hat⟩:=hk hne
  refine ⟨g,o,c,rfl,hg,by omega,fun j hj=>?_⟩
  obtain ⟨v1,⟨x0,x1,x2,x3,rfl,c0,c1,c2,c3⟩,hlk⟩:=hat.get j hj
  obtain ⟨kk,xx,mm,_,he,aa,na,ca,rfl⟩:=hlk.shape
  injection he with he
  simp only [Array.mk.injEq,List.cons.injEq,and_true] at he
  obtain ⟨rfl,rfl,rfl,rfl⟩:=he
  exact ⟨kk,xx,mm,aa,na,ca,c0,c1,c2,c3,hlk⟩
section
variable {N g o:Nat} {n0 n1 n2 n3 k0 k1 k2 k3 s0 s1:Value} {w0 w w':World}
theorem HS.new {w0 w:World} (hb:Below w0.heap.size w0 ((w.alloc (.cells #[n0,n1,n2,n3] 25)).alloc (.cells #[s0,s1] 179))) (hg:g<w0.heap.size) (h0:w0.cell? ⟨g,o,none⟩=some k0) (h1:w0.cell? ⟨g,o+1,none⟩=some k1) (h2:w0.cell? ⟨g,o+2,none⟩=some k2) (h3:w0.cell? ⟨g,o+3,none⟩=some k3) :
    HS w.heap.size g o n0 n1 n2 n3 k0 k1 k2 k3 s0 s1 ((w.alloc (.cells #[n0,n1,n2,n3] 25)).alloc (.cells #[s0,s1] 179)):=by
  refine ⟨by simp,by simp,by simp,by simp,(hb.cell (p:=⟨g,o,none⟩) hg).trans h0,(hb.cell (p:=⟨g,o+1,none⟩) hg).trans h1,(hb.cell (p:=⟨g,o+2,none⟩) hg).trans h2,(hb.cell (p:=⟨g,o+3,none⟩) hg).trans h3,?_,?_⟩
  · exact news_new _ #[s0,s1] _ (w.heap.size+1) (by simp) 0 s0 rfl
  · exact news_new _ #[s0,s1] _ (w.heap.size+1) (by simp) 1 s1 rfl
theorem HS.setD {D:Nat} (h:HS N g o n0 n1 n2 n3 k0 k1 k2 k3 s0 s1 w) (h1:N≠D) (h2:N+1≠D) (h3:g≠D) (j:Nat) (v:Value):HS N g o n0 n1 n2 n3 k0 k1 k2 k3 s0 s1 (w.setCell ⟨D,j,none⟩ v):=by
  have a1:∀ i,(w.setCell ⟨D,j,none⟩ v).cell? ⟨N,i,none⟩=w.cell? ⟨N,i,none⟩:=fun i=>World.cell?_of_block (a:=⟨N,i,none⟩) (Below.heap_setCell w ⟨D,j,none⟩ v N h1)
  have a2:∀ i,(w.setCell ⟨D,j,none⟩ v).cell? ⟨N+1,i,none⟩=w.cell? ⟨N+1,i,none⟩:=fun i=>World.cell?_of_block (a:=⟨N+1,i,none⟩) (Below.heap_setCell w ⟨D,j,none⟩ v (N+1) h2)
  have a3:∀ i,(w.setCell ⟨D,j,none⟩ v).cell? ⟨g,i,none⟩=w.cell? ⟨g,i,none⟩:=fun i=>World.cell?_of_block (a:=⟨g,i,none⟩) (Below.heap_setCell w ⟨D,j,none⟩ v g h3)
  unfold HS
  rw [a1,a1,a1,a1,a2,a2,a3,a3,a3,a3]
  exact h
theorem HS.fr {D:Nat} {u u':Value} (h:HS N g o n0 n1 n2 n3 k0 k1 k2 k3 s0 s1 w) (hf:FrU D u u' w w') (b0:Below w0.heap.size w0 w) (b1:Below w0.heap.size w0 w') (hg:g<w0.heap.size) (hN:N≠D) (hN1:N+1≠D) (hu:u.ownBlock≠some N) (hu1:u.ownBlock≠some (N+1)):HS N g o n0 n1 n2 n3 k0 k1 k2 k3 s0 s1 w':=by
  have l1:=World.block_lt_of_cell? w ⟨N,0,none⟩ h.1
  have l2:=World.block_lt_of_cell? w ⟨N+1,0,none⟩ h.2.2.2.2.2.2.2.2.1
  have a1:∀ i,w'.cell? ⟨N,i,none⟩=w.cell? ⟨N,i,none⟩:=fun i=>hf.cell l1 hN hu
  have a2:∀ i,w'.cell? ⟨N+1,i,none⟩=w.cell? ⟨N+1,i,none⟩:=fun i=>hf.cell l2 hN1 hu1
  have a3:∀ i,w'.cell? ⟨g,i,none⟩=w.cell? ⟨g,i,none⟩:=fun i=>(b1.cell (p:=⟨g,i,none⟩) hg).trans (b0.cell (p:=⟨g,i,none⟩) hg).symm
  unfold HS
  rw [a1,a1,a1,a1,a2,a2,a3,a3,a3,a3]
  exact h
end
theorem bits_bI (l:Bool):bits BinOp.and IntKind.i64 (bI l) 1=bI l:=by cases l <;> decide
theorem ints_two (w:World) (l m:Int):IntsIn (w.alloc (.cells #[.int .i64 l,.int .i64 m] 3)) (.slice (some ⟨w.heap.size,0,none⟩) 2 2) [l,m] :=
  ⟨_,_,rfl,by simp,fun _=>⟨_,_,rfl,fun i hi=>by
    have hi2:i<2:=hi
    match i,hi2 with
    | 0,_=>simp
    | 1,_=>simp⟩⟩
theorem ints_three (w:World) (l m n:Int):IntsIn (w.alloc (.cells #[.int .i64 l,.int .i64 m,.int .i64 n] 3)) (.slice (some ⟨w.heap.size,0,none⟩) 3 3) [l,m,n] :=
  ⟨_,_,rfl,by simp,fun _=>⟨_,_,rfl,fun i hi=>by
    have hi2:i<3:=hi
    match i,hi2 with
    | 0,_=>simp
    | 1,_=>simp
    | 2,_=>simp⟩⟩
section
variable {E:Env} {p:Pr} {w0:World} {D Kb kn:Nat} {kf:KF}
set_option maxHeartbeats 4000000 in
theorem oStatLocal (x:ByteArray) (l:Bool) (e:Tree) (hx:ExT e) (hT:∀ L,LabL L→Tab E L kf (vsOf L)):StatC E p w0 D Kb kn kf (.node 7 x (bI l) [e]):=by
  intro ctx deep first L u v w at_ hv hInv hLab h20 hctx hdeep h h0 hm
  have c24:Tryz.prog.cellsOf 25=4:=by kernel_rfl
  have c2:Tryz.prog.cellsOf 179=2:=by kernel_rfl
  have c4:Tryz.prog.cellsOf 76=4:=cell4
  have hTab:=hT L hLab
  rw [cntN,cntL_one] at hm
  have hcp:=cntT_pos e
  obtain ⟨g,o,c,rfl,hg,hl,hkid⟩:=lies_kid hv (by simp)
  obtain ⟨kk,xx,mm,aa,na,ca,k0,k1,k2,k3,hle⟩:=hkid 0 (by simp)
  simp only [Nat.zero_mul,Nat.add_zero,List.getElem_cons_zero,List.length_singleton] at k0 k1 k2 k3 hle ⊢
  have HR:=show Hid _ from st_loc p ctx deep at_ hTab hctx hInv x l e
  obtain ⟨R,hR⟩:∃ R,stF E p ctx deep false (.node 7 x (bI l) [e]) L at_=R:=⟨_,rfl⟩
  rw [hR] at HR ⊢
  clear hR hkid hv
  have hub:∀ b,u.ownBlock=some b→b<w.heap.size:=fun b e=>(h.rl.lt _ e).2
  have hd:=h.lt
  have hI0:=(h.alloc (.cells #[.int .i64 7,.string x,.int .i64 (bI l),.slice (some ⟨g,o,none⟩) 1 c] 25)).alloc (.cells #[.int .i64 ctx,.int .i64 (first:Int)] 179)
  have hf0:=((FrU.refl D u w).alloc (.cells #[.int .i64 7,.string x,.int .i64 (bI l),.slice (some ⟨g,o,none⟩) 1 c] 25)).alloc (.cells #[.int .i64 ctx,.int .i64 (first:Int)] 179)
  have hBg:=hI0.begin h0 (by omega)
  have hS0:HS w.heap.size g o (.int .i64 7) (.string x) (.int .i64 (bI l)) (.slice (some ⟨g,o,none⟩) 1 c) (.int .i64 kk) (.string xx) (.int .i64 mm) (.slice aa na ca) (.int .i64 ctx) (.int .i64 (first:Int)) ((w.alloc (.cells #[.int .i64 7,.string x,.int .i64 (bI l),.slice (some ⟨g,o,none⟩) 1 c] 25)).alloc (.cells #[.int .i64 ctx,.int .i64 (first:Int)] 179)) :=
    HS.new hI0.bs hg k0 k1 k2 k3
  have hC:=fun W (hI1:CS w0 W D Kb kn kf (vsOf L) u (at_+1))=>oExpr E L ctx (hTab.agr ctx) (by rw [vsOf_len];omega) e _ W (at_+1) hx hle hI1 (by omega) (by omega)
  have hgD:g≠D:=by have:=h.hD;omega
  clear hle k0 k1 k2 k3 hx hTab hT
  generalize exF E L ctx false e (at_+1)=X at *
  go_enter Tryz.func157,Tryz.ntmps157
  go_wp2_with (go_at_call 81;refine hBg.mono ?_;rintro e w1 ⟨rfl,hw1⟩;have hI1:CS w0 w1 D Kb kn kf (vsOf L) u (at_+1):=by { rw [hw1];exact hI0.setAt _ };have hS1:HS w.heap.size g o (.int .i64 7) (.string x) (.int .i64 (bI l)) (.slice (some ⟨g,o,none⟩) 1 c) (.int .i64 kk) (.string xx) (.int .i64 mm) (.slice aa na ca) (.int .i64 ctx) (.int .i64 (first:Int)) w1:=by { rw [hw1];exact hS0.setD (by omega) (by omega) hgD _ _ };have hf1:FrU D u u w w1:=by { rw [hw1];exact hf0.set _ _ (fun _ e=>e) };clear hw1;obtain ⟨y0,y1,y2,y3,y4,y5,y6,y7,y8,y9⟩:=id hS1)
  clear y0 y1 y2 y3 y4 y5 y6 y7 y8 y9 hI0 hf0 hS0 hBg
  have hS:HS w.heap.size g o (.int .i64 7) (.string x) (.int .i64 (bI l)) (.slice (some ⟨g,o,none⟩) 1 c) (.int .i64 kk) (.string xx) (.int .i64 mm) (.slice aa na ca) (.int .i64 ctx) (.int .i64 (first:Int)) w1.drew:=hS1
  refine wp_region_held_drew (S:=HS w.heap.size g o (.int .i64 7) (.string x) (.int .i64 (bI l)) (.slice (some ⟨g,o,none⟩) 1 c) (.int .i64 kk) (.string xx) (.int .i64 mm) (.slice aa na ca) (.int .i64 ctx) (.int .i64 (first:Int))) (by kernel_rfl) hS (fun hHeld=>?_)
  clear hHeld hS1
  replace hI1:=hI1.drew
  replace hf1:=hf1.drew
  generalize w1.drew=W at *
  refine tkH (i:=0) (v:=.pointer (some ⟨D,0,none⟩)) rfl (Or.inl ⟨by rfl,fun w hSw=>by obtain ⟨y0,y1,y2,y3,y4,y5,y6,y7,y8,y9⟩:=hSw;go_simp⟩) hS ?_
  simp only [Act.put,jA,jB,jC]
  refine tkH (i:=1) (v:=.pointer (some ⟨w.heap.size,3,none⟩)) rfl (Or.inl ⟨by rfl,fun w hSw=>by obtain ⟨y0,y1,y2,y3,y4,y5,y6,y7,y8,y9⟩:=hSw;go_simp⟩) hS ?_
  simp only [Act.put,jA,jB,jC]
  refine tkH (i:=2) (v:=.slice (some ⟨g,o,none⟩) 1 c) rfl (Or.inl ⟨by rfl,fun w hSw=>by obtain ⟨y0,y1,y2,y3,y4,y5,y6,y7,y8,y9⟩:=hSw;go_simp⟩) hS ?_
  simp only [Act.put,jA,jB,jC]
  refine tkH (i:=3) (v:=.pointer (some ⟨g,o,none⟩)) rfl (Or.inl ⟨by rfl,fun w hSw=>by obtain ⟨y0,y1,y2,y3,y4,y5,y6,y7,y8,y9⟩:=hSw;go_simp⟩) hS ?_
  simp only [Act.put,jA,jB,jC]
  refine tkH (i:=4) (v:=.agg #[.int .i64 kk,.string xx,.int .i64 mm,.slice aa na ca] ) rfl (Or.inl ⟨by rfl,fun w hSw=>by obtain ⟨y0,y1,y2,y3,y4,y5,y6,y7,y8,y9⟩:=hSw;go_simp⟩) hS ?_
  simp only [Act.put,jA,jB,jC]
  refine tkH (i:=5) (v:=.pointer (some ⟨w.heap.size+1,0,none⟩)) rfl (Or.inl ⟨by rfl,fun w hSw=>by obtain ⟨y0,y1,y2,y3,y4,y5,y6,y7,y8,y9⟩:=hSw;go_simp⟩) hS ?_
  simp only [Act.put,jA,jB,jC]
  refine tkH (i:=6) (v:=.int .i64 ctx) rfl (Or.inl ⟨by rfl,fun w hSw=>by obtain ⟨y0,y1,y2,y3,y4,y5,y6,y7,y8,y9⟩:=hSw;go_simp⟩) hS ?_
  simp only [Act.put,jA,jB,jC]
  refine wpAnyH_ready (rs:=[7]) (by kernel_rfl) (by simp) ?_
  refine AllReadyH.cons rfl (fun K hK=>?_) AllReadyH.nil
  go_simp
  go_at_call 159
  refine (hC W hI1).mono ?_
  cases X with
  | bad cc bb =>
    have HB:Hid (R=.bad cc bb):=HR.out
    rintro e w2 ⟨rfl,hb2⟩
    go_wp2
    exact ⟨rfl,SR.mkBad HB.out hb2⟩
  | ok q =>
    obtain ⟨l1,a1⟩:=q
    rintro e w2 ⟨rfl,hI2,hF2⟩
    dsimp only at hI2 HR
    have hS2:=hS.fr (FrU.of hF2 u) hI1.bs hI2.bs hg (by omega) (by omega) (fun e=>by have:=hub _ e;omega) (fun e=>by have:=hub _ e;omega)
    have hf2:=hf1.trans (FrU.of hF2 u)
    clear hF2 hS hI1 hf1 hC
    go_wp2
    refine hK.out _ _ hS2 (fun hHeld=>?_)
    clear hK K hHeld
    refine tkH (i:=8) (v:=.int .i64 l1) rfl (Or.inl ⟨by rfl,fun w hSw=>by go_simp⟩) hS2 ?_
    simp only [Act.put,jA,jB,jC]
    refine wpAnyH_done (by kernel_rfl) ?_ _
    obtain ⟨y0,y1,y2,y3,y4,y5,y6,y7,y8,y9⟩:=id hS2
    go_wp2_with (go_at_call 132;refine (oLocalOf 7 x (bI l) _ _ _ _).mono ?_;rintro e w3 ⟨rfl,hb3⟩;rw [bits_bI];unfold varV;have hI4:=(hI2.below hb3).alloc (.cells #[.string x,.bool false,.int .i64 (bI l),.int .i64 0] 76);have hf3:=(FrU.below hb3 D u).alloc (.cells #[.string x,.bool false,.int .i64 (bI l),.int .i64 0] 76);have hS4:=hS2.fr hf3 hI2.bs hI4.bs hg (by omega) (by omega) (fun e=>by have:=hub _ e;omega) (fun e=>by have:=hub _ e;omega);obtain ⟨y0,y1,y2,y3,y4,y5,y6,y7,y8,y9⟩:=id hS4)
    have hf4:=hf2.trans hf3
    have hsz3:w.heap.size≤w3.heap.size:=by have:=hf2.size;have:=hb3.size;omega
    have hB4:Boxed4 (w3.alloc (.cells #[.string x,.bool false,.int .i64 (bI l),.int .i64 0] 76)) w3.heap.size ⟨x,false,bI l,0⟩:=Boxed4.new w3 ⟨x,false,bI l,0⟩
    clear hI2 hf2 hf3 hS2 hb3 y0 y1 y2 y3 y4 y5 y6 y7 y8 y9
    refine (oAddLocal ⟨x,false,bI l,0⟩ first at_ hI4 (by rw [vsOf_len];exact hInv.le) (by rw [vsOf_len];exact h20)).mono ?_
    generalize w3.alloc (.cells #[.string x,.bool false,.int .i64 (bI l),.int .i64 0] 76)=W4 at *
    rintro e w5 (⟨h1,rfl,hb⟩ | ⟨h1,h2,rfl,hb⟩ | ⟨h1,h2,rfl,⟨u5,hI5,ho5⟩,hs5,hbl5⟩)
    · have HB:Hid (R=.bad 5 at_):=HR.out.trans (if_pos h1)
      clear h1
      go_wp2
      exact ⟨rfl,SR.mkBad HB.out hb⟩
    · rw [vsOf_len] at h2
      have HB:Hid (R=.bad 1 at_):=HR.out.trans ((if_neg (by rw [h1];decide)).trans (if_pos h2))
      clear h1
      go_wp2
      exact ⟨rfl,SR.mkBad HB.out hb⟩
    · rw [vsOf_len] at h2
      have HB:Hid (R=if flows (bI l) [l1,ctx]=false then .bad 7 at_ else .ok (L++[⟨x,bI l,deep⟩],a1)):=HR.out.trans ((if_neg (by rw [h1];decide)).trans (if_neg (by omega)))
      have hf5:FrU D u u5 W4 w5:=⟨hs5,hbl5,ho5⟩
      have hS5:=hS4.fr hf5 hI4.bs hI5.bs hg (by omega) (by omega) (fun e=>by have:=hub _ e;omega) (fun e=>by have:=hub _ e;omega)
      have hB5:Boxed4 w5 w3.heap.size ⟨x,false,bI l,0⟩:=(hf5.block _ hB4.lt (by omega) (fun e=>by have:=hub _ e;omega)).trans hB4
      have hv5:vsOf L++[⟨x,false,bI l,0⟩]=vsOf (L++[⟨x,bI l,deep⟩]):=by unfold vsOf;simp
      rw [hv5] at hI5
      obtain ⟨z0,z1,z2,z3,zf⟩:=hB5.cells
      obtain ⟨y0,y1,y2,y3,y4,y5,y6,y7,y8,y9⟩:=id hS5
      clear h1 HR hS4 hB4 hbl5 ho5 hs5 hv5 zf
      go_wp2_with (fail)
      refine (oFlow at_ (bI l) [l1,ctx] _ _ (ints_two _ _ _)).mono ?_
      rintro e w6 (⟨hfl,rfl,rfl⟩ | ⟨hfl,rfl,rfl⟩)
      · have HC:Hid (R=.ok (L++[⟨x,bI l,deep⟩],a1)):=HB.out.trans (if_neg (by rw [hfl];decide))
        clear hfl HB
        go_wp2
        go_end0
        exact SR.mkOk HC.out (hI5.alloc _) ((hf4.trans hf5).alloc _)
      · have HC:Hid (R=.bad 7 at_):=HB.out.trans (if_pos hfl)
        clear hfl HB
        go_wp2
        exact ⟨rfl,SR.mkBad HC.out (hI5.alloc _).bs⟩
end
end Go.Proofs.YtfopddgjdaoidaaGreatDoor.chk
