/- What the program's block comes to, if its statements come to what they should. -/
import Derived.Test.YtfopddgjdaoidaaGreatDoorNR14
set_option linter.unusedVariables false
set_option linter.unusedSimpArgs false
set_option maxRecDepth 100000
namespace Go.Proofs.YtfopddgjdaoidaaGreatDoor
namespace chk
open Go.RowKit Go.Shelf
open syn face
section
variable {w0 w w':World} {D Kb kn:Nat} {kf:KF} {vs:List VarD} {u:Value} {a:Int}
set_option maxHeartbeats 2000000 in
theorem oAddLocal (v:VarD) (first:Nat) (at_:Int) (h:CS w0 w D Kb kn kf vs u a) (hf:first≤vs.length) (hl:vs.length≤20) :
  Calls Tryz.prog 184 #[.pointer (some ⟨D,0,none⟩),varV v,.int .i64 (first:Int),.int .i64 at_] w (AL w0 D Kb kn kf vs u a v first at_ w):=by
 have c4:Tryz.prog.cellsOf 76=4:=cell4
 obtain ⟨i0,hi,hz0,hz1,hz2⟩:=info_parts infoV
 obtain ⟨ua,uc,rfl,hucl,hug⟩:=lexs.own_shape h.rl
 have hrow:=h.rl
 have hd:=h.lt
 have hI0:=h.alloc (.cells #[.string v.name,.bool v.pub,.int .i64 v.label,.int .i64 v.size] 76)
 have m6:=hI0.c6
 have hub:∀ b,(Value.slice ua vs.length uc).ownBlock=some b→b<w.heap.size:=fun b e=>(h.rl.lt _ e).2
 have hcap:vs.length≤uc:=by
  rcases hrow.2 with ⟨e,hn⟩|⟨g,cap,cur,e,h3,h4,h5,h6,_⟩
  ·omega
  ·injection e with _ _ e2;omega
 unfold varV
 have hQ0:Q4 w.heap.size (.string v.name) (.bool v.pub) (.int .i64 v.label) (.int .i64 v.size) (w.alloc (.cells #[.string v.name,.bool v.pub,.int .i64 v.label,.int .i64 v.size] 76)):=⟨by simp,by simp,by simp,by simp⟩
 have hB0:Below w.heap.size w (w.alloc (.cells #[.string v.name,.bool v.pub,.int .i64 v.label,.int .i64 v.size] 76)):=bal _
 by_cases hu:uc=first
 ·obtain rfl:first=vs.length:=by omega
  obtain rfl:=hu
  have hany:(vs.drop vs.length).any (fun o=>eqS o.name v.name)=false:=by rw [List.drop_eq_nil_of_le (by omega)];rfl
  go_enter Tryz.func184,Tryz.ntmps184
  go_wp2
  clear m6
  generalize w.alloc (.cells #[.string v.name,.bool v.pub,.int .i64 v.label,.int .i64 v.size] 76)=W1 at *
  go_loopw [17] (fun t wr=>t=.int .i64 0∧wr=W1) (fun _ _=>0)
  case atStart=>exact ⟨rfl,rfl⟩
  case round =>
   obtain ⟨rfl,rfl⟩:=hrel
   have hI:=hI0
   have hQ:=hQ0
   have hBr:=hB0
   have HN:Hid ((vs.drop vs.length).any (fun o=>eqS o.name v.name)=false):=hany
   clear hany
   have m6:=hI.c6
   obtain ⟨q0,q1,q2,q3⟩:=id hQ
   by_cases h20:20≤vs.length
   ·have HBs:Hid (Below w0.heap.size w0 wr):=hI.bs
    go_wp2_with (go_at_call 131;refine (oRefuseC 1 at_ wr).mono ?_;rintro e w2 ⟨rfl,hw2⟩;rw [hw2])
    exact ⟨rfl,.inr (.inl ⟨HN.out,h20,rfl,HBs.out⟩)⟩
   ·have hI2:=hI.drew
    have hS2:Q4 w.heap.size (.string v.name) (.bool v.pub) (.int .i64 v.label) (.int .i64 v.size) wr.drew:=hQ
    have hB2:Below w.heap.size w wr.drew:=hBr.drew
    go_wp2
    refine wp_region_held_drew (S:=fun W=>Q4 w.heap.size (.string v.name) (.bool v.pub) (.int .i64 v.label) (.int .i64 v.size) W) (by kernel_rfl) hS2 (fun hHeld=>?_)
    clear hHeld m6 hQ hI hBr q0 q1 q2 q3
    generalize wr.drew=W2 at *
    refine tkP 0 (.pointer (some ⟨D,0,none⟩)) hS2 ?_
    simp only [Act.put,jA,jB,jC]
    refine tkP 1 (.pointer (some ⟨D,0,none⟩)) hS2 ?_
    simp only [Act.put,jA,jB,jC]
    refine tkP 2 (.pointer (some ⟨D,0,none⟩)) hS2 ?_
    simp only [Act.put,jA,jB,jC]
    refine tkP 3 (.pointer (some ⟨D,6,none⟩)) hS2 ?_
    simp only [Act.put,jA,jB,jC]
    refine tkP 5 (.agg #[.string v.name,.bool v.pub,.int .i64 v.label,.int .i64 v.size] ) hS2 ?_
    simp only [Act.put,jA,jB,jC]
    refine wpAnyH_ready (rs:=[4,6]) (by kernel_rfl) (by simp) ?_
    refine AllReadyH.cons rfl (fun K hK=>?_) ?_
    ·skip
     have m6:=hI2.c6
     go_simp
     refine hK.out _ _ hS2 (fun hHeld=>?_)
     clear hK K hHeld m6
     refine oneH 6 fun K hK=>?_
     go_simp
     have hsl:∀ j u,[Value.string v.name,.bool v.pub,.int .i64 v.label,.int .i64 v.size][j]?=some u→(W2.alloc (.cells #[.string v.name,.bool v.pub,.int .i64 v.label,.int .i64 v.size] 76)).cell? ((⟨W2.heap.size,0,none⟩:Addr).add j)=some u:=news_new _ #[.string v.name,.bool v.pub,.int .i64 v.label,.int .i64 v.size] _ _ rfl
     have hss:W2.heap.size+1=(W2.alloc (.cells #[.string v.name,.bool v.pub,.int .i64 v.label,.int .i64 v.size] 76)).heap.size:=by simp
     have hw2s:w.heap.size≤W2.heap.size:=hB2.size
     replace hB2:=hB2.alloc hB2.size (.cells #[.string v.name,.bool v.pub,.int .i64 v.label,.int .i64 v.size] 76)
     replace hI2:=hI2.alloc (.cells #[.string v.name,.bool v.pub,.int .i64 v.label,.int .i64 v.size] 76)
     replace hS2:=Q4.alloc hS2 (.cells #[.string v.name,.bool v.pub,.int .i64 v.label,.int .i64 v.size] 76)
     refine hK.out _ _ hS2 (fun hHeld=>?_)
     clear hK K hHeld
     generalize W2.alloc (.cells #[.string v.name,.bool v.pub,.int .i64 v.label,.int .i64 v.size] 76)=W3 at *
     generalize W2.heap.size=s0 at *
     refine oneH 7 fun K hK=>?_
     refine step_append_lies _ (by rfl) (.tmp 41) (.tmp 43) 41 (by rfl) (D+1) 76 i0 (.agg #[.string ⟨#[]⟩,.bool false,.int .i64 0,.int .i64 0]) 4 40 Tryz.underlying41 hi hz0 hz1 hz2 rfl (by decide) (.slice ua vs.length vs.length) vs.length (varCells vs) (by simp [Act.eval,Act.put]) hI2.rl ⟨s0,0,none⟩ 1 1 [.string v.name,.bool v.pub,.int .i64 v.label,.int .i64 v.size] (by simp [Act.eval,Act.put]) rfl hsl (by intro u hu;simp at hu;rcases hu with rfl | rfl | rfl | rfl<;>rfl) (by omega) (by unfold maxLen;omega) (by omega) (by have:=hI2.lt;omega) (s0+1) hss.symm ?_
     intro g5 cap5 w5 hown5 hgrow5 hat5 hlt5
     have hrN:(Value.slice ua vs.length vs.length).ownBlock≠some w.heap.size:=fun e=>by have:=hub _ e;omega
     have hrD:(Value.slice ua vs.length vs.length).ownBlock≠some D:=fun e=>by have:=(hI2.rl.lt _ e).1;omega
     have hfin:=hI2.push (v:=v) hown5 hgrow5 (hat5.imp id (fun e=>e.trans hss))
     have hbl5:=hgrow5.block D hI2.lt (fun e=>hrD e.symm)
     have m6:=(World.cell?_of_block (a:=⟨D,6,none⟩) hbl5).trans hI2.c6
     have mf:=(World.frozen?_of_block (a:=⟨D,6,none⟩) hbl5).trans (hI2.fz 6)
     have hs5:=hgrow5.size
     have hs3:=hB2.size
     have hkp:∀ b,b<w.heap.size→b≠D→(Value.slice ua vs.length vs.length).ownBlock≠some b→w5.heap[b]?=w.heap[b]?:=fun b h1 h2 h3=>(hgrow5.block b (by omega) (fun e=>h3 e.symm)).trans (hB2.block b h1)
     replace hS2:=Q4.grown hS2 hgrow5 hrN
     clear hI2 hbl5 hB2
     refine hK.out _ _ hS2 (fun hHeld=>?_)
     clear hK K hHeld
     simp only [Act.put,jA,jB,jC]
     refine tkP 8 (.pointer (some ⟨D,0,none⟩)) hS2 ?_
     simp only [Act.put,jA,jB,jC]
     refine tkP 9 (.pointer (some ⟨D,6,none⟩)) hS2 ?_
     simp only [Act.put,jA,jB,jC]
     refine oneH 10 fun K hK=>?_
     go_simp
     refine hK.out _ _ (Q4.other (by omega) hS2 _ _) (fun hHeld=>?_)
     clear hK K hHeld m6 mf
     refine wpAnyH_done (by kernel_rfl) ?_ _
     go_wp2
     go_end0
     exact .inr (.inr ⟨HN.out,by omega,rfl,⟨_,hfin,fun b e=>by have e2:some g5=some b:=e;cases e2;exact hat5.imp id (fun e=>by omega)⟩,by rw [World.size_setCell];omega,fun b h1 h2 h3=>(Below.heap_setCell _ _ _ b (by show b≠D;exact h2)).trans (hkp b h1 h2 h3)⟩)
    refine AllReadyH.cons rfl (fun K hK=>?_) AllReadyH.nil
    go_simp
    have hsl:∀ j u,[Value.string v.name,.bool v.pub,.int .i64 v.label,.int .i64 v.size][j]?=some u→(W2.alloc (.cells #[.string v.name,.bool v.pub,.int .i64 v.label,.int .i64 v.size] 76)).cell? ((⟨W2.heap.size,0,none⟩:Addr).add j)=some u:=news_new _ #[.string v.name,.bool v.pub,.int .i64 v.label,.int .i64 v.size] _ _ rfl
    have hss:W2.heap.size+1=(W2.alloc (.cells #[.string v.name,.bool v.pub,.int .i64 v.label,.int .i64 v.size] 76)).heap.size:=by simp
    have hw2s:w.heap.size≤W2.heap.size:=hB2.size
    replace hB2:=hB2.alloc hB2.size (.cells #[.string v.name,.bool v.pub,.int .i64 v.label,.int .i64 v.size] 76)
    replace hI2:=hI2.alloc (.cells #[.string v.name,.bool v.pub,.int .i64 v.label,.int .i64 v.size] 76)
    replace hS2:=Q4.alloc hS2 (.cells #[.string v.name,.bool v.pub,.int .i64 v.label,.int .i64 v.size] 76)
    refine hK.out _ _ hS2 (fun hHeld=>?_)
    clear hK K hHeld
    generalize W2.alloc (.cells #[.string v.name,.bool v.pub,.int .i64 v.label,.int .i64 v.size] 76)=W3 at *
    generalize W2.heap.size=s0 at *
    refine oneH 4 fun K hK=>?_
    have m6:=hI2.c6
    go_simp
    refine hK.out _ _ hS2 (fun hHeld=>?_)
    clear hK K hHeld m6
    refine oneH 7 fun K hK=>?_
    refine step_append_lies _ (by rfl) (.tmp 41) (.tmp 43) 41 (by rfl) (D+1) 76 i0 (.agg #[.string ⟨#[]⟩,.bool false,.int .i64 0,.int .i64 0]) 4 40 Tryz.underlying41 hi hz0 hz1 hz2 rfl (by decide) (.slice ua vs.length vs.length) vs.length (varCells vs) (by simp [Act.eval,Act.put]) hI2.rl ⟨s0,0,none⟩ 1 1 [.string v.name,.bool v.pub,.int .i64 v.label,.int .i64 v.size] (by simp [Act.eval,Act.put]) rfl hsl (by intro u hu;simp at hu;rcases hu with rfl | rfl | rfl | rfl<;>rfl) (by omega) (by unfold maxLen;omega) (by omega) (by have:=hI2.lt;omega) (s0+1) hss.symm ?_
    intro g5 cap5 w5 hown5 hgrow5 hat5 hlt5
    have hrN:(Value.slice ua vs.length vs.length).ownBlock≠some w.heap.size:=fun e=>by have:=hub _ e;omega
    have hrD:(Value.slice ua vs.length vs.length).ownBlock≠some D:=fun e=>by have:=(hI2.rl.lt _ e).1;omega
    have hfin:=hI2.push (v:=v) hown5 hgrow5 (hat5.imp id (fun e=>e.trans hss))
    have hbl5:=hgrow5.block D hI2.lt (fun e=>hrD e.symm)
    have m6:=(World.cell?_of_block (a:=⟨D,6,none⟩) hbl5).trans hI2.c6
    have mf:=(World.frozen?_of_block (a:=⟨D,6,none⟩) hbl5).trans (hI2.fz 6)
    have hs5:=hgrow5.size
    have hs3:=hB2.size
    have hkp:∀ b,b<w.heap.size→b≠D→(Value.slice ua vs.length vs.length).ownBlock≠some b→w5.heap[b]?=w.heap[b]?:=fun b h1 h2 h3=>(hgrow5.block b (by omega) (fun e=>h3 e.symm)).trans (hB2.block b h1)
    replace hS2:=Q4.grown hS2 hgrow5 hrN
    clear hI2 hbl5 hB2
    refine hK.out _ _ hS2 (fun hHeld=>?_)
    clear hK K hHeld
    simp only [Act.put,jA,jB,jC]
    refine tkP 8 (.pointer (some ⟨D,0,none⟩)) hS2 ?_
    simp only [Act.put,jA,jB,jC]
    refine tkP 9 (.pointer (some ⟨D,6,none⟩)) hS2 ?_
    simp only [Act.put,jA,jB,jC]
    refine oneH 10 fun K hK=>?_
    go_simp
    refine hK.out _ _ (Q4.other (by omega) hS2 _ _) (fun hHeld=>?_)
    clear hK K hHeld m6 mf
    refine wpAnyH_done (by kernel_rfl) ?_ _
    go_wp2
    go_end0
    exact .inr (.inr ⟨HN.out,by omega,rfl,⟨_,hfin,fun b e=>by have e2:some g5=some b:=e;cases e2;exact hat5.imp id (fun e=>by omega)⟩,by rw [World.size_setCell];omega,fun b h1 h2 h3=>(Below.heap_setCell _ _ _ b (by show b≠D;exact h2)).trans (hkp b h1 h2 h3)⟩)
 ·obtain ⟨g,rfl⟩:∃ g,ua=some ⟨g,0,none⟩:=by
   rcases hrow.2 with ⟨e,hn⟩|⟨g,cap,cur,e,_⟩
   ·injection e with _ _ e2;omega
   ·injection e with e1 _ _;exact ⟨g,e1⟩
  go_enter Tryz.func184,Tryz.ntmps184
  go_wp2
  clear m6
  generalize w.alloc (.cells #[.string v.name,.bool v.pub,.int .i64 v.label,.int .i64 v.size] 76)=W1 at *
  go_loopw [17] (fun t wr=>∃ j:Nat,j≤vs.length - first∧t=.int .i64 j∧Hid (∀ i (hi:i<(vs.drop first).length),i<j→eqS (vs.drop first)[i].name v.name=false)∧Below W1.heap.size W1 wr) (fun t _=>vs.length - first - (intOf t).toNat)
  case atStart=>exact ⟨0,Nat.zero_le _,rfl,fun i hi h=>absurd h (by omega),Below.refl _ _⟩
  case round =>
   obtain ⟨j,hj,rfl,HNN,hbr⟩:=hrel
   have hI:=hI0.below hbr
   have hQ:=Q4.below hQ0 hbr
   have hBr:=hB0.trans (hbr.mono hB0.size)
   by_cases hlt:j<vs.length - first
   ·obtain ⟨q0,q1,q2,q3⟩:=id hQ
    have hjv:first+j<vs.length:=by omega
    obtain ⟨e0,e1,e2,e3⟩:=varCells_at vs (first+j) hjv
    have k0:=(hI.rl.cellAt ((first+j)*4) (by omega)).trans e0
    have k1:=(hI.rl.cellAt ((first+j)*4+1) (by omega)).trans e1
    have k2:=(hI.rl.cellAt ((first+j)*4+2) (by omega)).trans e2
    have k3:=(hI.rl.cellAt ((first+j)*4+3) (by omega)).trans e3
    rw [show (first+j)*4=first*4+j*4 by omega] at k0 k1 k2 k3
    clear e0 e1 e2 e3
    have hdl:j<(vs.drop first).length:=by simp;omega
    have hde:(vs.drop first)[j]=vs[first+j]:=by simp
    have HF:Hid (∀ b,eqS vs[first+j].name v.name=b→b=true→(vs.drop first).any (fun o=>eqS o.name v.name)=true):=fun b h1 h2=>any_at hdl (by rw [hde];exact h1.trans h2)
    have HS:Hid (∀ b,eqS vs[first+j].name v.name=b→b=false→∀ i (hi:i<(vs.drop first).length),i<j+1→eqS (vs.drop first)[i].name v.name=false):=fun b h1 h2 i hi h=>by
     rcases Nat.lt_or_ge i j with h' | h'
     ·exact HNN.out i hi h'
     ·obtain rfl:i=j:=by omega
      rw [hde]
      exact h1.trans h2
    clear hde
    generalize vs[first+j]=y at *
    obtain ⟨n0,n1,n2,n3⟩:=Q4.alloc hQ (.cells #[.string y.name,.bool y.pub,.int .i64 y.label,.int .i64 y.size] 76)
    have HBs:Hid (∀ o:Obj,Below w0.heap.size w0 (wr.alloc o)):=fun o=>(hI.alloc o).bs
    have hbr2:Hid (Below W1.heap.size W1 wr):=hbr
    cases heq:eqS y.name v.name
    ·have hc:(y.name.toList==v.name.toList)=false:=heq
     have HS2:=HS.out _ heq rfl
     clear HS HF
     go_wp2
     exact ⟨⟨j+1,by omega,by simp,HS2,hbr2.out.alloc hbr2.out.size _⟩,by simp [intOf];omega⟩
    ·have hc:(y.name.toList==v.name.toList)=true:=heq
     have HF2:Hid ((vs.drop first).any (fun o=>eqS o.name v.name)=true):=HF.out _ heq rfl
     clear HS HF
     go_wp2_with (go_at_call 131;refine (oRefuseC 5 at_ _).mono ?_;rintro e w2 ⟨rfl,hw2⟩;rw [hw2])
     exact ⟨rfl,.inl ⟨HF2.out,rfl,HBs.out _⟩⟩
   ·have hany:(vs.drop first).any (fun o=>eqS o.name v.name)=false:=any_none (fun i hi=>HNN.out i hi (by simp at hi;omega))
    have hj2:j=vs.length - first:=by omega
    clear HNN hbr
    have HN:Hid ((vs.drop first).any (fun o=>eqS o.name v.name)=false):=hany
    clear hany
    have m6:=hI.c6
    obtain ⟨q0,q1,q2,q3⟩:=id hQ
    by_cases h20:20≤vs.length
    ·have HBs:Hid (Below w0.heap.size w0 wr):=hI.bs
     go_wp2_with (go_at_call 131;refine (oRefuseC 1 at_ wr).mono ?_;rintro e w2 ⟨rfl,hw2⟩;rw [hw2])
     exact ⟨rfl,.inr (.inl ⟨HN.out,h20,rfl,HBs.out⟩)⟩
    ·have hI2:=hI.drew
     have hS2:Q4 w.heap.size (.string v.name) (.bool v.pub) (.int .i64 v.label) (.int .i64 v.size) wr.drew:=hQ
     have hB2:Below w.heap.size w wr.drew:=hBr.drew
     go_wp2
     refine wp_region_held_drew (S:=fun W=>Q4 w.heap.size (.string v.name) (.bool v.pub) (.int .i64 v.label) (.int .i64 v.size) W) (by kernel_rfl) hS2 (fun hHeld=>?_)
     clear hHeld m6 hQ hI hBr q0 q1 q2 q3
     generalize wr.drew=W2 at *
     refine tkP 0 (.pointer (some ⟨D,0,none⟩)) hS2 ?_
     simp only [Act.put,jA,jB,jC]
     refine tkP 1 (.pointer (some ⟨D,0,none⟩)) hS2 ?_
     simp only [Act.put,jA,jB,jC]
     refine tkP 2 (.pointer (some ⟨D,0,none⟩)) hS2 ?_
     simp only [Act.put,jA,jB,jC]
     refine tkP 3 (.pointer (some ⟨D,6,none⟩)) hS2 ?_
     simp only [Act.put,jA,jB,jC]
     refine tkP 5 (.agg #[.string v.name,.bool v.pub,.int .i64 v.label,.int .i64 v.size] ) hS2 ?_
     simp only [Act.put,jA,jB,jC]
     refine wpAnyH_ready (rs:=[4,6]) (by kernel_rfl) (by simp) ?_
     refine AllReadyH.cons rfl (fun K hK=>?_) ?_
     ·skip
      have m6:=hI2.c6
      go_simp
      refine hK.out _ _ hS2 (fun hHeld=>?_)
      clear hK K hHeld m6
      refine oneH 6 fun K hK=>?_
      go_simp
      have hsl:∀ j u,[Value.string v.name,.bool v.pub,.int .i64 v.label,.int .i64 v.size][j]?=some u→(W2.alloc (.cells #[.string v.name,.bool v.pub,.int .i64 v.label,.int .i64 v.size] 76)).cell? ((⟨W2.heap.size,0,none⟩:Addr).add j)=some u:=news_new _ #[.string v.name,.bool v.pub,.int .i64 v.label,.int .i64 v.size] _ _ rfl
      have hss:W2.heap.size+1=(W2.alloc (.cells #[.string v.name,.bool v.pub,.int .i64 v.label,.int .i64 v.size] 76)).heap.size:=by simp
      have hw2s:w.heap.size≤W2.heap.size:=hB2.size
      replace hB2:=hB2.alloc hB2.size (.cells #[.string v.name,.bool v.pub,.int .i64 v.label,.int .i64 v.size] 76)
      replace hI2:=hI2.alloc (.cells #[.string v.name,.bool v.pub,.int .i64 v.label,.int .i64 v.size] 76)
      replace hS2:=Q4.alloc hS2 (.cells #[.string v.name,.bool v.pub,.int .i64 v.label,.int .i64 v.size] 76)
      refine hK.out _ _ hS2 (fun hHeld=>?_)
      clear hK K hHeld
      generalize W2.alloc (.cells #[.string v.name,.bool v.pub,.int .i64 v.label,.int .i64 v.size] 76)=W3 at *
      generalize W2.heap.size=s0 at *
      refine oneH 7 fun K hK=>?_
      refine step_append_lies _ (by rfl) (.tmp 41) (.tmp 43) 41 (by rfl) (D+1) 76 i0 (.agg #[.string ⟨#[]⟩,.bool false,.int .i64 0,.int .i64 0]) 4 40 Tryz.underlying41 hi hz0 hz1 hz2 rfl (by decide) (.slice (some ⟨g,0,none⟩) vs.length uc) vs.length (varCells vs) (by simp [Act.eval,Act.put]) hI2.rl ⟨s0,0,none⟩ 1 1 [.string v.name,.bool v.pub,.int .i64 v.label,.int .i64 v.size] (by simp [Act.eval,Act.put]) rfl hsl (by intro u hu;simp at hu;rcases hu with rfl | rfl | rfl | rfl<;>rfl) (by omega) (by unfold maxLen;omega) (by omega) (by have:=hI2.lt;omega) (s0+1) hss.symm ?_
      intro g5 cap5 w5 hown5 hgrow5 hat5 hlt5
      have hrN:(Value.slice (some ⟨g,0,none⟩) vs.length uc).ownBlock≠some w.heap.size:=fun e=>by have:=hub _ e;omega
      have hrD:(Value.slice (some ⟨g,0,none⟩) vs.length uc).ownBlock≠some D:=fun e=>by have:=(hI2.rl.lt _ e).1;omega
      have hfin:=hI2.push (v:=v) hown5 hgrow5 (hat5.imp id (fun e=>e.trans hss))
      have hbl5:=hgrow5.block D hI2.lt (fun e=>hrD e.symm)
      have m6:=(World.cell?_of_block (a:=⟨D,6,none⟩) hbl5).trans hI2.c6
      have mf:=(World.frozen?_of_block (a:=⟨D,6,none⟩) hbl5).trans (hI2.fz 6)
      have hs5:=hgrow5.size
      have hs3:=hB2.size
      have hkp:∀ b,b<w.heap.size→b≠D→(Value.slice (some ⟨g,0,none⟩) vs.length uc).ownBlock≠some b→w5.heap[b]?=w.heap[b]?:=fun b h1 h2 h3=>(hgrow5.block b (by omega) (fun e=>h3 e.symm)).trans (hB2.block b h1)
      replace hS2:=Q4.grown hS2 hgrow5 hrN
      clear hI2 hbl5 hB2
      refine hK.out _ _ hS2 (fun hHeld=>?_)
      clear hK K hHeld
      simp only [Act.put,jA,jB,jC]
      refine tkP 8 (.pointer (some ⟨D,0,none⟩)) hS2 ?_
      simp only [Act.put,jA,jB,jC]
      refine tkP 9 (.pointer (some ⟨D,6,none⟩)) hS2 ?_
      simp only [Act.put,jA,jB,jC]
      refine oneH 10 fun K hK=>?_
      go_simp
      refine hK.out _ _ (Q4.other (by omega) hS2 _ _) (fun hHeld=>?_)
      clear hK K hHeld m6 mf
      refine wpAnyH_done (by kernel_rfl) ?_ _
      go_wp2
      go_end0
      exact .inr (.inr ⟨HN.out,by omega,rfl,⟨_,hfin,fun b e=>by have e2:some g5=some b:=e;cases e2;exact hat5.imp id (fun e=>by omega)⟩,by rw [World.size_setCell];omega,fun b h1 h2 h3=>(Below.heap_setCell _ _ _ b (by show b≠D;exact h2)).trans (hkp b h1 h2 h3)⟩)
     refine AllReadyH.cons rfl (fun K hK=>?_) AllReadyH.nil
     go_simp
     have hsl:∀ j u,[Value.string v.name,.bool v.pub,.int .i64 v.label,.int .i64 v.size][j]?=some u→(W2.alloc (.cells #[.string v.name,.bool v.pub,.int .i64 v.label,.int .i64 v.size] 76)).cell? ((⟨W2.heap.size,0,none⟩:Addr).add j)=some u:=news_new _ #[.string v.name,.bool v.pub,.int .i64 v.label,.int .i64 v.size] _ _ rfl
     have hss:W2.heap.size+1=(W2.alloc (.cells #[.string v.name,.bool v.pub,.int .i64 v.label,.int .i64 v.size] 76)).heap.size:=by simp
     have hw2s:w.heap.size≤W2.heap.size:=hB2.size
     replace hB2:=hB2.alloc hB2.size (.cells #[.string v.name,.bool v.pub,.int .i64 v.label,.int .i64 v.size] 76)
     replace hI2:=hI2.alloc (.cells #[.string v.name,.bool v.pub,.int .i64 v.label,.int .i64 v.size] 76)
     replace hS2:=Q4.alloc hS2 (.cells #[.string v.name,.bool v.pub,.int .i64 v.label,.int .i64 v.size] 76)
     refine hK.out _ _ hS2 (fun hHeld=>?_)
     clear hK K hHeld
     generalize W2.alloc (.cells #[.string v.name,.bool v.pub,.int .i64 v.label,.int .i64 v.size] 76)=W3 at *
     generalize W2.heap.size=s0 at *
     refine oneH 4 fun K hK=>?_
     have m6:=hI2.c6
     go_simp
     refine hK.out _ _ hS2 (fun hHeld=>?_)
     clear hK K hHeld m6
     refine oneH 7 fun K hK=>?_
     refine step_append_lies _ (by rfl) (.tmp 41) (.tmp 43) 41 (by rfl) (D+1) 76 i0 (.agg #[.string ⟨#[]⟩,.bool false,.int .i64 0,.int .i64 0]) 4 40 Tryz.underlying41 hi hz0 hz1 hz2 rfl (by decide) (.slice (some ⟨g,0,none⟩) vs.length uc) vs.length (varCells vs) (by simp [Act.eval,Act.put]) hI2.rl ⟨s0,0,none⟩ 1 1 [.string v.name,.bool v.pub,.int .i64 v.label,.int .i64 v.size] (by simp [Act.eval,Act.put]) rfl hsl (by intro u hu;simp at hu;rcases hu with rfl | rfl | rfl | rfl<;>rfl) (by omega) (by unfold maxLen;omega) (by omega) (by have:=hI2.lt;omega) (s0+1) hss.symm ?_
     intro g5 cap5 w5 hown5 hgrow5 hat5 hlt5
     have hrN:(Value.slice (some ⟨g,0,none⟩) vs.length uc).ownBlock≠some w.heap.size:=fun e=>by have:=hub _ e;omega
     have hrD:(Value.slice (some ⟨g,0,none⟩) vs.length uc).ownBlock≠some D:=fun e=>by have:=(hI2.rl.lt _ e).1;omega
     have hfin:=hI2.push (v:=v) hown5 hgrow5 (hat5.imp id (fun e=>e.trans hss))
     have hbl5:=hgrow5.block D hI2.lt (fun e=>hrD e.symm)
     have m6:=(World.cell?_of_block (a:=⟨D,6,none⟩) hbl5).trans hI2.c6
     have mf:=(World.frozen?_of_block (a:=⟨D,6,none⟩) hbl5).trans (hI2.fz 6)
     have hs5:=hgrow5.size
     have hs3:=hB2.size
     have hkp:∀ b,b<w.heap.size→b≠D→(Value.slice (some ⟨g,0,none⟩) vs.length uc).ownBlock≠some b→w5.heap[b]?=w.heap[b]?:=fun b h1 h2 h3=>(hgrow5.block b (by omega) (fun e=>h3 e.symm)).trans (hB2.block b h1)
     replace hS2:=Q4.grown hS2 hgrow5 hrN
     clear hI2 hbl5 hB2
     refine hK.out _ _ hS2 (fun hHeld=>?_)
     clear hK K hHeld
     simp only [Act.put,jA,jB,jC]
     refine tkP 8 (.pointer (some ⟨D,0,none⟩)) hS2 ?_
     simp only [Act.put,jA,jB,jC]
     refine tkP 9 (.pointer (some ⟨D,6,none⟩)) hS2 ?_
     simp only [Act.put,jA,jB,jC]
     refine oneH 10 fun K hK=>?_
     go_simp
     refine hK.out _ _ (Q4.other (by omega) hS2 _ _) (fun hHeld=>?_)
     clear hK K hHeld m6 mf
     refine wpAnyH_done (by kernel_rfl) ?_ _
     go_wp2
     go_end0
     exact .inr (.inr ⟨HN.out,by omega,rfl,⟨_,hfin,fun b e=>by have e2:some g5=some b:=e;cases e2;exact hat5.imp id (fun e=>by omega)⟩,by rw [World.size_setCell];omega,fun b h1 h2 h3=>(Below.heap_setCell _ _ _ b (by show b≠D;exact h2)).trans (hkp b h1 h2 h3)⟩)
end
theorem varCells_len:∀ l:List VarD,(varCells l).length=l.length*4
 | []=>rfl
 | v :: r=>by
  show (Value.string v.name :: .bool v.pub :: .int .i64 v.label :: .int .i64 v.size :: varCells r).length=_
  simp only [List.length_cons,varCells_len r]
  omega
theorem varCells_take:∀ (l:List VarD) (n:Nat),(varCells l).take (n*4)=varCells (l.take n)
 | [],n=>by simp [varCells]
 | v :: r,0=>by simp [varCells]
 | v :: r,n+1=>by
  show (Value.string v.name :: .bool v.pub :: .int .i64 v.label :: .int .i64 v.size :: varCells r).take ((n+1)*4)=Value.string v.name :: .bool v.pub :: .int .i64 v.label :: .int .i64 v.size :: varCells (r.take n)
  rw [show (n+1)*4=n*4+1+1+1+1 by omega]
  simp only [List.take_succ_cons,varCells_take r n]
theorem own_cut {w:World} {B:Nat} {ua:Option Addr} {uc:Nat} {vs:List VarD} (h:w.ownsRow B 76 4 (.slice ua vs.length uc) vs.length (varCells vs)) {n:Nat} (hn:n≤vs.length):w.ownsRow B 76 4 (.slice ua n uc) (vs.take n).length (varCells (vs.take n)):=by
 have hl:(vs.take n).length=n:=by rw [List.length_take];omega
 refine ⟨by rw [varCells_len],?_⟩
 rw [hl]
 rcases h.2 with ⟨e,h0⟩|⟨g,cap,cur,e,h1,h2,h3,h4,h5,h6⟩
 ·injection e with e1 _ e2
  exact .inl ⟨by rw [e1,e2,show n=0 by omega],by omega⟩
 ·injection e with e1 _ e2
  refine .inr ⟨g,cap,cur,by rw [e1,e2],h1,h2,by omega,h4,h5,?_⟩
  rw [← varCells_take,← h6,List.take_take,Nat.min_eq_left (by omega)]
section
variable {w0 w w':World} {D Kb kn:Nat} {kf:KF} {vs:List VarD} {ua:Option Addr} {uc:Nat} {a:Int}
theorem CS.cut (h:CS w0 w D Kb kn kf vs (.slice ua vs.length uc) a) {n:Nat} (hn:n≤vs.length):CS w0 (w.setCell ⟨D,6,none⟩ (.slice ua n uc)) D Kb kn kf (vs.take n) (.slice ua n uc) a:=by
 have hob:(Value.slice ua n uc).ownBlock=(Value.slice ua vs.length uc).ownBlock:=by cases ua<;>rfl
 refine ⟨h.bs.setCell h.hD _,h.hD,?_,?_,?_,?_,fun k=>?_,h.mp.setCell h.nk _,h.fi,fun p x hc=>⟨(h.fw p x hc).1,(h.fw p x hc).2.1,(World.cell?_of_block (a:=p) (Below.heap_setCell w ⟨D,6,none⟩ _ p.block (h.fw p x hc).1)).trans (h.fw p x hc).2.2⟩,by rw [World.size_setCell];exact h.fm,h.mM,fun b e=>h.fu b (by rw [← hob];exact e),?_,h.nk,h.mx,?_⟩
 ·rw [jD _ _ _ _ (by simp)];exact h.c4
 ·rw [jD _ _ _ _ (by simp)];exact h.c5
 ·exact World.cell?_setCell_same' _ _ _ (by rw [h.c6];rfl)
 ·rw [jD _ _ _ _ (by simp)];exact h.c7
 ·rw [World.frozen?_setCell];exact h.fz k
 ·refine ownsRow_setCell_other (own_cut h.rl hn) (fun e=>?_) _
  rw [hob] at e
  have h2:D+1≤D:=(h.rl.lt _ e).1
  omega
 ·rw [hob];exact h.nu
end
end chk
namespace chk
open syn face
def Lab (l:Int):Prop:=l=0∨l=1
theorem jn_zero {l:Int} (h:Lab l):jn l 0=l:=by
 unfold jn
 rcases h with rfl | rfl<;>decide
theorem jn_swap (l v:Int):jn v l=jn (jn 0 l) v:=by
 unfold jn
 by_cases h1:v=0<;>by_cases h2:l=0<;>simp [h1,h2]
theorem flows_one {p:Int} (l:Int) (h:Lab p):flows p [l]=(p==1||l==0):=by
 unfold flows jn
 rcases h with rfl | rfl
 ·by_cases h2:l=0<;>simp [h2]
 ·simp
theorem argsP_is:∀ (ps ls:List Int),(∀ p∈ps,Lab p)→argsP ps ls=argsOk ps ls
 | [],ls,h=>by
  cases ls<;>rfl
 | p :: r,[],h=>rfl
 | p :: r,l :: s,h=>by
  show (flows p [l]&&argsP r s)=((p==1||l==0)&&argsOk r s)
  rw [flows_one l (h p (List.mem_cons_self ..)),argsP_is r s (fun q hq=>h q (List.mem_cons_of_mem _ hq))]
theorem agr_of {E:Env} {L:List Loc} {ctx:Int} {kf:ByteArray→Option FV} {vs:List VarD}
  (hv:∀ x,LongN x→(varP kf vs x).map (fun v=>(v.label,v.size))=varF E L x) (hp:∀ x,LongN x→procP kf x=procF E x)
  (hlv:∀ x v,LongN x→varP kf vs x=some v→Lab v.label∧0≤v.size) (hlp:∀ x p,LongN x→procP kf x=some p→(∀ l∈p.params,Lab l)∧Lab p.writes):Agr E L ctx kf vs where
 pl:=fun k x a a' ls hk hx=>by
  have e:=hv x hx
  rcases hk with ⟨rfl,rfl⟩|⟨rfl,l,rfl⟩
  ·unfold plP ownF
   rw [if_pos rfl,← e]
   cases hq:varP kf vs x with
   | none=>rfl
   | some v =>
    obtain ⟨h1,h2⟩:=hlv x v hx hq
    dsimp only [Option.map_some]
    by_cases h3:v.size=0
    ·rw [if_pos (by simp [h3]),if_pos h3]
     show Res.ok (jn v.label 0,a')=_
     rw [jn_zero h1]
    ·rw [if_neg (by simp;omega),if_neg h3]
  ·unfold plP ownF
   rw [if_neg (by decide),if_pos rfl,← e]
   cases hq:varP kf vs x with
   | none=>rfl
   | some v =>
    dsimp only [Option.map_some]
    by_cases h3:0<v.size
    ·rw [if_pos (by simp [h3]),if_pos h3]
     show Res.ok (jn v.label l,a')=Res.ok (jn (jn 0 l) v.label,a')
     rw [jn_swap]
    ·rw [if_neg (by simp;omega),if_neg h3]
 cl:=fun alone x a a' ls hx=>by
  refine Eq.trans ?_ (own18 E L ctx alone x ls a a').symm
  rw [← hp x hx]
  unfold clP
  cases hq:procP kf x with
  | none=>rfl
  | some p =>
   obtain ⟨h1,h2⟩:=hlp x p hx hq
   dsimp only
   rw [argsP_is _ _ h1,flows_one ctx h2]
   by_cases g1:ls.length=p.params.length
   ·have n1:¬ (ls.length≠p.params.length):=fun e=>e g1
    have n2:¬ (p.params.length≠ls.length):=fun e=>e g1.symm
    rw [if_neg n1,if_neg n2]
    by_cases g2:p.gives=false∧alone=false
    ·have m1:(!p.gives&&!alone)=true:=by simp [g2.1,g2.2]
     rw [if_pos m1,if_pos g2]
    ·have m1:¬ ((!p.gives&&!alone)=true):=fun e=>g2 (by simpa using e)
     rw [if_neg m1,if_neg g2]
     by_cases g3:argsOk p.params ls=false
     ·rw [if_pos g3,if_pos g3]
     ·rw [if_neg g3,if_neg g3]
      by_cases g4:p.writes≠1∧ctx≠0
      ·have m2:(p.writes==1||ctx==0)=false:=by simp [g4.1,g4.2]
       rw [if_pos m2,if_pos g4]
      ·have m2:¬ ((p.writes==1||ctx==0)=false):=fun e=>g4 (by simpa using e)
       rw [if_neg m2,if_neg g4]
   ·have n2:p.params.length≠ls.length:=fun e=>g1 e.symm
    rw [if_pos g1,if_pos n2]
def vsOf (L:List Loc):List VarD:=L.map fun l=>⟨l.name,false,l.label,0⟩
def FaceOk (f:FaceD):Prop:=(∀ v∈f.vars,Lab v.label∧0≤v.size)∧∀ p∈f.procs,(∀ l∈p.params,Lab l)∧Lab p.writes∧Lab p.given
def EnvOk (E:Env):Prop:=FaceOk E.own∧∀ f∈E.faces,FaceOk f
def LabL (L:List Loc):Prop:=∀ l∈L,Lab l.label
theorem jn_lab (a b:Int):Lab (jn a b):=by
 unfold jn Lab
 split<;>simp
theorem joinL_lab:∀ (ls:List Int) (l:Int),Lab l→Lab (joinL ls l)
 | [],l,h=>h
 | x :: r,l,h=>joinL_lab r _ (jn_lab l x)
theorem faceOf_ok {E:Env} {x:ByteArray} {f:FaceD} (h:EnvOk E) (hf:faceOf E x=some f):FaceOk f:=by
 unfold faceOf at hf
 split at hf
 ·cases hf;exact h.1
 ·exact h.2 f (List.mem_of_find?_eq_some hf)
theorem varF_lab {E:Env} {L:List Loc} {x:ByteArray} {v:Int × Int} (h:EnvOk E) (hL:LabL L) (hv:varF E L x=some v):Lab v.1∧0≤v.2:=by
 unfold varF at hv
 split at hv
 ·rename_i l hl
  cases hv
  exact ⟨hL l (List.mem_reverse.1 (List.mem_of_find?_eq_some hl)),Int.le_refl _⟩
 ·split at hv
  ·cases hv
  ·rename_i f hf
   cases hq:varIn f.vars (ownOf x) with
   | none=>rw [hq] at hv;cases hv
   | some y =>
    rw [hq] at hv
    simp only [Option.map_some,Option.some.injEq] at hv
    rw [← hv]
    exact (faceOf_ok h hf).1 y (List.mem_of_find?_eq_some hq)
theorem procF_lab {E:Env} {x:ByteArray} {p:ProcD} (h:EnvOk E) (hp:procF E x=some p):(∀ l∈p.params,Lab l)∧Lab p.writes∧Lab p.given:=by
 unfold procF at hp
 split at hp
 ·cases hp
 ·rename_i f hf
  exact (faceOf_ok h hf).2 p (List.mem_of_find?_eq_some hp)
theorem ownF_lab {E:Env} {L:List Loc} {ctx:Int} {alone:Bool} {k:Int} {x:ByteArray} {ls:List Int} {a l:Int} (h:EnvOk E) (hL:LabL L) (ho:ownF E L ctx alone k x ls a=.ok l):Lab l:=by
 unfold ownF at ho
 split at ho
 ·split at ho
  ·cases ho
  ·rename_i v hv
   split at ho
   ·cases ho;exact (varF_lab h hL hv).1
   ·cases ho
 ·split at ho
  ·split at ho
   ·cases ho
   ·split at ho
    ·cases ho;exact jn_lab _ _
    ·cases ho
  ·split at ho
   ·split at ho
    ·cases ho
    ·rename_i p hp
     split at ho
     ·cases ho
     ·split at ho
      ·cases ho
      ·split at ho
       ·cases ho
       ·split at ho
        ·cases ho
        ·cases ho;exact (procF_lab h hp).2.2
   ·cases ho;exact joinL_lab _ _ (.inl rfl)
theorem exF_lab {E:Env} {L:List Loc} {ctx:Int} {alone:Bool} {t:Tree} {a:Int} {q:Int × Int} (h:EnvOk E) (hL:LabL L) (ht:exF E L ctx alone t a=.ok q):Lab q.1:=by
 obtain ⟨k,x,m,ks⟩:=t
 unfold exF at ht
 split at ht
 ·cases ht
 ·split at ht
  ·cases ht
  ·rename_i l hl
   cases ht
   exact ownF_lab h hL hl
theorem jn0 {l:Int} (h:Lab l):jn 0 l=l:=by
 rcases h with rfl | rfl<;>decide
theorem exL_one (E:Env) (L:List Loc) (ctx:Int) (t:Tree) (a:Int):exL E L ctx [t] a=match exF E L ctx false t a with
  | .bad c b=>.bad c b
  | .ok q=>.ok ([q.1],q.2):=by
 simp only [exL]
 cases exF E L ctx false t a<;>rfl
theorem flows2 {to v c:Int} (h1:Lab to) (h2:Lab v) (h3:Lab c):(flows to [v,c]=false)=(to≠1∧hi v c 0=true):=by
 rcases h1 with rfl | rfl<;>rcases h2 with rfl | rfl<;>rcases h3 with rfl | rfl<;>decide
theorem flows3 {to v i c:Int} (h1:Lab to) (h2:Lab v) (h3:Lab i) (h4:Lab c):(flows to [v,i,c]=false)=(to≠1∧hi v i c=true):=by
 rcases h1 with rfl | rfl<;>rcases h2 with rfl | rfl<;>rcases h3 with rfl | rfl<;>rcases h4 with rfl | rfl<;>decide
theorem flows1 {to c:Int} (h1:Lab to) (h2:Lab c):(flows to [c]=false)=(to≠1∧c≠0):=by
 rcases h1 with rfl | rfl<;>rcases h2 with rfl | rfl<;>decide
theorem plF_at {E:Env} {L:List Loc} {ctx:Int} {t:Tree} {a:Int} {q:Int × Int × Int} (h:plF E L ctx t a=.ok q):q.2.2=a+cntT t:=by
 obtain ⟨k,x,m,ks⟩:=t
 simp only [plF] at h
 split at h
 ·cases h
 ·rename_i s hs
  split at h
  ·cases h
  ·cases h
   have:=exL_at E L ctx ks _ _ hs
   show s.2=_
   rw [show cntT (.node k x m ks)=cntL ks+1 by unfold cntT;rfl]
   omega
def Ext (deep:Int) (L L':List Loc):Prop:=∃ M,L'=L++M∧∀ m∈M,m.deep=deep∧Lab m.label
theorem Ext.refl (deep:Int) (L:List Loc):Ext deep L L:=⟨[],by simp,fun m hm=>by cases hm⟩
theorem Ext.trans {deep:Int} {L L1 L2:List Loc} (h1:Ext deep L L1) (h2:Ext deep L1 L2):Ext deep L L2:=by
 obtain ⟨M1,rfl,g1⟩:=h1
 obtain ⟨M2,rfl,g2⟩:=h2
 refine ⟨M1++M2,by simp,fun m hm=>?_⟩
 rcases List.mem_append.1 hm with h | h
 ·exact g1 m h
 ·exact g2 m h
theorem Ext.lab {deep:Int} {L L':List Loc} (h:Ext deep L L') (hL:LabL L):LabL L':=by
 obtain ⟨M,rfl,g⟩:=h
 intro l hl
 rcases List.mem_append.1 hl with h | h
 ·exact hL l h
 ·exact (g l h).2
theorem Ext.take {deep:Int} {L L':List Loc} (h:Ext deep L L'):L'.take L.length=L:=by
 obtain ⟨M,rfl,g⟩:=h
 simp
theorem Ext.len {deep:Int} {L L':List Loc} (h:Ext deep L L'):L.length≤L'.length:=by
 obtain ⟨M,rfl,g⟩:=h
 simp
theorem bI_lab (l:Bool):Lab (bI l):=by
 cases l
 ·exact .inl rfl
 ·exact .inr rfl
theorem cntN (k:Int) (x:ByteArray) (m:Int) (ks:List Tree):cntT (.node k x m ks)=cntL ks+1:=by
 unfold cntT
 rfl
theorem cntL_one (t:Tree):cntL [t]=cntT t:=by
 show cntT t+cntL []=_
 simp [cntL]
section
variable (E:Env) (p:Pr)
theorem simF_ok {L:List Loc} {ctx deep:Int} {last:Bool} {k:Int} {x:ByteArray} {m:Int} {ks:List Tree} {a:Int} {q:List Loc × Int} (hs:StT (.node k x m ks)) (hk:¬ (k=10∨k=11)) (h:simF E p L ctx deep last k x m ks a=.ok q):Ext deep L q.1∧q.2=a+cntT (.node k x m ks)∧(L.length≤20→q.1.length≤20):=by
 rw [cntN]
 unfold simF at h
 cases hs with
 | loc l hx he =>
  rw [if_pos rfl] at h
  split at h
  ·cases h
  ·rename_i s hq
   have:=(exL_at E L ctx _ _ _ hq).1
   split at h
   ·cases h
   ·split at h
    ·cases h
    ·split at h
     ·cases h
     ·cases h
      refine ⟨⟨_,rfl,fun m hm=>?_⟩,by show s.2=_;omega,fun _=>by simp;omega⟩
      simp only [List.mem_singleton] at hm
      subst hm
      exact ⟨rfl,bI_lab l⟩
 | set hp he =>
  rw [if_neg (by decide),if_pos rfl] at h
  dsimp only at h
  split at h
  ·cases h
  ·rename_i s hq
   have h1:=plF_at hq
   split at h
   ·cases h
   ·rename_i s2 hq2
    have h2:=exF_at E L ctx _ _ _ _ hq2
    split at h
    ·cases h
    ·cases h
     refine ⟨Ext.refl _ _,?_,id⟩
     show s2.2=_
     show _=a+(cntT _+(cntT _+cntL [])+1)
     simp only [cntL]
     omega
 | dd hc =>
  rw [if_neg (by decide),if_neg (by decide),if_pos rfl] at h
  dsimp only at h
  split at h
  ·cases h
  ·rename_i s hq
   have h1:=exF_at E L ctx _ _ _ _ hq
   cases h
   refine ⟨Ext.refl _ _,?_,id⟩
   show s.2=_
   rw [cntL_one]
   omega
 | ift _ _=>exact absurd (.inl rfl) hk
 | ife _ _ _=>exact absurd (.inl rfl) hk
 | whi _ _=>exact absurd (.inr rfl) hk
 | out l he =>
  rw [if_neg (by decide),if_neg (by decide),if_neg (by decide),if_pos rfl] at h
  split at h
  ·cases h
  ·rename_i s hq
   have:=(exL_at E L ctx _ _ _ hq).1
   split at h
   ·cases h
   ·cases h
    exact ⟨Ext.refl _ _,by show s.2=_;omega,id⟩
 | inn l hp =>
  rw [if_neg (by decide),if_neg (by decide),if_neg (by decide),if_neg (by decide),if_pos rfl] at h
  dsimp only at h
  split at h
  ·cases h
  ·rename_i s hq
   have h1:=plF_at hq
   split at h
   ·cases h
   ·split at h
    ·cases h
    ·cases h
     refine ⟨Ext.refl _ _,?_,id⟩
     show s.2.2=_
     rw [cntL_one]
     omega
 | ret he =>
  rw [if_neg (by decide),if_neg (by decide),if_neg (by decide),if_neg (by decide),if_neg (by decide)] at h
  split at h
  ·cases h
  ·rename_i s hq
   have:=(exL_at E L ctx _ _ _ hq).1
   split at h
   ·cases h
   ·split at h
    ·cases h
    ·cases h
     exact ⟨Ext.refl _ _,by show s.2=_;omega,id⟩
theorem StT.blocks {k:Int} {x:ByteArray} {m:Int} {e:Tree} {r:List Tree} (h:StT (.node k x m (e :: r))) (hk:k=10∨k=11):ExT e∧∀ t∈r,BlT t:=by
 cases h with
 | loc l hx he=>omega
 | set hp he=>omega
 | dd hc=>omega
 | ift he hb=>exact ⟨he,fun t ht=>by simp only [List.mem_singleton] at ht;subst ht;exact hb⟩
 | ife he hb hc=>exact ⟨he,fun t ht=>by
   simp only [List.mem_cons,List.not_mem_nil,or_false] at ht
   rcases ht with rfl | rfl
   ·exact hb
   ·exact hc⟩
 | whi he hb=>exact ⟨he,fun t ht=>by simp only [List.mem_singleton] at ht;subst ht;exact hb⟩
 | out l he=>omega
 | inn l hp=>omega
 | ret he=>omega
theorem StT.some_kid {k:Int} {x:ByteArray} {m:Int} (h:StT (.node k x m [])):False:=by cases h
mutual
theorem stF_ok:∀ (t:Tree) (ctx deep:Int) (last:Bool) (L:List Loc) (a:Int) (q:List Loc × Int),StT t→stF E p ctx deep last t L a=.ok q→Ext deep L q.1∧q.2=a+cntT t∧(L.length≤20→q.1.length≤20)
 | .node k x m [],ctx,deep,last,L,a,q,hs,h=>hs.some_kid.elim
 | .node k x m (e :: r),ctx,deep,last,L,a,q,hs,h=>by
  unfold stF at h
  split at h
  ·rename_i hk
   dsimp only at h
   split at h
   ·cases h
   ·rename_i s hq
    have h1:=exF_at E L ctx _ _ _ _ hq
    have h2:=blsF_ok r _ _ _ _ _ (hs.blocks hk).2 h
    rw [h2.1,h2.2,cntN]
    refine ⟨Ext.refl _ _,?_,id⟩
    show _=a+(cntT e+cntL r+1)
    omega
  ·rename_i hk
   exact simF_ok E p hs hk h
theorem blsF_ok:∀ (ks:List Tree) (ctx deep:Int) (L:List Loc) (a:Int) (q:List Loc × Int),(∀ t∈ks,BlT t)→blsF E p ctx deep ks L a=.ok q→q.1=L∧q.2=a+cntL ks
 | [],ctx,deep,L,a,q,hs,h=>by
  simp only [blsF,Res.ok.injEq] at h
  rw [← h]
  exact ⟨rfl,by simp [cntL]⟩
 | t :: r,ctx,deep,L,a,q,hs,h=>by
  unfold blsF at h
  split at h
  ·cases h
  ·rename_i s hq
   have h1:=blF_ok t _ _ _ _ _ (hs t (List.mem_cons_self ..)) hq
   have h2:=blsF_ok r _ _ _ _ _ (fun t ht=>hs t (List.mem_cons_of_mem _ ht)) h
   rw [h2.1,h2.2,h1.1,h1.2]
   refine ⟨rfl,?_⟩
   show _=a+(cntT t+cntL r)
   omega
theorem blF_ok:∀ (t:Tree) (ctx deep:Int) (L:List Loc) (a:Int) (q:List Loc × Int),BlT t→blF E p ctx deep t L a=.ok q→q.1=L∧q.2=a+cntT t
 | .node k x m ks,ctx,deep,L,a,q,hs,h=>by
  unfold blF at h
  split at h
  ·cases h
  ·rename_i s hq
   have h1:=stsF_ok ks _ _ _ _ _ (by cases hs with | mk h=>exact h) hq
   cases h
   refine ⟨h1.1.take,?_⟩
   show s.2=_
   rw [h1.2.1,cntN]
   omega
theorem stsF_ok:∀ (ks:List Tree) (ctx deep:Int) (L:List Loc) (a:Int) (q:List Loc × Int),(∀ t∈ks,StT t)→stsF E p ctx deep ks L a=.ok q→Ext deep L q.1∧q.2=a+cntL ks∧(L.length≤20→q.1.length≤20)
 | [],ctx,deep,L,a,q,hs,h=>by
  simp only [stsF,Res.ok.injEq] at h
  rw [← h]
  exact ⟨Ext.refl _ _,by simp [cntL],id⟩
 | t :: r,ctx,deep,L,a,q,hs,h=>by
  unfold stsF at h
  split at h
  ·cases h
  ·rename_i s hq
   have h1:=stF_ok t _ _ _ _ _ _ (hs t (List.mem_cons_self ..)) hq
   have h2:=stsF_ok r _ _ _ _ _ (fun t ht=>hs t (List.mem_cons_of_mem _ ht)) h
   refine ⟨h1.1.trans h2.1,?_,fun h=>h2.2.2 (h1.2.2 h)⟩
   rw [h2.2.1,h1.2.1]
   show _=a+(cntT t+cntL r)
   omega
end
def stsN (ctx deep:Int):List Tree→List Loc→Int→Res (List Loc × Int)
 | [],L,a=>.ok (L,a)
 | t :: r,L,a=>match stF E p ctx deep false t L a with
  | .bad c b=>.bad c b
  | .ok q=>stsN ctx deep r q.1 q.2
theorem stsN_in (ctx deep:Int) (hd:deep≠1):∀ (ks:List Tree) (L:List Loc) (a:Int),stsF E p ctx deep ks L a=stsN E p ctx deep ks L a
 | [],L,a=>by simp only [stsF,stsN]
 | t :: r,L,a=>by
  unfold stsF stsN
  rw [show (decide (deep=1)&&r.isEmpty)=false by simp [hd]]
  split
  ·rename_i h;rw [h]
  ·rename_i q h;rw [h];exact stsN_in ctx deep hd r _ _
theorem stF_last (ctx deep:Int) (last:Bool) (k:Int) (x:ByteArray) (m:Int) (ks:List Tree) (L:List Loc) (a:Int) (hs:StT (.node k x m ks)) (h:p.gives=false∨k≠14):stF E p ctx deep last (.node k x m ks) L a=stF E p ctx deep false (.node k x m ks) L a:=by
 unfold stF
 split
 ·rfl
 ·rename_i hk
  unfold simF
  cases hs with
  | ift _ _=>exact absurd (.inl rfl) hk
  | ife _ _ _=>exact absurd (.inl rfl) hk
  | whi _ _=>exact absurd (.inr rfl) hk
  | ret he =>
   have hg:p.gives=false:=by
    rcases h with h | h
    ·exact h
    ·exact absurd rfl h
   rw [hg]
   simp
  | _=>rfl
theorem stsN_none (ctx:Int) (hg:p.gives=false):∀ (ks:List Tree) (L:List Loc) (a:Int),(∀ t∈ks,StT t)→stsF E p ctx 1 ks L a=stsN E p ctx 1 ks L a
 | [],L,a,_=>by simp only [stsF,stsN]
 | .node k x m ks :: r,L,a,hs=>by
  unfold stsF stsN
  rw [stF_last E p ctx 1 _ k x m ks L a (hs _ (List.mem_cons_self ..)) (.inl hg)]
  split
  ·rename_i h;rw [h]
  ·rename_i q h;rw [h];exact stsN_none ctx hg r _ _ (fun t ht=>hs t (List.mem_cons_of_mem _ ht))
def retL:List Tree→Bool
 | []=>false
 | [.node k _ _ _]=>k==14
 | _ :: t :: r=>retL (t :: r)
theorem stsN_noret (ctx:Int):∀ (ks:List Tree) (L:List Loc) (a:Int),(∀ t∈ks,StT t)→retL ks=false→stsF E p ctx 1 ks L a=stsN E p ctx 1 ks L a
 | [],L,a,_,_=>by simp only [stsF,stsN]
 | [.node k x m ks],L,a,hs,hr=>by
  have hk:k≠14:=by
   intro e
   subst e
   simp [retL] at hr
  unfold stsF stsN
  rw [stF_last E p ctx 1 _ k x m ks L a (hs _ (List.mem_cons_self ..)) (.inr hk)]
  split
  ·rename_i h;rw [h]
  ·rename_i q h;rw [h];simp only [stsF,stsN]
 | t :: t2 :: r,L,a,hs,hr=>by
  unfold stsF stsN
  rw [show (decide ((1:Int)=1)&&(t2 :: r).isEmpty)=false by simp]
  split
  ·rename_i h;rw [h]
  ·rename_i q h;rw [h];exact stsN_noret ctx (t2 :: r) _ _ (fun t ht=>hs t (List.mem_cons_of_mem _ ht)) (by simpa [retL] using hr)
theorem stsN_ret (ctx:Int) (z:Tree):∀ (ks:List Tree) (L:List Loc) (a:Int),stsF E p ctx 1 (ks++[z]) L a=match stsN E p ctx 1 ks L a with
  | .bad c b=>.bad c b
  | .ok q=>stF E p ctx 1 true z q.1 q.2
 | [],L,a=>by
  show stsF E p ctx 1 [z] L a=_
  unfold stsF stsN
  rw [show (decide ((1:Int)=1)&&([]:List Tree).isEmpty)=true by simp]
  dsimp only
  cases hX:stF E p ctx 1 true z L a with
  | bad c b=>rfl
  | ok q=>simp only [stsF]
 | t :: r,L,a=>by
  show stsF E p ctx 1 (t :: (r++[z])) L a=_
  unfold stsF stsN
  rw [show (decide ((1:Int)=1)&&(r++[z]).isEmpty)=false by simp]
  cases stF E p ctx 1 false t L a with
  | bad c b=>rfl
  | ok q=>exact stsN_ret ctx z r _ _
theorem stsN_ok:∀ (ks:List Tree) (ctx deep:Int) (L:List Loc) (a:Int) (q:List Loc × Int),(∀ t∈ks,StT t)→stsN E p ctx deep ks L a=.ok q→Ext deep L q.1∧q.2=a+cntL ks∧(L.length≤20→q.1.length≤20)
 | [],ctx,deep,L,a,q,hs,h=>by
  simp only [stsN,Res.ok.injEq] at h
  rw [← h]
  exact ⟨Ext.refl _ _,by simp [cntL],id⟩
 | t :: r,ctx,deep,L,a,q,hs,h=>by
  unfold stsN at h
  split at h
  ·cases h
  ·rename_i s hq
   have h1:=stF_ok E p t _ _ _ _ _ _ (hs t (List.mem_cons_self ..)) hq
   have h2:=stsN_ok r _ _ _ _ _ (fun t ht=>hs t (List.mem_cons_of_mem _ ht)) h
   refine ⟨h1.1.trans h2.1,?_,fun h=>h2.2.2 (h1.2.2 h)⟩
   rw [h2.2.1,h1.2.1]
   show _=a+(cntT t+cntL r)
   omega
end
structure InvL (L:List Loc) (deep:Int) (first:Nat):Prop where
 le:first≤L.length
 out:∀ l∈L.take first,l.deep<deep
 inn:∀ l∈L.drop first,l.deep=deep
theorem InvL.any {L:List Loc} {deep:Int} {first:Nat} (h:InvL L deep first) (x:ByteArray):L.any (fun l=>l.deep==deep&&eqS l.name x)=((vsOf L).drop first).any (fun o=>eqS o.name x):=by
 have h1:L.any (fun l=>l.deep==deep&&eqS l.name x)=(L.take first++L.drop first).any (fun l=>l.deep==deep&&eqS l.name x):=by rw [List.take_append_drop]
 rw [h1,List.any_append]
 have h2:(L.take first).any (fun l=>l.deep==deep&&eqS l.name x)=false:=by
  rw [List.any_eq_false]
  intro l hl
  have:=h.out l hl
  have h3:(l.deep==deep)=false:=by simp;omega
  simp [h3]
 rw [h2,Bool.false_or]
 unfold vsOf
 rw [← List.map_drop,List.any_map]
 have h4:∀ l∈L.drop first,(l.deep==deep&&eqS l.name x)=eqS l.name x:=fun l hl=>by simp [h.inn l hl]
 generalize L.drop first=M at h4
 clear h1 h2 h
 induction M with
 | nil=>rfl
 | cons y r ih =>
  rw [List.any_cons,List.any_cons,ih (fun l hl=>h4 l (List.mem_cons_of_mem _ hl)),h4 y (List.mem_cons_self ..)]
  rfl
theorem InvL.ext {L L':List Loc} {deep:Int} {first:Nat} (h:InvL L deep first) (he:Ext deep L L'):InvL L' deep first:=by
 obtain ⟨M,rfl,g⟩:=he
 refine ⟨by have:=h.le;simp;omega,?_,?_⟩
 ·rw [List.take_append_of_le_length h.le];exact h.out
 ·rw [List.drop_append_of_le_length h.le]
  intro l hl
  rcases List.mem_append.1 hl with h1 | h1
  ·exact h.inn l h1
  ·exact (g l h1).1
theorem InvL.enter {L:List Loc} {deep:Int} {first:Nat} (h:InvL L deep first):InvL L (deep+1) L.length:=by
 refine ⟨jE _,?_,?_⟩
 ·intro l hl
  rw [List.take_length] at hl
  rw [← List.take_append_drop first L] at hl
  rcases List.mem_append.1 hl with h1 | h1
  ·have:=h.out l h1;omega
  ·have:=h.inn l h1;omega
 ·intro l hl
  rw [List.drop_length] at hl
  cases hl
end chk
namespace chk
open Go.RowKit Go.Shelf
open syn face
structure FrU (D:Nat) (u u':Value) (w w':World):Prop where
 size:w.heap.size≤w'.heap.size
 block:∀ b,b<w.heap.size→b≠D→u.ownBlock≠some b→w'.heap[b]?=w.heap[b]?
 own:∀ b,u'.ownBlock=some b→u.ownBlock=some b∨w.heap.size≤b
section
variable {D:Nat} {u u1 u2:Value} {w w1 w2:World}
theorem FrU.refl (D:Nat) (u:Value) (w:World):FrU D u u w w:=⟨jE _,fun _ _ _ _=>rfl,fun _ e=>.inl e⟩
theorem FrU.trans (h:FrU D u u1 w w1) (g:FrU D u1 u2 w1 w2):FrU D u u2 w w2:=by
 refine ⟨Nat.le_trans h.size g.size,fun b h1 h2 h3=>?_,fun b e=>?_⟩
 ·refine (g.block b (Nat.lt_of_lt_of_le h1 h.size) h2 (fun e=>?_)).trans (h.block b h1 h2 h3)
  rcases h.own b e with h4 | h4
  ·exact h3 h4
  ·omega
 ·rcases g.own b e with h4 | h4
  ·exact h.own b h4
  ·exact .inr (Nat.le_trans h.size h4)
theorem FrU.of (h:Fr D w w1) (u:Value):FrU D u u w w1:=⟨h.size,fun b h1 h2 _=>h.block b h1 (fun e=>h2 (by cases e;rfl)),fun _ e=>.inl e⟩
theorem FrU.below (h:Below w.heap.size w w1) (D:Nat) (u:Value):FrU D u u w w1:=⟨h.size,fun b h1 _ _=>h.block b h1,fun _ e=>.inl e⟩
theorem FrU.alloc (h:FrU D u u1 w w1) (o:Obj):FrU D u u1 w (w1.alloc o):=h.trans (.below (bal o) D u1)
theorem FrU.drew (h:FrU D u u1 w w1):FrU D u u1 w w1.drew:=h.trans (.below (Below.refl _ _).drew D u1)
theorem FrU.cell {b o:Nat} (h:FrU D u u1 w w1) (h1:b<w.heap.size) (h2:b≠D) (h3:u.ownBlock≠some b):w1.cell? ⟨b,o,none⟩=w.cell? ⟨b,o,none⟩:=World.cell?_of_block (a:=⟨b,o,none⟩) (h.block b h1 h2 h3)
theorem FrU.set (h:FrU D u u1 w w1) (o:Nat) (v:Value) (hs:∀ b,u2.ownBlock=some b→u1.ownBlock=some b):FrU D u u2 w (w1.setCell ⟨D,o,none⟩ v) :=
 h.trans ⟨by rw [World.size_setCell];exact jE _,fun b _ h2 _=>Below.heap_setCell w1 ⟨D,o,none⟩ v b h2,fun b e=>.inl (hs b e)⟩
end
def SR (w0:World) (D Kb kn:Nat) (kf:KF) (u:Value) (w:World) (r:Res (List Loc × Int)) (e:Ending) (w':World):Prop:=match r with
 | .bad c b=>e=.panicked (Thrown c b)∧Below w0.heap.size w0 w'
 | .ok q=>e=.returned (.tuple #[])∧∃ u',CS w0 w' D Kb kn kf (vsOf q.1) u' q.2∧FrU D u u' w w'
section
variable (E:Env) (p:Pr) (w0:World) (D Kb kn:Nat) (kf:KF)
def StatC (t:Tree):Prop:=∀ (ctx deep:Int) (first:Nat) (L:List Loc) (u v:Value) (w:World) (at_:Int),Lies (·<w0.heap.size) w0 t v→InvL L deep first→LabL L→L.length≤20→Lab ctx→1≤deep→CS w0 w D Kb kn kf (vsOf L) u at_→0≤at_→at_+cntT t≤1000000 →
 Calls Tryz.prog 157 #[.pointer (some ⟨D,0,none⟩),v,.agg #[.int .i64 ctx,.int .i64 (first:Int)]] w (SR w0 D Kb kn kf u w (stF E p ctx deep false t L at_))
def StatsC (ks:List Tree):Prop:=∀ (ctx deep:Int) (first:Nat) (L:List Loc) (u:Value) (a:Option Addr) (c:Nat) (w:World) (at_:Int),(ks≠[]→∃ g o,a=some ⟨g,o,none⟩∧g<w0.heap.size∧LiesAt (·<w0.heap.size) w0 ks g o)→InvL L deep first→LabL L→L.length≤20→Lab ctx→1≤deep→CS w0 w D Kb kn kf (vsOf L) u at_→0≤at_→at_+cntL ks≤1000000 →
 Calls Tryz.prog 133 #[.pointer (some ⟨D,0,none⟩),.slice a ks.length c,.agg #[.int .i64 ctx,.int .i64 (first:Int)]] w (SR w0 D Kb kn kf u w (stsN E p ctx deep ks L at_))
def BlockC (t:Tree):Prop:=∀ (ctx deep:Int) (first:Nat) (L:List Loc) (u v:Value) (w:World) (at_:Int),Lies (·<w0.heap.size) w0 t v→InvL L deep first→LabL L→L.length≤20→Lab ctx→1≤deep→CS w0 w D Kb kn kf (vsOf L) u at_→0≤at_→at_+cntT t≤1000000 →
 Calls Tryz.prog 187 #[.pointer (some ⟨D,0,none⟩),v,.int .i64 ctx] w (SR w0 D Kb kn kf u w (blF E p ctx (deep+1) t L at_))
end
section
variable {E:Env} {p:Pr} {w0:World} {D Kb kn:Nat} {kf:KF} {u:Value}
theorem SR.mkBad {w w':World} {r:Res (List Loc × Int)} {c b:Int} (h:r=.bad c b) (hb:Below w0.heap.size w0 w'):SR w0 D Kb kn kf u w r (.panicked (Thrown c b)) w':=by rw [h];exact ⟨rfl,hb⟩
theorem SR.mkOk {w w':World} {r:Res (List Loc × Int)} {L:List Loc} {a:Int} {u':Value} (h:r=.ok (L,a)) (hc:CS w0 w' D Kb kn kf (vsOf L) u' a) (hf:FrU D u u' w w'):SR w0 D Kb kn kf u w r (.returned (.tuple #[])) w':=by rw [h];exact ⟨rfl,u',hc,hf⟩
theorem stsN_step (E:Env) (p:Pr) (ctx deep:Int) (ks:List Tree) (j:Nat) (hj:j<ks.length) (L:List Loc) (a:Int):stsN E p ctx deep (ks.drop j) L a=match stF E p ctx deep false ks[j] L a with
  | .bad c b=>.bad c b
  | .ok q=>stsN E p ctx deep (ks.drop (j+1)) q.1 q.2:=by
 rw [List.drop_eq_getElem_cons hj]
 rfl
set_option maxHeartbeats 2000000 in
theorem oStats (ks:List Tree) (hst:∀ t∈ks,StT t) (ih:∀ j (hj:j<ks.length),StatC E p w0 D Kb kn kf ks[j]):StatsC E p w0 D Kb kn kf ks:=by
 intro ctx deep first L u a c w at_ hk hInv hLab h20 hctx hdeep h h0 hm
 have c24:=kc25
 have c2:=kc179
 have hlen:=len_cnt ks
 obtain ⟨R,hR⟩:∃ R,stsN E p ctx deep ks L at_=R:=⟨_,rfl⟩
 rw [hR]
 have HR:Hid (stsN E p ctx deep ks L at_=R):=hR
 clear hR
 have hub:u.ownBlock≠some w.heap.size:=fun e=>by have:=(h.rl.lt _ e).2;omega
 have hd:=h.lt
 have hI0:=h.alloc (.cells #[.int .i64 ctx,.int .i64 (first:Int)] 179)
 have hf0:=(FrU.refl D u w).alloc (.cells #[.int .i64 ctx,.int .i64 (first:Int)] 179)
 have b0:(w.alloc (.cells #[.int .i64 ctx,.int .i64 (first:Int)] 179)).cell? ⟨w.heap.size,0,none⟩=some (.int .i64 ctx):=by simp
 have b1:(w.alloc (.cells #[.int .i64 ctx,.int .i64 (first:Int)] 179)).cell? ⟨w.heap.size,1,none⟩=some (.int .i64 (first:Int)):=by simp
 have hsz:w.heap.size<(w.alloc (.cells #[.int .i64 ctx,.int .i64 (first:Int)] 179)).heap.size:=by simp
 go_enter Tryz.func133,Tryz.ntmps133
 go_wp2
 generalize w.alloc (.cells #[.int .i64 ctx,.int .i64 (first:Int)] 179)=W1 at *
 go_loopw [10] (fun t wr=>∃ (j:Nat) (L':List Loc) (u':Value),j≤ks.length∧t=.int .i64 j∧Hid (Ext deep L L')∧Hid (L'.length≤20)∧CS w0 wr D Kb kn kf (vsOf L') u' (at_+cntL (ks.take j))∧FrU D u u' W1 wr∧Hid (R=stsN E p ctx deep (ks.drop j) L' (at_+cntL (ks.take j)))) (fun t _=>ks.length - (intOf t).toNat)
 case atStart =>
  refine ⟨0,L,u,Nat.zero_le _,rfl,Ext.refl _ _,h20,by simpa [cntL] using hI0,FrU.refl _ _ _,?_⟩
  show _=_
  rw [← HR.out,List.drop_zero]
  simp only [List.take_zero,cntL,Int.add_zero]
 case round =>
  clear hI0
  obtain ⟨j,L',u',hj,rfl,HE,H20,hI,hFr,HRR⟩:=hrel
  have z0:=(hFr.cell (o:=0) hsz (by omega) hub).trans b0
  have z1:=(hFr.cell (o:=1) hsz (by omega) hub).trans b1
  by_cases hlt:j<ks.length
  ·obtain ⟨g,o,rfl,hg,hat⟩:=hk (by intro e;rw [e] at hlt;simp at hlt)
   obtain ⟨v1,⟨x0,x1,x2,x3,rfl,c0,c1',c2',c3⟩,hlk⟩:=hat.get j hlt
   obtain ⟨kk,xx,mm,_,he,aa,na,ca,rfl⟩:=hlk.shape
   injection he with he
   simp only [Array.mk.injEq,List.cons.injEq,and_true] at he
   obtain ⟨rfl,rfl,rfl,rfl⟩:=he
   have k0:=(hI.bs.cell (p:=⟨g,o+j*4,none⟩) hg).trans c0
   have k1:=(hI.bs.cell (p:=⟨g,o+j*4+1,none⟩) hg).trans c1'
   have k2:=(hI.bs.cell (p:=⟨g,o+j*4+2,none⟩) hg).trans c2'
   have k3:=(hI.bs.cell (p:=⟨g,o+j*4+3,none⟩) hg).trans c3
   have hs1:=cntL_take ks j hlt
   have hs2:=cntL_take_le ks (j+1)
   have hs3:=cntT_pos ks[j]
   have hs4:=cntL_pos (ks.take j)
   have hI1:=hI.alloc (.cells #[.int .i64 kk,.string xx,.int .i64 mm,.slice aa na ca] 25)
   have hFr1:=hFr.alloc (.cells #[.int .i64 kk,.string xx,.int .i64 mm,.slice aa na ca] 25)
   have z0':=(hFr1.cell (o:=0) hsz (by omega) hub).trans b0
   have z1':=(hFr1.cell (o:=1) hsz (by omega) hub).trans b1
   have hC:=ih j hlt ctx deep first L' u' _ _ _ hlk (hInv.ext HE.out) (HE.out.lab hLab) H20.out hctx hdeep hI1 (by omega) (by omega)
   have HP:Hid (R=match stF E p ctx deep false ks[j] L' (at_+cntL (ks.take j)) with
     | .bad c b=>.bad c b
     | .ok q=>stsN E p ctx deep (ks.drop (j+1)) q.1 q.2):=HRR.out.trans (stsN_step E p ctx deep ks j hlt L' _)
   have HA:Hid (∀ q,stF E p ctx deep false ks[j] L' (at_+cntL (ks.take j))=.ok q→Ext deep L' q.1∧q.2=at_+cntL (ks.take (j+1))∧q.1.length≤20):=fun q hq=>by
    obtain ⟨h1,h2,h3⟩:=stF_ok E p _ _ _ _ _ _ _ (hst _ (List.getElem_mem hlt)) hq
    exact ⟨h1,by omega,h3 H20.out⟩
   clear c0 c1' c2' c3 hat hlk hk HRR hs1 hs2 hs3 hs4 ih
   generalize hXX:stF E p ctx deep false ks[j] L' (at_+cntL (ks.take j))=X at *
   have HA2:Hid (∀ q,X=.ok q→Ext deep L' q.1∧q.2=at_+cntL (ks.take (j+1))∧q.1.length≤20):=fun q hq=>HA.out q hq
   clear hXX HA
   cases X with
   | bad cc bb =>
    have HRB:Hid (R=.bad cc bb):=HP.out
    go_wp2_with (go_at_call 157;refine hC.mono ?_;rintro e w2 ⟨rfl,hb2⟩)
    exact ⟨rfl,SR.mkBad HRB.out hb2⟩
   | ok q =>
    have HRO:Hid (R=stsN E p ctx deep (ks.drop (j+1)) q.1 q.2):=HP.out
    obtain ⟨g1,g2,g3⟩:=HA2.out q rfl
    obtain ⟨L2,a2⟩:=q
    dsimp only at g1 g2 g3 hC
    subst g2
    have HE2:Hid (Ext deep L L2):=HE.out.trans g1
    have H202:Hid (L2.length≤20):=g3
    clear g1 g3
    go_wp2_with (go_at_call 157;refine hC.mono ?_;rintro e w2 ⟨rfl,u2,hI2,hf2⟩)
    exact ⟨⟨j+1,L2,u2,by omega,by simp,HE2,H202,hI2,hFr1.trans hf2,HRO.out⟩,by simp [intOf];omega⟩
  ·obtain rfl:j=ks.length:=by omega
   have HX:Hid (R=.ok (L',at_+cntL ks)):=by
    show _=_
    rw [HRR.out,List.drop_eq_nil_of_le (by omega),List.take_of_length_le (by omega)]
    rfl
   rw [List.take_of_length_le (by omega)] at hI
   clear ih hk HRR
   go_wp2
   go_end0
   exact SR.mkOk HX.out hI (hf0.trans hFr)
end
theorem vsOf_len (L:List Loc):(vsOf L).length=L.length:=by unfold vsOf;rw [List.length_map]
theorem vsOf_take (L:List Loc) (n:Nat):(vsOf L).take n=vsOf (L.take n):=by unfold vsOf;rw [List.map_take]
theorem own_cap {w:World} {B:Nat} {T:TypeId} {k n c:Nat} {a:Option Addr} {xs:List Value} (h:w.ownsRow B T k (.slice a n c) n xs):n≤c:=by
 rcases h.2 with ⟨e,hn⟩|⟨g,cap,cur,e,h3,h4,h5,h6,_⟩
 ·omega
 ·injection e with _ _ e2;omega
section
variable {E:Env} {p:Pr} {w0:World} {D Kb kn:Nat} {kf:KF}
set_option maxHeartbeats 2000000 in
theorem oBlock (k:Int) (x:ByteArray) (m:Int) (ks:List Tree) (hb:BlT (.node k x m ks)) (hS:StatsC E p w0 D Kb kn kf ks):BlockC E p w0 D Kb kn kf (.node k x m ks):=by
 intro ctx deep first L u v w at_ hv hInv hLab h20 hctx hdeep h h0 hm
 have c24:=kc25
 have hst:∀ t∈ks,StT t:=by cases hb with | mk h=>exact h
 rw [cntN] at hm
 have hcp:=cntL_pos ks
 unfold Lies at hv
 obtain ⟨a,c,rfl,hl,hk⟩:=hv
 obtain ⟨ua,uc,rfl,hucl,hug⟩:=lexs.own_shape h.rl
 rw [vsOf_len] at h ⊢
 have hub:(Value.slice ua L.length uc).ownBlock≠some w.heap.size:=fun e=>by have:=(h.rl.lt _ e).2;omega
 have hd:=h.lt
 have HR:Hid (blF E p ctx (deep+1) (.node k x m ks) L at_=match stsN E p ctx (deep+1) ks L (at_+1) with
   | .bad c b=>.bad c b
   | .ok q=>.ok (q.1.take L.length,q.2)):=by
  show _=_
  unfold blF
  rw [stsN_in E p ctx (deep+1) (by omega)]
  cases stsN E p ctx (deep+1) ks L (at_+1)<;>rfl
 obtain ⟨R,hR⟩:∃ R,blF E p ctx (deep+1) (.node k x m ks) L at_=R:=⟨_,rfl⟩
 rw [hR] at HR ⊢
 clear hR
 have hI0:=h.alloc (.cells #[.int .i64 k,.string x,.int .i64 m,.slice a ks.length c] 25)
 have hf0:=(FrU.refl D (.slice ua L.length uc) w).alloc (.cells #[.int .i64 k,.string x,.int .i64 m,.slice a ks.length c] 25)
 have hBg:=hI0.begin h0 (by omega)
 have HA:Hid (∀ q,stsN E p ctx (deep+1) ks L (at_+1)=.ok q→Ext (deep+1) L q.1):=fun q hq=>(stsN_ok E p ks _ _ _ _ _ hst hq).1
 have hC:=fun W hI1=>hS ctx (deep+1) L.length L (.slice ua L.length uc) a c W (at_+1) hk hInv.enter hLab h20 hctx (by omega) hI1 (by omega) (by omega)
 generalize stsN E p ctx (deep+1) ks L (at_+1)=X at *
 clear hk hS hst hb
 cases X with
 | bad cc bb =>
  have HB:Hid (R=.bad cc bb):=HR.out
  go_enter Tryz.func187,Tryz.ntmps187
  go_wp2_with first
   | (go_at_call 81;refine hBg.mono ?_;rintro e w1 ⟨rfl,hw1⟩;have hI1:CS w0 w1 D Kb kn kf (vsOf L) (.slice ua L.length uc) (at_+1):=by { rw [hw1];exact hI0.setAt _ };have hQ1:Q4 w.heap.size (.int .i64 k) (.string x) (.int .i64 m) (.slice a ks.length c) w1:=by { rw [hw1];exact Q4.other (by omega) ⟨by simp,by simp,by simp,by simp⟩ _ _ };clear hw1;obtain ⟨q0,q1,q2,q3⟩:=id hQ1;have m6:=hI1.c6)
   | (go_at_call 133;refine (hC _ hI1).mono ?_;rintro e w2 ⟨rfl,hb2⟩)
  exact ⟨rfl,SR.mkBad HB.out hb2⟩
 | ok q =>
  obtain ⟨L2,a2⟩:=q
  have hE:=HA.out _ rfl
  have HB:Hid (R=.ok (L,a2)):=HR.out.trans (by show Res.ok (L2.take L.length,a2)=_;rw [hE.take])
  have hle:=hE.len
  have htk:=hE.take
  go_enter Tryz.func187,Tryz.ntmps187
  go_wp2_with first
   | (go_at_call 81;refine hBg.mono ?_;rintro e w1 ⟨rfl,hw1⟩;have hI1:CS w0 w1 D Kb kn kf (vsOf L) (.slice ua L.length uc) (at_+1):=by { rw [hw1];exact hI0.setAt _ };have hQ1:Q4 w.heap.size (.int .i64 k) (.string x) (.int .i64 m) (.slice a ks.length c) w1:=by { rw [hw1];exact Q4.other (by omega) ⟨by simp,by simp,by simp,by simp⟩ _ _ };have hf1:FrU D (.slice ua L.length uc) (.slice ua L.length uc) w w1:=by { rw [hw1];exact hf0.set _ _ (fun _ e=>e) };clear hw1;obtain ⟨q0,q1,q2,q3⟩:=id hQ1;have m6:=hI1.c6)
   | (go_at_call 133;refine (hC _ hI1).mono ?_;rintro e w2 ⟨rfl,u2,hI2,hf2⟩;obtain ⟨ua2,uc2,rfl,hucl2,hug2⟩:=lexs.own_shape hI2.rl;have hI2':=hI2;rw [vsOf_len] at hI2 hf2 hucl2;have m62:=hI2.c6;have mf2:=hI2.fz 6;have hcap2:L2.length≤uc2:=own_cap (by have:=hI2.rl;rw [vsOf_len] at this;exact this))
  go_end0
  have hcut:=hI2'.cut (n:=L.length) (by rw [vsOf_len];exact hle)
  rw [vsOf_take,htk] at hcut
  exact SR.mkOk HB.out hcut (FrU.set (u1:=.slice ua2 L2.length uc2) (hf1.trans hf2) 6 _ (fun b e=>by cases ua2<;>exact e))
end
end chk
end Go.Proofs.YtfopddgjdaoidaaGreatDoor
