/- What the program's addLocal comes to. -/
import Derived.Test.YtfopddgjdaoidaaGreatDoorNM29
set_option linter.unusedVariables false
set_option linter.unusedSimpArgs false
set_option maxRecDepth 100000
namespace Go.Proofs.YtfopddgjdaoidaaGreatDoor.chk
open Go.RowKit Go.Shelf
open syn face
section
variable {w0 w w':World} {D Kb kn:Nat} {kf:KF} {vs:List VarD} {u:Value} {a:Int}
theorem CS.push (h:CS w0 w D Kb kn kf vs u a) {v:VarD} {g cap:Nat} (ho:w'.ownsRow (D+1) 76 4 (.slice (some ⟨g,0,none⟩) (vs.length+1) cap) (vs.length+1) (varCells vs++[.string v.name,.bool v.pub,.int .i64 v.label,.int .i64 v.size])) (hg:w.grownBy w' u.ownBlock) (hat:u.ownBlock=some g∨g=w.heap.size) :
    CS w0 (w'.setCell ⟨D,6,none⟩ (.slice (some ⟨g,0,none⟩) (vs.length+1) cap)) D Kb kn kf (vs++[v]) (.slice (some ⟨g,0,none⟩) (vs.length+1) cap) a:=by
  have hne:∀ b,u.ownBlock=some b→D+1≤b:=fun b e=>(h.rl.lt _ e).1
  have hgD:D+1≤g:=by
    rcases hat with e | e
    · exact hne g e
    · have:=h.lt;omega
  have hbl:=hg.block D h.lt (fun e=>by have:=hne D e.symm;omega)
  have hKl:=h.mp.lt
  refine ⟨(h.bs.grown hg h.bs.size (fun k e=>by have:=hne k e;have:=h.hD;omega)).setCell h.hD _,h.hD,?_,?_,?_,?_,fun k=>?_,(h.mp.kept hg (fun e=>h.nu e.symm)).setCell h.nk _,h.fi,fun p x hc=>⟨(h.fw p x hc).1,(h.fw p x hc).2.1,(World.cell?_of_block (a:=p) ((Below.heap_setCell w' ⟨D,6,none⟩ _ p.block (h.fw p x hc).1).trans (hg.block p.block (Nat.lt_of_lt_of_le (h.fw p x hc).2.1 h.fm) (fun e=>Nat.not_lt.2 (h.fu _ e.symm) (h.fw p x hc).2.1)))).trans (h.fw p x hc).2.2⟩,by rw [World.size_setCell];exact Nat.le_trans h.fm hg.size,h.mM,fun b e=>?_,?_,h.nk,h.mx,?_⟩
  · rw [jD _ _ _ _ (by simp)];exact (World.cell?_of_block (a:=⟨D,4,none⟩) hbl).trans h.c4
  · rw [jD _ _ _ _ (by simp)];exact (World.cell?_of_block (a:=⟨D,5,none⟩) hbl).trans h.c5
  · exact World.cell?_setCell_same' _ _ _ (by rw [(World.cell?_of_block (a:=⟨D,6,none⟩) hbl).trans h.c6];rfl)
  · rw [jD _ _ _ _ (by simp)];exact (World.cell?_of_block (a:=⟨D,7,none⟩) hbl).trans h.c7
  · rw [World.frozen?_setCell];exact (World.frozen?_of_block (a:=⟨D,k,none⟩) hbl).trans (h.fz k)
  · have h2:some g=some b:=e
    cases h2
    rcases hat with e | e
    · exact h.fu g e
    · rw [e];exact h.fm
  · rw [List.length_append,varCells_snoc]
    refine ownsRow_setCell_other ho (fun e=>?_) _
    have h2:some g=some D:=e
    cases h2
    omega
  · intro e
    have h2:some g=some Kb:=e
    cases h2
    rcases hat with e | e
    · exact h.nu e
    · omega
def AL (w0:World) (D Kb kn:Nat) (kf:KF) (vs:List VarD) (u:Value) (a:Int) (v:VarD) (first:Nat) (at_:Int) (w:World) (e:Ending) (w':World):Prop :=
  ((vs.drop first).any (fun o=>eqS o.name v.name)=true∧e=.panicked (Thrown 5 at_)∧Below w0.heap.size w0 w') ∨
  ((vs.drop first).any (fun o=>eqS o.name v.name)=false∧20≤vs.length∧e=.panicked (Thrown 1 at_)∧Below w0.heap.size w0 w') ∨
  ((vs.drop first).any (fun o=>eqS o.name v.name)=false∧vs.length<20∧e=.returned (.tuple #[])∧(∃ u',CS w0 w' D Kb kn kf (vs++[v]) u' a∧∀ b,u'.ownBlock=some b→u.ownBlock=some b∨w.heap.size≤b)∧w.heap.size≤w'.heap.size∧∀ b,b<w.heap.size→b≠D→u.ownBlock≠some b→w'.heap[b]?=w.heap[b]?)
theorem any_at {α:Type} {p:α→Bool} {l:List α} {j:Nat} (h:j<l.length) (hp:p l[j]=true):l.any p=true:=List.any_eq_true.2 ⟨_,List.getElem_mem h,hp⟩
theorem any_none {α:Type} {p:α→Bool} {l:List α} (h:∀ i (hi:i<l.length),p l[i]=false):l.any p=false:=by
  rw [List.any_eq_false]
  intro x hx
  obtain ⟨i,hi,rfl⟩:=List.getElem_of_mem hx
  rw [h i hi]
  decide
end
section
variable {w0 w w':World} {D Kb kn:Nat} {kf:KF} {vs:List VarD} {u:Value} {a:Int}
set_option maxHeartbeats 2000000 in
theorem oAddLocal (v:VarD) (first:Nat) (at_:Int) (h:CS w0 w D Kb kn kf vs u a) (hf:first≤vs.length) (hl:vs.length≤20) :
    Calls Tryz.prog 184 #[.pointer (some ⟨D,0,none⟩),varV v,.int .i64 (first:Int),.int .i64 at_] w (AL w0 D Kb kn kf vs u a v first at_ w):=by
  have c4:Tryz.prog.cellsOf 76=4:=cell4
  obtain ⟨i0,hi,hz0,hz1,hz2⟩:=info_parts infoV
  obtain ⟨ua,uc,rfl,hucl,hug⟩:=lexs.own_shape h.rl
  have hrow:=h.rl
  have hd:=h.lt
  have hI0:=h.alloc (.cells #[.string v.name,.bool v.pub,.int .i64 v.label,.int .i64 v.size] 76)
  have m6:=hI0.c6
  have hub:∀ b,(Value.slice ua vs.length uc).ownBlock=some b→b<w.heap.size:=fun b e=>(h.rl.lt _ e).2
  have hcap:vs.length≤uc:=by
    rcases hrow.2 with ⟨e,hn⟩ | ⟨g,cap,cur,e,h3,h4,h5,h6,_⟩
    · omega
    · injection e with _ _ e2;omega
  unfold varV
  have hQ0:Q4 w.heap.size (.string v.name) (.bool v.pub) (.int .i64 v.label) (.int .i64 v.size) (w.alloc (.cells #[.string v.name,.bool v.pub,.int .i64 v.label,.int .i64 v.size] 76)):=⟨by simp,by simp,by simp,by simp⟩
  have hB0:Below w.heap.size w (w.alloc (.cells #[.string v.name,.bool v.pub,.int .i64 v.label,.int .i64 v.size] 76)):=(Below.refl _ _).alloc (jE _) _
  by_cases hu:uc=first
  · obtain rfl:first=vs.length:=by omega
    obtain rfl:=hu
    have hany:(vs.drop vs.length).any (fun o=>eqS o.name v.name)=false:=by rw [List.drop_eq_nil_of_le (by omega)];rfl
    go_enter Tryz.func184,Tryz.ntmps184
    go_wp2
    clear m6
    generalize w.alloc (.cells #[.string v.name,.bool v.pub,.int .i64 v.label,.int .i64 v.size] 76)=W1 at *
    go_loopw [17] (fun t wr=>t=.int .i64 0∧wr=W1) (fun _ _=>0)
    case atStart=>exact ⟨rfl,rfl⟩
    case round =>
      obtain ⟨rfl,rfl⟩:=hrel
      have hI:=hI0
      have hQ:=hQ0
      have hBr:=hB0
      have HN:Hid ((vs.drop vs.length).any (fun o=>eqS o.name v.name)=false):=hany
      clear hany
      have m6:=hI.c6
      obtain ⟨q0,q1,q2,q3⟩:=id hQ
      by_cases h20:20≤vs.length
      · have HBs:Hid (Below w0.heap.size w0 wr):=hI.bs
        go_wp2_with (go_at_call 131;refine (oRefuseC 1 at_ wr).mono ?_;rintro e w2 ⟨rfl,hw2⟩;rw [hw2])
        exact ⟨rfl,.inr (.inl ⟨HN.out,h20,rfl,HBs.out⟩)⟩
      · have hI2:=hI.drew
        have hS2:Q4 w.heap.size (.string v.name) (.bool v.pub) (.int .i64 v.label) (.int .i64 v.size) wr.drew:=hQ
        have hB2:Below w.heap.size w wr.drew:=hBr.drew
        go_wp2
        refine wp_region_held_drew (S:=fun W=>Q4 w.heap.size (.string v.name) (.bool v.pub) (.int .i64 v.label) (.int .i64 v.size) W) (by kernel_rfl) hS2 (fun hHeld=>?_)
        clear hHeld m6 hQ hI hBr q0 q1 q2 q3
        generalize wr.drew=W2 at *
        refine tkH (i:=0) (v:=.pointer (some ⟨D,0,none⟩)) rfl (Or.inl ⟨by rfl,fun w hSw=>by obtain ⟨z0,z1,z2,z3⟩:=hSw;go_simp⟩) hS2 ?_
        simp only [Act.put,jA,jB,jC]
        refine tkH (i:=1) (v:=.pointer (some ⟨D,0,none⟩)) rfl (Or.inl ⟨by rfl,fun w hSw=>by obtain ⟨z0,z1,z2,z3⟩:=hSw;go_simp⟩) hS2 ?_
        simp only [Act.put,jA,jB,jC]
        refine tkH (i:=2) (v:=.pointer (some ⟨D,0,none⟩)) rfl (Or.inl ⟨by rfl,fun w hSw=>by obtain ⟨z0,z1,z2,z3⟩:=hSw;go_simp⟩) hS2 ?_
        simp only [Act.put,jA,jB,jC]
        refine tkH (i:=3) (v:=.pointer (some ⟨D,6,none⟩)) rfl (Or.inl ⟨by rfl,fun w hSw=>by obtain ⟨z0,z1,z2,z3⟩:=hSw;go_simp⟩) hS2 ?_
        simp only [Act.put,jA,jB,jC]
        refine tkH (i:=5) (v:=.agg #[.string v.name,.bool v.pub,.int .i64 v.label,.int .i64 v.size] ) rfl (Or.inl ⟨by rfl,fun w hSw=>by obtain ⟨z0,z1,z2,z3⟩:=hSw;go_simp⟩) hS2 ?_
        simp only [Act.put,jA,jB,jC]
        refine wpAnyH_ready (rs:=[4,6]) (by kernel_rfl) (by simp) ?_
        refine AllReadyH.cons rfl (fun K hK=>?_) ?_
        · skip
          have m6:=hI2.c6
          go_simp
          refine hK.out _ _ hS2 (fun hHeld=>?_)
          clear hK K hHeld m6
          refine wpAnyH_ready (rs:=[6]) (by kernel_rfl) (by simp) ?_
          refine AllReadyH.cons rfl (fun K hK=>?_) AllReadyH.nil
          go_simp
          have hsl:∀ j u,[Value.string v.name,.bool v.pub,.int .i64 v.label,.int .i64 v.size][j]?=some u→(W2.alloc (.cells #[.string v.name,.bool v.pub,.int .i64 v.label,.int .i64 v.size] 76)).cell? ((⟨W2.heap.size,0,none⟩:Addr).add j)=some u:=news_new _ #[.string v.name,.bool v.pub,.int .i64 v.label,.int .i64 v.size] _ _ rfl
          have hss:W2.heap.size+1=(W2.alloc (.cells #[.string v.name,.bool v.pub,.int .i64 v.label,.int .i64 v.size] 76)).heap.size:=by simp
          have hw2s:w.heap.size≤W2.heap.size:=hB2.size
          replace hB2:=hB2.alloc hB2.size (.cells #[.string v.name,.bool v.pub,.int .i64 v.label,.int .i64 v.size] 76)
          replace hI2:=hI2.alloc (.cells #[.string v.name,.bool v.pub,.int .i64 v.label,.int .i64 v.size] 76)
          replace hS2:=Q4.alloc hS2 (.cells #[.string v.name,.bool v.pub,.int .i64 v.label,.int .i64 v.size] 76)
          refine hK.out _ _ hS2 (fun hHeld=>?_)
          clear hK K hHeld
          generalize W2.alloc (.cells #[.string v.name,.bool v.pub,.int .i64 v.label,.int .i64 v.size] 76)=W3 at *
          generalize W2.heap.size=s0 at *
          refine wpAnyH_ready (rs:=[7]) (by kernel_rfl) (by simp) ?_
          refine AllReadyH.cons rfl (fun K hK=>?_) AllReadyH.nil
          refine step_append_lies _ (by rfl) (.tmp 41) (.tmp 43) 41 (by rfl) (D+1) 76 i0 (.agg #[.string ⟨#[]⟩,.bool false,.int .i64 0,.int .i64 0]) 4 40 Tryz.underlying41 hi hz0 hz1 hz2 rfl (by decide) (.slice ua vs.length vs.length) vs.length (varCells vs) (by simp [Act.eval,Act.put]) hI2.rl ⟨s0,0,none⟩ 1 1 [.string v.name,.bool v.pub,.int .i64 v.label,.int .i64 v.size] (by simp [Act.eval,Act.put]) rfl hsl (by intro u hu;simp at hu;rcases hu with rfl | rfl | rfl | rfl <;> rfl) (by omega) (by unfold maxLen;omega) (by omega) (by have:=hI2.lt;omega) (s0+1) hss.symm ?_
          intro g5 cap5 w5 hown5 hgrow5 hat5 hlt5
          have hrN:(Value.slice ua vs.length vs.length).ownBlock≠some w.heap.size:=fun e=>by have:=hub _ e;omega
          have hrD:(Value.slice ua vs.length vs.length).ownBlock≠some D:=fun e=>by have:=(hI2.rl.lt _ e).1;omega
          have hfin:=hI2.push (v:=v) hown5 hgrow5 (hat5.imp id (fun e=>e.trans hss))
          have hbl5:=hgrow5.block D hI2.lt (fun e=>hrD e.symm)
          have m6:=(World.cell?_of_block (a:=⟨D,6,none⟩) hbl5).trans hI2.c6
          have mf:=(World.frozen?_of_block (a:=⟨D,6,none⟩) hbl5).trans (hI2.fz 6)
          have hs5:=hgrow5.size
          have hs3:=hB2.size
          have hkp:∀ b,b<w.heap.size→b≠D→(Value.slice ua vs.length vs.length).ownBlock≠some b→w5.heap[b]?=w.heap[b]?:=fun b h1 h2 h3=>(hgrow5.block b (by omega) (fun e=>h3 e.symm)).trans (hB2.block b h1)
          replace hS2:=Q4.grown hS2 hgrow5 hrN
          clear hI2 hbl5 hB2
          refine hK.out _ _ hS2 (fun hHeld=>?_)
          clear hK K hHeld
          simp only [Act.put,jA,jB,jC]
          refine tkH (i:=8) (v:=.pointer (some ⟨D,0,none⟩)) rfl (Or.inl ⟨by rfl,fun w hSw=>by obtain ⟨z0,z1,z2,z3⟩:=hSw;go_simp⟩) hS2 ?_
          simp only [Act.put,jA,jB,jC]
          refine tkH (i:=9) (v:=.pointer (some ⟨D,6,none⟩)) rfl (Or.inl ⟨by rfl,fun w hSw=>by obtain ⟨z0,z1,z2,z3⟩:=hSw;go_simp⟩) hS2 ?_
          simp only [Act.put,jA,jB,jC]
          refine wpAnyH_ready (rs:=[10]) (by kernel_rfl) (by simp) ?_
          refine AllReadyH.cons rfl (fun K hK=>?_) AllReadyH.nil
          go_simp
          refine hK.out _ _ (Q4.other (by omega) hS2 _ _) (fun hHeld=>?_)
          clear hK K hHeld m6 mf
          refine wpAnyH_done (by kernel_rfl) ?_ _
          go_wp2
          go_end0
          exact .inr (.inr ⟨HN.out,by omega,rfl,⟨_,hfin,fun b e=>by have e2:some g5=some b:=e;cases e2;exact hat5.imp id (fun e=>by omega)⟩,by rw [World.size_setCell];omega,fun b h1 h2 h3=>(Below.heap_setCell _ _ _ b (by show b≠D;exact h2)).trans (hkp b h1 h2 h3)⟩)
        refine AllReadyH.cons rfl (fun K hK=>?_) AllReadyH.nil
        go_simp
        have hsl:∀ j u,[Value.string v.name,.bool v.pub,.int .i64 v.label,.int .i64 v.size][j]?=some u→(W2.alloc (.cells #[.string v.name,.bool v.pub,.int .i64 v.label,.int .i64 v.size] 76)).cell? ((⟨W2.heap.size,0,none⟩:Addr).add j)=some u:=news_new _ #[.string v.name,.bool v.pub,.int .i64 v.label,.int .i64 v.size] _ _ rfl
        have hss:W2.heap.size+1=(W2.alloc (.cells #[.string v.name,.bool v.pub,.int .i64 v.label,.int .i64 v.size] 76)).heap.size:=by simp
        have hw2s:w.heap.size≤W2.heap.size:=hB2.size
        replace hB2:=hB2.alloc hB2.size (.cells #[.string v.name,.bool v.pub,.int .i64 v.label,.int .i64 v.size] 76)
        replace hI2:=hI2.alloc (.cells #[.string v.name,.bool v.pub,.int .i64 v.label,.int .i64 v.size] 76)
        replace hS2:=Q4.alloc hS2 (.cells #[.string v.name,.bool v.pub,.int .i64 v.label,.int .i64 v.size] 76)
        refine hK.out _ _ hS2 (fun hHeld=>?_)
        clear hK K hHeld
        generalize W2.alloc (.cells #[.string v.name,.bool v.pub,.int .i64 v.label,.int .i64 v.size] 76)=W3 at *
        generalize W2.heap.size=s0 at *
        refine wpAnyH_ready (rs:=[4]) (by kernel_rfl) (by simp) ?_
        refine AllReadyH.cons rfl (fun K hK=>?_) AllReadyH.nil
        have m6:=hI2.c6
        go_simp
        refine hK.out _ _ hS2 (fun hHeld=>?_)
        clear hK K hHeld m6
        refine wpAnyH_ready (rs:=[7]) (by kernel_rfl) (by simp) ?_
        refine AllReadyH.cons rfl (fun K hK=>?_) AllReadyH.nil
        refine step_append_lies _ (by rfl) (.tmp 41) (.tmp 43) 41 (by rfl) (D+1) 76 i0 (.agg #[.string ⟨#[]⟩,.bool false,.int .i64 0,.int .i64 0]) 4 40 Tryz.underlying41 hi hz0 hz1 hz2 rfl (by decide) (.slice ua vs.length vs.length) vs.length (varCells vs) (by simp [Act.eval,Act.put]) hI2.rl ⟨s0,0,none⟩ 1 1 [.string v.name,.bool v.pub,.int .i64 v.label,.int .i64 v.size] (by simp [Act.eval,Act.put]) rfl hsl (by intro u hu;simp at hu;rcases hu with rfl | rfl | rfl | rfl <;> rfl) (by omega) (by unfold maxLen;omega) (by omega) (by have:=hI2.lt;omega) (s0+1) hss.symm ?_
        intro g5 cap5 w5 hown5 hgrow5 hat5 hlt5
        have hrN:(Value.slice ua vs.length vs.length).ownBlock≠some w.heap.size:=fun e=>by have:=hub _ e;omega
        have hrD:(Value.slice ua vs.length vs.length).ownBlock≠some D:=fun e=>by have:=(hI2.rl.lt _ e).1;omega
        have hfin:=hI2.push (v:=v) hown5 hgrow5 (hat5.imp id (fun e=>e.trans hss))
        have hbl5:=hgrow5.block D hI2.lt (fun e=>hrD e.symm)
        have m6:=(World.cell?_of_block (a:=⟨D,6,none⟩) hbl5).trans hI2.c6
        have mf:=(World.frozen?_of_block (a:=⟨D,6,none⟩) hbl5).trans (hI2.fz 6)
        have hs5:=hgrow5.size
        have hs3:=hB2.size
        have hkp:∀ b,b<w.heap.size→b≠D→(Value.slice ua vs.length vs.length).ownBlock≠some b→w5.heap[b]?=w.heap[b]?:=fun b h1 h2 h3=>(hgrow5.block b (by omega) (fun e=>h3 e.symm)).trans (hB2.block b h1)
        replace hS2:=Q4.grown hS2 hgrow5 hrN
        clear hI2 hbl5 hB2
        refine hK.out _ _ hS2 (fun hHeld=>?_)
        clear hK K hHeld
        simp only [Act.put,jA,jB,jC]
        refine tkH (i:=8) (v:=.pointer (some ⟨D,0,none⟩)) rfl (Or.inl ⟨by rfl,fun w hSw=>by obtain ⟨z0,z1,z2,z3⟩:=hSw;go_simp⟩) hS2 ?_
        simp only [Act.put,jA,jB,jC]
        refine tkH (i:=9) (v:=.pointer (some ⟨D,6,none⟩)) rfl (Or.inl ⟨by rfl,fun w hSw=>by obtain ⟨z0,z1,z2,z3⟩:=hSw;go_simp⟩) hS2 ?_
        simp only [Act.put,jA,jB,jC]
        refine wpAnyH_ready (rs:=[10]) (by kernel_rfl) (by simp) ?_
        refine AllReadyH.cons rfl (fun K hK=>?_) AllReadyH.nil
        go_simp
        refine hK.out _ _ (Q4.other (by omega) hS2 _ _) (fun hHeld=>?_)
        clear hK K hHeld m6 mf
        refine wpAnyH_done (by kernel_rfl) ?_ _
        go_wp2
        go_end0
        exact .inr (.inr ⟨HN.out,by omega,rfl,⟨_,hfin,fun b e=>by have e2:some g5=some b:=e;cases e2;exact hat5.imp id (fun e=>by omega)⟩,by rw [World.size_setCell];omega,fun b h1 h2 h3=>(Below.heap_setCell _ _ _ b (by show b≠D;exact h2)).trans (hkp b h1 h2 h3)⟩)
  · obtain ⟨g,rfl⟩:∃ g,ua=some ⟨g,0,none⟩:=by
      rcases hrow.2 with ⟨e,hn⟩ | ⟨g,cap,cur,e,_⟩
      · injection e with _ _ e2;omega
      · injection e with e1 _ _;exact ⟨g,e1⟩
    go_enter Tryz.func184,Tryz.ntmps184
    go_wp2
    clear m6
    generalize w.alloc (.cells #[.string v.name,.bool v.pub,.int .i64 v.label,.int .i64 v.size] 76)=W1 at *
    go_loopw [17] (fun t wr=>∃ j:Nat,j≤vs.length - first∧t=.int .i64 j∧Hid (∀ i (hi:i<(vs.drop first).length),i<j→eqS (vs.drop first)[i].name v.name=false)∧Below W1.heap.size W1 wr) (fun t _=>vs.length - first - (intOf t).toNat)
    case atStart=>exact ⟨0,Nat.zero_le _,rfl,fun i hi h=>absurd h (by omega),Below.refl _ _⟩
    case round =>
      obtain ⟨j,hj,rfl,HNN,hbr⟩:=hrel
      have hI:=hI0.below hbr
      have hQ:=Q4.below hQ0 hbr
      have hBr:=hB0.trans (hbr.mono hB0.size)
      by_cases hlt:j<vs.length - first
      · obtain ⟨q0,q1,q2,q3⟩:=id hQ
        have hjv:first+j<vs.length:=by omega
        obtain ⟨e0,e1,e2,e3⟩:=varCells_at vs (first+j) hjv
        have k0:=(hI.rl.cellAt ((first+j) * 4) (by omega)).trans e0
        have k1:=(hI.rl.cellAt ((first+j) * 4+1) (by omega)).trans e1
        have k2:=(hI.rl.cellAt ((first+j) * 4+2) (by omega)).trans e2
        have k3:=(hI.rl.cellAt ((first+j) * 4+3) (by omega)).trans e3
        rw [show (first+j) * 4=first * 4+j * 4 by omega] at k0 k1 k2 k3
        clear e0 e1 e2 e3
        have hdl:j<(vs.drop first).length:=by simp;omega
        have hde:(vs.drop first)[j]=vs[first+j]:=by simp
        have HF:Hid (∀ b,eqS vs[first+j].name v.name=b→b=true→(vs.drop first).any (fun o=>eqS o.name v.name)=true):=fun b h1 h2=>any_at hdl (by rw [hde];exact h1.trans h2)
        have HS:Hid (∀ b,eqS vs[first+j].name v.name=b→b=false→∀ i (hi:i<(vs.drop first).length),i<j+1→eqS (vs.drop first)[i].name v.name=false):=fun b h1 h2 i hi h=>by
          rcases Nat.lt_or_ge i j with h' | h'
          · exact HNN.out i hi h'
          · obtain rfl:i=j:=by omega
            rw [hde]
            exact h1.trans h2
        clear hde
        generalize vs[first+j]=y at *
        obtain ⟨n0,n1,n2,n3⟩:=Q4.alloc hQ (.cells #[.string y.name,.bool y.pub,.int .i64 y.label,.int .i64 y.size] 76)
        have HBs:Hid (∀ o:Obj,Below w0.heap.size w0 (wr.alloc o)):=fun o=>(hI.alloc o).bs
        have hbr2:Hid (Below W1.heap.size W1 wr):=hbr
        cases heq:eqS y.name v.name
        · have hc:(y.name.toList==v.name.toList)=false:=heq
          have HS2:=HS.out _ heq rfl
          clear HS HF
          go_wp2
          exact ⟨⟨j+1,by omega,by simp,HS2,hbr2.out.alloc hbr2.out.size _⟩,by simp [intOf];omega⟩
        · have hc:(y.name.toList==v.name.toList)=true:=heq
          have HF2:Hid ((vs.drop first).any (fun o=>eqS o.name v.name)=true):=HF.out _ heq rfl
          clear HS HF
          go_wp2_with (go_at_call 131;refine (oRefuseC 5 at_ _).mono ?_;rintro e w2 ⟨rfl,hw2⟩;rw [hw2])
          exact ⟨rfl,.inl ⟨HF2.out,rfl,HBs.out _⟩⟩
      · have hany:(vs.drop first).any (fun o=>eqS o.name v.name)=false:=any_none (fun i hi=>HNN.out i hi (by simp at hi;omega))
        have hj2:j=vs.length - first:=by omega
        clear HNN hbr
        have HN:Hid ((vs.drop first).any (fun o=>eqS o.name v.name)=false):=hany
        clear hany
        have m6:=hI.c6
        obtain ⟨q0,q1,q2,q3⟩:=id hQ
        by_cases h20:20≤vs.length
        · have HBs:Hid (Below w0.heap.size w0 wr):=hI.bs
          go_wp2_with (go_at_call 131;refine (oRefuseC 1 at_ wr).mono ?_;rintro e w2 ⟨rfl,hw2⟩;rw [hw2])
          exact ⟨rfl,.inr (.inl ⟨HN.out,h20,rfl,HBs.out⟩)⟩
        · have hI2:=hI.drew
          have hS2:Q4 w.heap.size (.string v.name) (.bool v.pub) (.int .i64 v.label) (.int .i64 v.size) wr.drew:=hQ
          have hB2:Below w.heap.size w wr.drew:=hBr.drew
          go_wp2
          refine wp_region_held_drew (S:=fun W=>Q4 w.heap.size (.string v.name) (.bool v.pub) (.int .i64 v.label) (.int .i64 v.size) W) (by kernel_rfl) hS2 (fun hHeld=>?_)
          clear hHeld m6 hQ hI hBr q0 q1 q2 q3
          generalize wr.drew=W2 at *
          refine tkH (i:=0) (v:=.pointer (some ⟨D,0,none⟩)) rfl (Or.inl ⟨by rfl,fun w hSw=>by obtain ⟨z0,z1,z2,z3⟩:=hSw;go_simp⟩) hS2 ?_
          simp only [Act.put,jA,jB,jC]
          refine tkH (i:=1) (v:=.pointer (some ⟨D,0,none⟩)) rfl (Or.inl ⟨by rfl,fun w hSw=>by obtain ⟨z0,z1,z2,z3⟩:=hSw;go_simp⟩) hS2 ?_
          simp only [Act.put,jA,jB,jC]
          refine tkH (i:=2) (v:=.pointer (some ⟨D,0,none⟩)) rfl (Or.inl ⟨by rfl,fun w hSw=>by obtain ⟨z0,z1,z2,z3⟩:=hSw;go_simp⟩) hS2 ?_
          simp only [Act.put,jA,jB,jC]
          refine tkH (i:=3) (v:=.pointer (some ⟨D,6,none⟩)) rfl (Or.inl ⟨by rfl,fun w hSw=>by obtain ⟨z0,z1,z2,z3⟩:=hSw;go_simp⟩) hS2 ?_
          simp only [Act.put,jA,jB,jC]
          refine tkH (i:=5) (v:=.agg #[.string v.name,.bool v.pub,.int .i64 v.label,.int .i64 v.size] ) rfl (Or.inl ⟨by rfl,fun w hSw=>by obtain ⟨z0,z1,z2,z3⟩:=hSw;go_simp⟩) hS2 ?_
          simp only [Act.put,jA,jB,jC]
          refine wpAnyH_ready (rs:=[4,6]) (by kernel_rfl) (by simp) ?_
          refine AllReadyH.cons rfl (fun K hK=>?_) ?_
          · skip
            have m6:=hI2.c6
            go_simp
            refine hK.out _ _ hS2 (fun hHeld=>?_)
            clear hK K hHeld m6
            refine wpAnyH_ready (rs:=[6]) (by kernel_rfl) (by simp) ?_
            refine AllReadyH.cons rfl (fun K hK=>?_) AllReadyH.nil
            go_simp
            have hsl:∀ j u,[Value.string v.name,.bool v.pub,.int .i64 v.label,.int .i64 v.size][j]?=some u→(W2.alloc (.cells #[.string v.name,.bool v.pub,.int .i64 v.label,.int .i64 v.size] 76)).cell? ((⟨W2.heap.size,0,none⟩:Addr).add j)=some u:=news_new _ #[.string v.name,.bool v.pub,.int .i64 v.label,.int .i64 v.size] _ _ rfl
            have hss:W2.heap.size+1=(W2.alloc (.cells #[.string v.name,.bool v.pub,.int .i64 v.label,.int .i64 v.size] 76)).heap.size:=by simp
            have hw2s:w.heap.size≤W2.heap.size:=hB2.size
            replace hB2:=hB2.alloc hB2.size (.cells #[.string v.name,.bool v.pub,.int .i64 v.label,.int .i64 v.size] 76)
            replace hI2:=hI2.alloc (.cells #[.string v.name,.bool v.pub,.int .i64 v.label,.int .i64 v.size] 76)
            replace hS2:=Q4.alloc hS2 (.cells #[.string v.name,.bool v.pub,.int .i64 v.label,.int .i64 v.size] 76)
            refine hK.out _ _ hS2 (fun hHeld=>?_)
            clear hK K hHeld
            generalize W2.alloc (.cells #[.string v.name,.bool v.pub,.int .i64 v.label,.int .i64 v.size] 76)=W3 at *
            generalize W2.heap.size=s0 at *
            refine wpAnyH_ready (rs:=[7]) (by kernel_rfl) (by simp) ?_
            refine AllReadyH.cons rfl (fun K hK=>?_) AllReadyH.nil
            refine step_append_lies _ (by rfl) (.tmp 41) (.tmp 43) 41 (by rfl) (D+1) 76 i0 (.agg #[.string ⟨#[]⟩,.bool false,.int .i64 0,.int .i64 0]) 4 40 Tryz.underlying41 hi hz0 hz1 hz2 rfl (by decide) (.slice (some ⟨g,0,none⟩) vs.length uc) vs.length (varCells vs) (by simp [Act.eval,Act.put]) hI2.rl ⟨s0,0,none⟩ 1 1 [.string v.name,.bool v.pub,.int .i64 v.label,.int .i64 v.size] (by simp [Act.eval,Act.put]) rfl hsl (by intro u hu;simp at hu;rcases hu with rfl | rfl | rfl | rfl <;> rfl) (by omega) (by unfold maxLen;omega) (by omega) (by have:=hI2.lt;omega) (s0+1) hss.symm ?_
            intro g5 cap5 w5 hown5 hgrow5 hat5 hlt5
            have hrN:(Value.slice (some ⟨g,0,none⟩) vs.length uc).ownBlock≠some w.heap.size:=fun e=>by have:=hub _ e;omega
            have hrD:(Value.slice (some ⟨g,0,none⟩) vs.length uc).ownBlock≠some D:=fun e=>by have:=(hI2.rl.lt _ e).1;omega
            have hfin:=hI2.push (v:=v) hown5 hgrow5 (hat5.imp id (fun e=>e.trans hss))
            have hbl5:=hgrow5.block D hI2.lt (fun e=>hrD e.symm)
            have m6:=(World.cell?_of_block (a:=⟨D,6,none⟩) hbl5).trans hI2.c6
            have mf:=(World.frozen?_of_block (a:=⟨D,6,none⟩) hbl5).trans (hI2.fz 6)
            have hs5:=hgrow5.size
            have hs3:=hB2.size
            have hkp:∀ b,b<w.heap.size→b≠D→(Value.slice (some ⟨g,0,none⟩) vs.length uc).ownBlock≠some b→w5.heap[b]?=w.heap[b]?:=fun b h1 h2 h3=>(hgrow5.block b (by omega) (fun e=>h3 e.symm)).trans (hB2.block b h1)
            replace hS2:=Q4.grown hS2 hgrow5 hrN
            clear hI2 hbl5 hB2
            refine hK.out _ _ hS2 (fun hHeld=>?_)
            clear hK K hHeld
            simp only [Act.put,jA,jB,jC]
            refine tkH (i:=8) (v:=.pointer (some ⟨D,0,none⟩)) rfl (Or.inl ⟨by rfl,fun w hSw=>by obtain ⟨z0,z1,z2,z3⟩:=hSw;go_simp⟩) hS2 ?_
            simp only [Act.put,jA,jB,jC]
            refine tkH (i:=9) (v:=.pointer (some ⟨D,6,none⟩)) rfl (Or.inl ⟨by rfl,fun w hSw=>by obtain ⟨z0,z1,z2,z3⟩:=hSw;go_simp⟩) hS2 ?_
            simp only [Act.put,jA,jB,jC]
            refine wpAnyH_ready (rs:=[10]) (by kernel_rfl) (by simp) ?_
            refine AllReadyH.cons rfl (fun K hK=>?_) AllReadyH.nil
            go_simp
            refine hK.out _ _ (Q4.other (by omega) hS2 _ _) (fun hHeld=>?_)
            clear hK K hHeld m6 mf
            refine wpAnyH_done (by kernel_rfl) ?_ _
            go_wp2
            go_end0
            exact .inr (.inr ⟨HN.out,by omega,rfl,⟨_,hfin,fun b e=>by have e2:some g5=some b:=e;cases e2;exact hat5.imp id (fun e=>by omega)⟩,by rw [World.size_setCell];omega,fun b h1 h2 h3=>(Below.heap_setCell _ _ _ b (by show b≠D;exact h2)).trans (hkp b h1 h2 h3)⟩)
          refine AllReadyH.cons rfl (fun K hK=>?_) AllReadyH.nil
          go_simp
          have hsl:∀ j u,[Value.string v.name,.bool v.pub,.int .i64 v.label,.int .i64 v.size][j]?=some u→(W2.alloc (.cells #[.string v.name,.bool v.pub,.int .i64 v.label,.int .i64 v.size] 76)).cell? ((⟨W2.heap.size,0,none⟩:Addr).add j)=some u:=news_new _ #[.string v.name,.bool v.pub,.int .i64 v.label,.int .i64 v.size] _ _ rfl
          have hss:W2.heap.size+1=(W2.alloc (.cells #[.string v.name,.bool v.pub,.int .i64 v.label,.int .i64 v.size] 76)).heap.size:=by simp
          have hw2s:w.heap.size≤W2.heap.size:=hB2.size
          replace hB2:=hB2.alloc hB2.size (.cells #[.string v.name,.bool v.pub,.int .i64 v.label,.int .i64 v.size] 76)
          replace hI2:=hI2.alloc (.cells #[.string v.name,.bool v.pub,.int .i64 v.label,.int .i64 v.size] 76)
          replace hS2:=Q4.alloc hS2 (.cells #[.string v.name,.bool v.pub,.int .i64 v.label,.int .i64 v.size] 76)
          refine hK.out _ _ hS2 (fun hHeld=>?_)
          clear hK K hHeld
          generalize W2.alloc (.cells #[.string v.name,.bool v.pub,.int .i64 v.label,.int .i64 v.size] 76)=W3 at *
          generalize W2.heap.size=s0 at *
          refine wpAnyH_ready (rs:=[4]) (by kernel_rfl) (by simp) ?_
          refine AllReadyH.cons rfl (fun K hK=>?_) AllReadyH.nil
          have m6:=hI2.c6
          go_simp
          refine hK.out _ _ hS2 (fun hHeld=>?_)
          clear hK K hHeld m6
          refine wpAnyH_ready (rs:=[7]) (by kernel_rfl) (by simp) ?_
          refine AllReadyH.cons rfl (fun K hK=>?_) AllReadyH.nil
          refine step_append_lies _ (by rfl) (.tmp 41) (.tmp 43) 41 (by rfl) (D+1) 76 i0 (.agg #[.string ⟨#[]⟩,.bool false,.int .i64 0,.int .i64 0]) 4 40 Tryz.underlying41 hi hz0 hz1 hz2 rfl (by decide) (.slice (some ⟨g,0,none⟩) vs.length uc) vs.length (varCells vs) (by simp [Act.eval,Act.put]) hI2.rl ⟨s0,0,none⟩ 1 1 [.string v.name,.bool v.pub,.int .i64 v.label,.int .i64 v.size] (by simp [Act.eval,Act.put]) rfl hsl (by intro u hu;simp at hu;rcases hu with rfl | rfl | rfl | rfl <;> rfl) (by omega) (by unfold maxLen;omega) (by omega) (by have:=hI2.lt;omega) (s0+1) hss.symm ?_
          intro g5 cap5 w5 hown5 hgrow5 hat5 hlt5
          have hrN:(Value.slice (some ⟨g,0,none⟩) vs.length uc).ownBlock≠some w.heap.size:=fun e=>by have:=hub _ e;omega
          have hrD:(Value.slice (some ⟨g,0,none⟩) vs.length uc).ownBlock≠some D:=fun e=>by have:=(hI2.rl.lt _ e).1;omega
          have hfin:=hI2.push (v:=v) hown5 hgrow5 (hat5.imp id (fun e=>e.trans hss))
          have hbl5:=hgrow5.block D hI2.lt (fun e=>hrD e.symm)
          have m6:=(World.cell?_of_block (a:=⟨D,6,none⟩) hbl5).trans hI2.c6
          have mf:=(World.frozen?_of_block (a:=⟨D,6,none⟩) hbl5).trans (hI2.fz 6)
          have hs5:=hgrow5.size
          have hs3:=hB2.size
          have hkp:∀ b,b<w.heap.size→b≠D→(Value.slice (some ⟨g,0,none⟩) vs.length uc).ownBlock≠some b→w5.heap[b]?=w.heap[b]?:=fun b h1 h2 h3=>(hgrow5.block b (by omega) (fun e=>h3 e.symm)).trans (hB2.block b h1)
          replace hS2:=Q4.grown hS2 hgrow5 hrN
          clear hI2 hbl5 hB2
          refine hK.out _ _ hS2 (fun hHeld=>?_)
          clear hK K hHeld
          simp only [Act.put,jA,jB,jC]
          refine tkH (i:=8) (v:=.pointer (some ⟨D,0,none⟩)) rfl (Or.inl ⟨by rfl,fun w hSw=>by obtain ⟨z0,z1,z2,z3⟩:=hSw;go_simp⟩) hS2 ?_
          simp only [Act.put,jA,jB,jC]
          refine tkH (i:=9) (v:=.pointer (some ⟨D,6,none⟩)) rfl (Or.inl ⟨by rfl,fun w hSw=>by obtain ⟨z0,z1,z2,z3⟩:=hSw;go_simp⟩) hS2 ?_
          simp only [Act.put,jA,jB,jC]
          refine wpAnyH_ready (rs:=[10]) (by kernel_rfl) (by simp) ?_
          refine AllReadyH.cons rfl (fun K hK=>?_) AllReadyH.nil
          go_simp
          refine hK.out _ _ (Q4.other (by omega) hS2 _ _) (fun hHeld=>?_)
          clear hK K hHeld m6 mf
          refine wpAnyH_done (by kernel_rfl) ?_ _
          go_wp2
          go_end0
          exact .inr (.inr ⟨HN.out,by omega,rfl,⟨_,hfin,fun b e=>by have e2:some g5=some b:=e;cases e2;exact hat5.imp id (fun e=>by omega)⟩,by rw [World.size_setCell];omega,fun b h1 h2 h3=>(Below.heap_setCell _ _ _ b (by show b≠D;exact h2)).trans (hkp b h1 h2 h3)⟩)
end
end Go.Proofs.YtfopddgjdaoidaaGreatDoor.chk
