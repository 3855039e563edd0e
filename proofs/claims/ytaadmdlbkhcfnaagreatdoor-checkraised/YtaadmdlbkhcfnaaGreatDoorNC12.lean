/- What the program's list writes, once the function that it is handed does: a contract. -/
import Derived.Test.YtaadmdlbkhcfnaaGreatDoorNC11
import Derived.Shelf.Strconv.Itoa4
import Derived.Shelf.Strings.OnBuilder
set_option maxHeartbeats 4000000
set_option linter.unusedVariables false
set_option linter.unusedSimpArgs false
set_option maxRecDepth 100000
namespace Go.Proofs.YtaadmdlbkhcfnaaGreatDoor.chk
open Go.RowKit Go.Shelf
open syn face
section
variable {w0 w w':World} {D Kb kn:Nat} {kf:KF} {vs:List VarD} {u:Value} {a:Int}
theorem CS.push (h:CS w0 w D Kb kn kf vs u a) {v:VarD} {g cap:Nat} (ho:w'.ownsRow (D+1) 57 4 (.slice (some ⟨g,0,none⟩) (vs.length+1) cap) (vs.length+1) (zW vs++[.string v.name,.bool v.pub,.int .i64 v.label,.int .i64 v.size])) (hg:w.grownBy w' u.ownBlock) (hat:u.ownBlock=some g\/g=w.heap.size) : CS w0 (w'.setCell ⟨D,6,none⟩ (.slice (some ⟨g,0,none⟩) (vs.length+1) cap)) D Kb kn kf (vs++[v]) (.slice (some ⟨g,0,none⟩) (vs.length+1) cap) a:=by
 have hne:∀ b,u.ownBlock=some b->D+1<=b:=fun b e=>(h.rl.lt _ e).1
 have hgD:D+1<=g:=by
  rcases hat with e | e
  ·exact hne g e
  ·have:=h.lt;omega
 have hbl:=hg.block D h.lt (fun e=>by have:=hne D e.symm;omega);have hKl:=h.mp.lt;refine ⟨(h.bs.grown hg h.bs.size (fun k e=>by have:=hne k e;have:=h.hD;omega)).setCell h.hD _,h.hD,?_,?_,?_,?_,fun k=>?_,(h.mp.kept hg (fun e=>h.nu e.symm)).setCell h.nk _,h.fi,fun p x hc=>⟨(h.fw p x hc).1,(h.fw p x hc).2.1,(jM (a:=p) ((jP w' ⟨D,6,none⟩ _ p.block (h.fw p x hc).1).trans (hg.block p.block (jo (h.fw p x hc).2.1 h.fm) (fun e=>Nat.not_lt.2 (h.fu _ e.symm) (h.fw p x hc).2.1)))).trans (h.fw p x hc).2.2⟩,by rw [jQ];exact jp h.fm hg.size,h.mM,fun b e=>?_,?_,h.nk,h.mx,?_⟩;·rw [jD _ _ _ _ (by simp)];exact (jM (a:=⟨D,4,none⟩) hbl).trans h.c4
 ·rw [jD _ _ _ _ (by simp)];exact (jM (a:=⟨D,5,none⟩) hbl).trans h.c5
 ·exact World.cell?_setCell_same' _ _ _ (by rw [(jM (a:=⟨D,6,none⟩) hbl).trans h.c6];rfl)
 ·rw [jD _ _ _ _ (by simp)];exact (jM (a:=⟨D,7,none⟩) hbl).trans h.c7
 ·rw [World.frozen?_setCell];exact (jN (a:=⟨D,k,none⟩) hbl).trans (h.fz k)
 ·have h2:some g=some b:=e;cases h2;rcases hat with e | e
  ·exact h.fu g e
  ·rw [e];exact h.fm
 ·rw [jb,zhe];refine jU ho (fun e=>?_) _;have h2:some g=some D:=e;cases h2;omega
 ·intro e;have h2:some g=some Kb:=e;cases h2;rcases hat with e | e
  ·exact h.nu e
  ·omega
def AL (w0:World) (D Kb kn:Nat) (kf:KF) (vs:List VarD) (u:Value) (a:Int) (v:VarD) (first:Nat) (at_:Int) (w:World) (e:Ending) (w':World):Prop :=
 ((vs.drop first).any (fun o=>eqS o.name v.name)=true/\e=.panicked (qS 5 at_)/\Below w0.heap.size w0 w') \/
 ((vs.drop first).any (fun o=>eqS o.name v.name)=false/\20<=vs.length/\e=.panicked (qS 1 at_)/\Below w0.heap.size w0 w') \/
 ((vs.drop first).any (fun o=>eqS o.name v.name)=false/\vs.length<20/\e=.returned (.tuple #[])/\(∃ u',CS w0 w' D Kb kn kf (vs++[v]) u' a/\∀ b,u'.ownBlock=some b->u.ownBlock=some b\/w.heap.size<=b)/\w.heap.size<=w'.heap.size/\∀ b,b<w.heap.size->b≠D->u.ownBlock≠some b->w'.heap[b]?=w.heap[b]?)
theorem zzf {α:Type} {p:α->Bool} {l:List α} {j:Nat} (h:j<l.length) (hp:p l[j]=true):l.any p=true:=List.any_eq_true.2 ⟨_,jH h,hp⟩
theorem zu3 {α:Type} {p:α->Bool} {l:List α} (h:∀ i (hi:i<l.length),p l[i]=false):l.any p=false:=by
 rw [List.any_eq_false];intro x hx;obtain ⟨i,hi,rfl⟩:=List.getElem_of_mem hx;rw [h i hi]
 decide
end
section
variable {w0 w w':World} {D Kb kn:Nat} {kf:KF} {vs:List VarD} {u:Value} {a:Int}
theorem zsv (v:VarD) (first:Nat) (at_:Int) (h:CS w0 w D Kb kn kf vs u a) (hf:first<=vs.length) (hl:vs.length<=20) : Calls Tryz.prog 105 #[.pointer (some ⟨D,0,none⟩),qN v,.int .i64 (first:Int),.int .i64 at_] w (AL w0 D Kb kn kf vs u a v first at_ w):=by
 have c4:Tryz.prog.cellsOf 57=4:=cell4;obtain ⟨i0,hi,hz0,hz1,hz2⟩:=info_parts zd3;obtain ⟨ua,uc,rfl,hucl,hug⟩:=lexs.own_shape h.rl;have hrow:=h.rl;have hd:=h.lt;have hI0:=h.alloc (.cells #[.string v.name,.bool v.pub,.int .i64 v.label,.int .i64 v.size] 57);have m6:=hI0.c6;have hub:∀ b,(Value.slice ua vs.length uc).ownBlock=some b->b<w.heap.size:=fun b e=>(h.rl.lt _ e).2
 have hcap:vs.length<=uc:=by
  rcases hrow.2 with ⟨e,hn⟩|⟨g,cap,cur,e,h3,h4,h5,h6,_⟩
  ·omega
  ·injection e with _ _ e2;omega
 unfold qN;have hQ0:Q4 w.heap.size (.string v.name) (.bool v.pub) (.int .i64 v.label) (.int .i64 v.size) (w.alloc (.cells #[.string v.name,.bool v.pub,.int .i64 v.label,.int .i64 v.size] 57)):=⟨by simp,by simp,by simp,by simp⟩
 have hB0:Below w.heap.size w (w.alloc (.cells #[.string v.name,.bool v.pub,.int .i64 v.label,.int .i64 v.size] 57)):=bal _
 by_cases hu:uc=first
 ·obtain rfl:first=vs.length:=by omega
  obtain rfl:=hu;have hany:(vs.drop vs.length).any (fun o=>eqS o.name v.name)=false:=by rw [List.drop_eq_nil_of_le (by omega)];rfl
  go_enter Tryz.func105,Tryz.ntmps105;go_wp2;clear m6;generalize w.alloc (.cells #[.string v.name,.bool v.pub,.int .i64 v.label,.int .i64 v.size] 57)=W1 at *;go_loopw [17] (fun t wr=>t=.int .i64 0/\wr=W1) (fun _ _=>0)
  case atStart=>exact ⟨rfl,rfl⟩
  case round =>
   obtain ⟨rfl,rfl⟩:=hrel;have hI:=hI0;have hQ:=hQ0;have hBr:=hB0;have HN:Hid ((vs.drop vs.length).any (fun o=>eqS o.name v.name)=false):=hany;clear hany;have m6:=hI.c6;obtain ⟨q0,q1,q2,q3⟩:=id hQ;by_cases h20:20<=vs.length;·have HBs:Hid (Below w0.heap.size w0 wr):=hI.bs;go_wp2_with (go_at_call 67;refine (vL 1 at_ wr).mono ?_;rintro e w2 ⟨rfl,hw2⟩;rw [hw2]);exact ⟨rfl,.inr (.inl ⟨HN.out,h20,rfl,HBs.out⟩)⟩
   ·have hI2:=hI.drew;have hS2:Q4 w.heap.size (.string v.name) (.bool v.pub) (.int .i64 v.label) (.int .i64 v.size) wr.drew:=hQ;have hB2:Below w.heap.size w wr.drew:=hBr.drew;go_wp2;refine wp_region_held_drew (S:=fun W=>Q4 w.heap.size (.string v.name) (.bool v.pub) (.int .i64 v.label) (.int .i64 v.size) W) (by kernel_rfl) hS2 (fun hHeld=>?_);clear hHeld m6 hQ hI hBr q0 q1 q2 q3;generalize wr.drew=W2 at *;refine tkP 0 (.pointer (some ⟨D,0,none⟩)) hS2 ?_;simp only [Act.put,jA,jB,jC];refine tkP 1 (.pointer (some ⟨D,0,none⟩)) hS2 ?_;simp only [Act.put,jA,jB,jC];refine tkP 2 (.pointer (some ⟨D,0,none⟩)) hS2 ?_;simp only [Act.put,jA,jB,jC];refine tkP 3 (.pointer (some ⟨D,6,none⟩)) hS2 ?_;simp only [Act.put,jA,jB,jC];refine tkP 5 (.agg #[.string v.name,.bool v.pub,.int .i64 v.label,.int .i64 v.size] ) hS2 ?_;simp only [Act.put,jA,jB,jC];refine wpAnyH_ready (rs:=[4,6]) (by kernel_rfl) (by simp) ?_;refine AllReadyH.cons rfl (fun K hK=>?_) (AllReadyH.cons rfl (fun K hK=>?_) AllReadyH.nil)
    focus
     have m6:=hI2.c6;go_simp;refine hK.out _ _ hS2 (fun hHeld=>?_);clear hK K hHeld m6;refine oneH 6 fun K hK=>?_
     go_simp;have hsl:∀ j u,[Value.string v.name,.bool v.pub,.int .i64 v.label,.int .i64 v.size][j]?=some u->(W2.alloc (.cells #[.string v.name,.bool v.pub,.int .i64 v.label,.int .i64 v.size] 57)).cell? ((⟨W2.heap.size,0,none⟩:Addr).add j)=some u:=xF _ #[.string v.name,.bool v.pub,.int .i64 v.label,.int .i64 v.size] _ _ rfl;have hss:W2.heap.size+1=(W2.alloc (.cells #[.string v.name,.bool v.pub,.int .i64 v.label,.int .i64 v.size] 57)).heap.size:=by simp
     have hw2s:w.heap.size<=W2.heap.size:=hB2.size;replace hB2:=hB2.alloc hB2.size (.cells #[.string v.name,.bool v.pub,.int .i64 v.label,.int .i64 v.size] 57);replace hI2:=hI2.alloc (.cells #[.string v.name,.bool v.pub,.int .i64 v.label,.int .i64 v.size] 57);replace hS2:=Q4.alloc hS2 (.cells #[.string v.name,.bool v.pub,.int .i64 v.label,.int .i64 v.size] 57);refine hK.out _ _ hS2 (fun hHeld=>?_);clear hK K hHeld;generalize W2.alloc (.cells #[.string v.name,.bool v.pub,.int .i64 v.label,.int .i64 v.size] 57)=W3 at *;generalize W2.heap.size=s0 at *
    rotate_left
    focus
     go_simp;have hsl:∀ j u,[Value.string v.name,.bool v.pub,.int .i64 v.label,.int .i64 v.size][j]?=some u->(W2.alloc (.cells #[.string v.name,.bool v.pub,.int .i64 v.label,.int .i64 v.size] 57)).cell? ((⟨W2.heap.size,0,none⟩:Addr).add j)=some u:=xF _ #[.string v.name,.bool v.pub,.int .i64 v.label,.int .i64 v.size] _ _ rfl;have hss:W2.heap.size+1=(W2.alloc (.cells #[.string v.name,.bool v.pub,.int .i64 v.label,.int .i64 v.size] 57)).heap.size:=by simp
     have hw2s:w.heap.size<=W2.heap.size:=hB2.size;replace hB2:=hB2.alloc hB2.size (.cells #[.string v.name,.bool v.pub,.int .i64 v.label,.int .i64 v.size] 57);replace hI2:=hI2.alloc (.cells #[.string v.name,.bool v.pub,.int .i64 v.label,.int .i64 v.size] 57);replace hS2:=Q4.alloc hS2 (.cells #[.string v.name,.bool v.pub,.int .i64 v.label,.int .i64 v.size] 57);refine hK.out _ _ hS2 (fun hHeld=>?_);clear hK K hHeld;generalize W2.alloc (.cells #[.string v.name,.bool v.pub,.int .i64 v.label,.int .i64 v.size] 57)=W3 at *;generalize W2.heap.size=s0 at *;refine oneH 4 fun K hK=>?_
     have m6:=hI2.c6;go_simp;refine hK.out _ _ hS2 (fun hHeld=>?_);clear hK K hHeld m6
    all_goals
     refine oneH 7 fun K hK=>?_
     refine step_append_lies _ (by rfl) (.tmp 41) (.tmp 43) 38 (by rfl) (D+1) 57 i0 (.agg #[.string ⟨#[]⟩,.bool false,.int .i64 0,.int .i64 0]) 4 40 Tryz.underlying38 hi hz0 hz1 hz2 rfl (by decide) (.slice ua vs.length vs.length) vs.length (zW vs) (by simp [Act.eval,Act.put]) hI2.rl ⟨s0,0,none⟩ 1 1 [.string v.name,.bool v.pub,.int .i64 v.label,.int .i64 v.size] (by simp [Act.eval,Act.put]) rfl hsl (by intro u hu;simp at hu;rcases hu with rfl | rfl | rfl | rfl<;>rfl) (by omega) (by unfold maxLen;omega) (by omega) (by have:=hI2.lt;omega) (s0+1) hss.symm ?_;intro g5 cap5 w5 hown5 hgrow5 hat5 hlt5;have hrN:(Value.slice ua vs.length vs.length).ownBlock≠some w.heap.size:=fun e=>by have:=hub _ e;omega
     have hrD:(Value.slice ua vs.length vs.length).ownBlock≠some D:=fun e=>by have:=(hI2.rl.lt _ e).1;omega
     have hfin:=hI2.push (v:=v) hown5 hgrow5 (hat5.imp id (fun e=>e.trans hss));have hbl5:=hgrow5.block D hI2.lt (fun e=>hrD e.symm);have m6:=(jM (a:=⟨D,6,none⟩) hbl5).trans hI2.c6;have mf:=(jN (a:=⟨D,6,none⟩) hbl5).trans (hI2.fz 6);have hs5:=hgrow5.size;have hs3:=hB2.size;have hkp:∀ b,b<w.heap.size->b≠D->(Value.slice ua vs.length vs.length).ownBlock≠some b->w5.heap[b]?=w.heap[b]?:=fun b h1 h2 h3=>(hgrow5.block b (by omega) (fun e=>h3 e.symm)).trans (hB2.block b h1)
     replace hS2:=Q4.grown hS2 hgrow5 hrN;clear hI2 hbl5 hB2;refine hK.out _ _ hS2 (fun hHeld=>?_);clear hK K hHeld;simp only [Act.put,jA,jB,jC];refine tkP 8 (.pointer (some ⟨D,0,none⟩)) hS2 ?_;simp only [Act.put,jA,jB,jC];refine tkP 9 (.pointer (some ⟨D,6,none⟩)) hS2 ?_;simp only [Act.put,jA,jB,jC];refine oneH 10 fun K hK=>?_
     go_simp;refine hK.out _ _ (Q4.other (by omega) hS2 _ _) (fun hHeld=>?_);clear hK K hHeld m6 mf;refine wpAnyH_done (by kernel_rfl) ?_ _;go_wp2
     go_end0
     exact .inr (.inr ⟨HN.out,by omega,rfl,⟨_,hfin,fun b e=>by have e2:some g5=some b:=e;cases e2;exact hat5.imp id (fun e=>by omega)⟩,by rw [jQ];omega,fun b h1 h2 h3=>(jP _ _ _ b (by show b≠D;exact h2)).trans (hkp b h1 h2 h3)⟩)
 ·obtain ⟨g,rfl⟩:∃ g,ua=some ⟨g,0,none⟩:=by
   rcases hrow.2 with ⟨e,hn⟩|⟨g,cap,cur,e,_⟩
   ·injection e with _ _ e2;omega
   ·injection e with e1 _ _;exact ⟨g,e1⟩
  go_enter Tryz.func105,Tryz.ntmps105;go_wp2;clear m6;generalize w.alloc (.cells #[.string v.name,.bool v.pub,.int .i64 v.label,.int .i64 v.size] 57)=W1 at *;go_loopw [17] (fun t wr=>∃ j:Nat,j<=vs.length - first/\t=.int .i64 j/\Hid (∀ i (hi:i<(vs.drop first).length),i<j->eqS (vs.drop first)[i].name v.name=false)/\Below W1.heap.size W1 wr) (fun t _=>vs.length - first - (intOf t).toNat)
  case atStart=>exact ⟨0,jz _,rfl,fun i hi h=>absurd h (by omega),Below.refl _ _⟩
  case round =>
   obtain ⟨j,hj,rfl,HNN,hbr⟩:=hrel;have hI:=hI0.below hbr;have hQ:=Q4.below hQ0 hbr;have hBr:=hB0.trans (hbr.mono hB0.size)
   by_cases hlt:j<vs.length - first
   ·obtain ⟨q0,q1,q2,q3⟩:=id hQ;have hjv:first+j<vs.length:=by omega
    obtain ⟨e0,e1,e2,e3⟩:=zch vs (first+j) hjv;have k0:=(hI.rl.cellAt ((first+j)*4) (by omega)).trans e0;have k1:=(hI.rl.cellAt ((first+j)*4+1) (by omega)).trans e1;have k2:=(hI.rl.cellAt ((first+j)*4+2) (by omega)).trans e2;have k3:=(hI.rl.cellAt ((first+j)*4+3) (by omega)).trans e3;rw [show (first+j)*4=first*4+j*4 by omega] at k0 k1 k2 k3;clear e0 e1 e2 e3;have hdl:j<(vs.drop first).length:=by simp;omega
    have hde:(vs.drop first)[j]=vs[first+j]:=by simp
    have HF:Hid (∀ b,eqS vs[first+j].name v.name=b->b=true->(vs.drop first).any (fun o=>eqS o.name v.name)=true):=fun b h1 h2=>zzf hdl (by rw [hde];exact h1.trans h2)
    have HS:Hid (∀ b,eqS vs[first+j].name v.name=b->b=false->∀ i (hi:i<(vs.drop first).length),i<j+1->eqS (vs.drop first)[i].name v.name=false):=fun b h1 h2 i hi h=>by
     rcases jL i j with h' | h'
     ·exact HNN.out i hi h'
     ·obtain rfl:i=j:=by omega
      rw [hde];exact h1.trans h2
    clear hde;generalize vs[first+j]=y at *;obtain ⟨n0,n1,n2,n3⟩:=Q4.alloc hQ (.cells #[.string y.name,.bool y.pub,.int .i64 y.label,.int .i64 y.size] 57);have HBs:Hid (∀ o:Obj,Below w0.heap.size w0 (wr.alloc o)):=fun o=>(hI.alloc o).bs
    have hbr2:Hid (Below W1.heap.size W1 wr):=hbr;cases heq:eqS y.name v.name;·have hc:(y.name.toList==v.name.toList)=false:=heq;have HS2:=HS.out _ heq rfl;clear HS HF;go_wp2;exact ⟨⟨j+1,by omega,by simp,HS2,hbr2.out.alloc hbr2.out.size _⟩,by simp [intOf];omega⟩
    ·have hc:(y.name.toList==v.name.toList)=true:=heq;have HF2:Hid ((vs.drop first).any (fun o=>eqS o.name v.name)=true):=HF.out _ heq rfl;clear HS HF;go_wp2_with (go_at_call 67;refine (vL 5 at_ _).mono ?_;rintro e w2 ⟨rfl,hw2⟩;rw [hw2]);exact ⟨rfl,.inl ⟨HF2.out,rfl,HBs.out _⟩⟩
   ·have hany:(vs.drop first).any (fun o=>eqS o.name v.name)=false:=zu3 (fun i hi=>HNN.out i hi (by simp at hi;omega));have hj2:j=vs.length - first:=by omega
    clear HNN hbr;have HN:Hid ((vs.drop first).any (fun o=>eqS o.name v.name)=false):=hany;clear hany;have m6:=hI.c6;obtain ⟨q0,q1,q2,q3⟩:=id hQ;by_cases h20:20<=vs.length;·have HBs:Hid (Below w0.heap.size w0 wr):=hI.bs;go_wp2_with (go_at_call 67;refine (vL 1 at_ wr).mono ?_;rintro e w2 ⟨rfl,hw2⟩;rw [hw2]);exact ⟨rfl,.inr (.inl ⟨HN.out,h20,rfl,HBs.out⟩)⟩
    ·have hI2:=hI.drew;have hS2:Q4 w.heap.size (.string v.name) (.bool v.pub) (.int .i64 v.label) (.int .i64 v.size) wr.drew:=hQ;have hB2:Below w.heap.size w wr.drew:=hBr.drew;go_wp2;refine wp_region_held_drew (S:=fun W=>Q4 w.heap.size (.string v.name) (.bool v.pub) (.int .i64 v.label) (.int .i64 v.size) W) (by kernel_rfl) hS2 (fun hHeld=>?_);clear hHeld m6 hQ hI hBr q0 q1 q2 q3;generalize wr.drew=W2 at *;refine tkP 0 (.pointer (some ⟨D,0,none⟩)) hS2 ?_;simp only [Act.put,jA,jB,jC];refine tkP 1 (.pointer (some ⟨D,0,none⟩)) hS2 ?_;simp only [Act.put,jA,jB,jC];refine tkP 2 (.pointer (some ⟨D,0,none⟩)) hS2 ?_;simp only [Act.put,jA,jB,jC];refine tkP 3 (.pointer (some ⟨D,6,none⟩)) hS2 ?_;simp only [Act.put,jA,jB,jC];refine tkP 5 (.agg #[.string v.name,.bool v.pub,.int .i64 v.label,.int .i64 v.size] ) hS2 ?_;simp only [Act.put,jA,jB,jC];refine wpAnyH_ready (rs:=[4,6]) (by kernel_rfl) (by simp) ?_;refine AllReadyH.cons rfl (fun K hK=>?_) (AllReadyH.cons rfl (fun K hK=>?_) AllReadyH.nil)
     focus
      have m6:=hI2.c6;go_simp;refine hK.out _ _ hS2 (fun hHeld=>?_);clear hK K hHeld m6;refine oneH 6 fun K hK=>?_
      go_simp;have hsl:∀ j u,[Value.string v.name,.bool v.pub,.int .i64 v.label,.int .i64 v.size][j]?=some u->(W2.alloc (.cells #[.string v.name,.bool v.pub,.int .i64 v.label,.int .i64 v.size] 57)).cell? ((⟨W2.heap.size,0,none⟩:Addr).add j)=some u:=xF _ #[.string v.name,.bool v.pub,.int .i64 v.label,.int .i64 v.size] _ _ rfl;have hss:W2.heap.size+1=(W2.alloc (.cells #[.string v.name,.bool v.pub,.int .i64 v.label,.int .i64 v.size] 57)).heap.size:=by simp
      have hw2s:w.heap.size<=W2.heap.size:=hB2.size;replace hB2:=hB2.alloc hB2.size (.cells #[.string v.name,.bool v.pub,.int .i64 v.label,.int .i64 v.size] 57);replace hI2:=hI2.alloc (.cells #[.string v.name,.bool v.pub,.int .i64 v.label,.int .i64 v.size] 57);replace hS2:=Q4.alloc hS2 (.cells #[.string v.name,.bool v.pub,.int .i64 v.label,.int .i64 v.size] 57);refine hK.out _ _ hS2 (fun hHeld=>?_);clear hK K hHeld;generalize W2.alloc (.cells #[.string v.name,.bool v.pub,.int .i64 v.label,.int .i64 v.size] 57)=W3 at *;generalize W2.heap.size=s0 at *
     rotate_left
     focus
      go_simp;have hsl:∀ j u,[Value.string v.name,.bool v.pub,.int .i64 v.label,.int .i64 v.size][j]?=some u->(W2.alloc (.cells #[.string v.name,.bool v.pub,.int .i64 v.label,.int .i64 v.size] 57)).cell? ((⟨W2.heap.size,0,none⟩:Addr).add j)=some u:=xF _ #[.string v.name,.bool v.pub,.int .i64 v.label,.int .i64 v.size] _ _ rfl;have hss:W2.heap.size+1=(W2.alloc (.cells #[.string v.name,.bool v.pub,.int .i64 v.label,.int .i64 v.size] 57)).heap.size:=by simp
      have hw2s:w.heap.size<=W2.heap.size:=hB2.size;replace hB2:=hB2.alloc hB2.size (.cells #[.string v.name,.bool v.pub,.int .i64 v.label,.int .i64 v.size] 57);replace hI2:=hI2.alloc (.cells #[.string v.name,.bool v.pub,.int .i64 v.label,.int .i64 v.size] 57);replace hS2:=Q4.alloc hS2 (.cells #[.string v.name,.bool v.pub,.int .i64 v.label,.int .i64 v.size] 57);refine hK.out _ _ hS2 (fun hHeld=>?_);clear hK K hHeld;generalize W2.alloc (.cells #[.string v.name,.bool v.pub,.int .i64 v.label,.int .i64 v.size] 57)=W3 at *;generalize W2.heap.size=s0 at *;refine oneH 4 fun K hK=>?_
      have m6:=hI2.c6;go_simp;refine hK.out _ _ hS2 (fun hHeld=>?_);clear hK K hHeld m6
     all_goals
      refine oneH 7 fun K hK=>?_
      refine step_append_lies _ (by rfl) (.tmp 41) (.tmp 43) 38 (by rfl) (D+1) 57 i0 (.agg #[.string ⟨#[]⟩,.bool false,.int .i64 0,.int .i64 0]) 4 40 Tryz.underlying38 hi hz0 hz1 hz2 rfl (by decide) (.slice (some ⟨g,0,none⟩) vs.length uc) vs.length (zW vs) (by simp [Act.eval,Act.put]) hI2.rl ⟨s0,0,none⟩ 1 1 [.string v.name,.bool v.pub,.int .i64 v.label,.int .i64 v.size] (by simp [Act.eval,Act.put]) rfl hsl (by intro u hu;simp at hu;rcases hu with rfl | rfl | rfl | rfl<;>rfl) (by omega) (by unfold maxLen;omega) (by omega) (by have:=hI2.lt;omega) (s0+1) hss.symm ?_;intro g5 cap5 w5 hown5 hgrow5 hat5 hlt5;have hrN:(Value.slice (some ⟨g,0,none⟩) vs.length uc).ownBlock≠some w.heap.size:=fun e=>by have:=hub _ e;omega
      have hrD:(Value.slice (some ⟨g,0,none⟩) vs.length uc).ownBlock≠some D:=fun e=>by have:=(hI2.rl.lt _ e).1;omega
      have hfin:=hI2.push (v:=v) hown5 hgrow5 (hat5.imp id (fun e=>e.trans hss));have hbl5:=hgrow5.block D hI2.lt (fun e=>hrD e.symm);have m6:=(jM (a:=⟨D,6,none⟩) hbl5).trans hI2.c6;have mf:=(jN (a:=⟨D,6,none⟩) hbl5).trans (hI2.fz 6);have hs5:=hgrow5.size;have hs3:=hB2.size;have hkp:∀ b,b<w.heap.size->b≠D->(Value.slice (some ⟨g,0,none⟩) vs.length uc).ownBlock≠some b->w5.heap[b]?=w.heap[b]?:=fun b h1 h2 h3=>(hgrow5.block b (by omega) (fun e=>h3 e.symm)).trans (hB2.block b h1)
      replace hS2:=Q4.grown hS2 hgrow5 hrN;clear hI2 hbl5 hB2;refine hK.out _ _ hS2 (fun hHeld=>?_);clear hK K hHeld;simp only [Act.put,jA,jB,jC];refine tkP 8 (.pointer (some ⟨D,0,none⟩)) hS2 ?_;simp only [Act.put,jA,jB,jC];refine tkP 9 (.pointer (some ⟨D,6,none⟩)) hS2 ?_;simp only [Act.put,jA,jB,jC];refine oneH 10 fun K hK=>?_
      go_simp;refine hK.out _ _ (Q4.other (by omega) hS2 _ _) (fun hHeld=>?_);clear hK K hHeld m6 mf;refine wpAnyH_done (by kernel_rfl) ?_ _;go_wp2
      go_end0
      exact .inr (.inr ⟨HN.out,by omega,rfl,⟨_,hfin,fun b e=>by have e2:some g5=some b:=e;cases e2;exact hat5.imp id (fun e=>by omega)⟩,by rw [jQ];omega,fun b h1 h2 h3=>(jP _ _ _ b (by show b≠D;exact h2)).trans (hkp b h1 h2 h3)⟩)
end
theorem zhi:∀ l:List VarD,(zW l).length=l.length*4
 | []=>rfl
 | v :: r=>by
  show (Value.string v.name :: .bool v.pub :: .int .i64 v.label :: .int .i64 v.size :: zW r).length=_;simp only [jd,zhi r];omega
theorem zhc:∀ (l:List VarD) (n:Nat),(zW l).take (n*4)=zW (l.take n)
 | [],n=>by simp [zW]
 | v :: r,0=>by simp [zW]
 | v :: r,n+1=>by
  show (Value.string v.name :: .bool v.pub :: .int .i64 v.label :: .int .i64 v.size :: zW r).take ((n+1)*4)=Value.string v.name :: .bool v.pub :: .int .i64 v.label :: .int .i64 v.size :: zW (r.take n);rw [show (n+1)*4=n*4+1+1+1+1 by omega];simp only [List.take_succ_cons,zhc r n]
theorem zv2 {w:World} {B:Nat} {ua:Option Addr} {uc:Nat} {vs:List VarD} (h:w.ownsRow B 57 4 (.slice ua vs.length uc) vs.length (zW vs)) {n:Nat} (hn:n<=vs.length):w.ownsRow B 57 4 (.slice ua n uc) (vs.take n).length (zW (vs.take n)):=by
 have hl:(vs.take n).length=n:=by rw [List.length_take];omega
 refine ⟨by rw [zhi],?_⟩;rw [hl];rcases h.2 with ⟨e,h0⟩|⟨g,cap,cur,e,h1,h2,h3,h4,h5,h6⟩
 ·injection e with e1 _ e2;exact .inl ⟨by rw [e1,e2,show n=0 by omega],by omega⟩
 ·injection e with e1 _ e2;refine .inr ⟨g,cap,cur,by rw [e1,e2],h1,h2,by omega,h4,h5,?_⟩;rw [<- zhc,<- h6,List.take_take,Nat.min_eq_left (by omega)]
section
variable {w0 w w':World} {D Kb kn:Nat} {kf:KF} {vs:List VarD} {ua:Option Addr} {uc:Nat} {a:Int}
theorem CS.cut (h:CS w0 w D Kb kn kf vs (.slice ua vs.length uc) a) {n:Nat} (hn:n<=vs.length):CS w0 (w.setCell ⟨D,6,none⟩ (.slice ua n uc)) D Kb kn kf (vs.take n) (.slice ua n uc) a:=by
 have hob:(Value.slice ua n uc).ownBlock=(Value.slice ua vs.length uc).ownBlock:=by cases ua<;>rfl
 refine ⟨h.bs.setCell h.hD _,h.hD,?_,?_,?_,?_,fun k=>?_,h.mp.setCell h.nk _,h.fi,fun p x hc=>⟨(h.fw p x hc).1,(h.fw p x hc).2.1,(jM (a:=p) (jP w ⟨D,6,none⟩ _ p.block (h.fw p x hc).1)).trans (h.fw p x hc).2.2⟩,by rw [jQ];exact h.fm,h.mM,fun b e=>h.fu b (by rw [<- hob];exact e),?_,h.nk,h.mx,?_⟩;·rw [jD _ _ _ _ (by simp)];exact h.c4
 ·rw [jD _ _ _ _ (by simp)];exact h.c5
 ·exact World.cell?_setCell_same' _ _ _ (by rw [h.c6];rfl)
 ·rw [jD _ _ _ _ (by simp)];exact h.c7
 ·rw [World.frozen?_setCell];exact h.fz k
 ·refine jU (zv2 h.rl hn) (fun e=>?_) _;rw [hob] at e;have h2:D+1<=D:=(h.rl.lt _ e).1;omega
 ·rw [hob];exact h.nu
end
end Go.Proofs.YtaadmdlbkhcfnaaGreatDoor.chk
namespace Go.Proofs.YtaadmdlbkhcfnaaGreatDoor.chk
open syn face
def Lab (l:Int):Prop:=l=0\/l=1
theorem zw8 {l:Int} (h:Lab l):jn l 0=l:=by
 unfold jn;rcases h with rfl | rfl<;>decide
theorem zwf (l v:Int):jn v l=jn (jn 0 l) v:=by
 unfold jn;by_cases h1:v=0<;>by_cases h2:l=0<;>simp [h1,h2]
theorem zi5 {p:Int} (l:Int) (h:Lab p):zS p [l]=(p==1||l==0):=by
 unfold zS jn;rcases h with rfl | rfl
 ·by_cases h2:l=0<;>simp [h2]
 ·simp
theorem zk4:∀ (ps ls:List Int),(∀ p∈ps,Lab p)->xW ps ls=cY ps ls
 | [],ls,h=>by
  cases ls<;>rfl
 | p :: r,[],h=>rfl
 | p :: r,l :: s,h=>by
  show (zS p [l]&&xW r s)=((p==1||l==0)&&cY r s)
  rw [zi5 l (h p (jJ ..)),zk4 r s (fun q hq=>h q (jF _ hq))]
theorem zzp {E:Env} {L:List Loc} {ctx:Int} {kf:ByteArray->Option FV} {vs:List VarD} (hv:∀ x,zG x->(vJ kf vs x).map (fun v=>(v.label,v.size))=cD E L x) (hp:∀ x,zG x->uP kf x=procF E x) (hlv:∀ x v,zG x->vJ kf vs x=some v->Lab v.label/\0<=v.size) (hlp:∀ x p,zG x->uP kf x=some p->(∀ l∈p.params,Lab l)/\Lab p.writes):Agr E L ctx kf vs where
 pl:=fun k x a a' ls hk hx=>by
  have e:=hv x hx;rcases hk with ⟨rfl,rfl⟩|⟨rfl,l,rfl⟩
  ·unfold plP vR;rw [jv rfl,<- e]
   cases hq:vJ kf vs x with
   | none=>rfl
   | some v =>
    obtain ⟨h1,h2⟩:=hlv x v hx hq;dsimp only [Option.map_some];by_cases h3:v.size=0;·rw [jv (by simp [h3]),jv h3];show Res.ok (jn v.label 0,a')=_;rw [zw8 h1]
    ·rw [ju (by simp;omega),ju h3]
  ·unfold plP vR;rw [ju (by decide),jv rfl,<- e]
   cases hq:vJ kf vs x with
   | none=>rfl
   | some v =>
    dsimp only [Option.map_some];by_cases h3:0<v.size;·rw [jv (by simp [h3]),jv h3];show Res.ok (jn v.label l,a')=Res.ok (jn (jn 0 l) v.label,a');rw [zwf]
    ·rw [ju (by simp;omega),ju h3]
 cl:=fun alone x a a' ls hx=>by
  refine Eq.trans ?_ (ya2 E L ctx alone x ls a a').symm;rw [<- hp x hx];unfold clP
  cases hq:uP kf x with
  | none=>rfl
  | some p =>
   obtain ⟨h1,h2⟩:=hlp x p hx hq;dsimp only;rw [zk4 _ _ h1,zi5 ctx h2];by_cases g1:ls.length=p.params.length
   ·have n1:¬ (ls.length≠p.params.length):=fun e=>e g1
    have n2:¬ (p.params.length≠ls.length):=fun e=>e g1.symm
    rw [ju n1,ju n2];by_cases g2:p.gives=false/\alone=false
    ·have m1:(!p.gives&&!alone)=true:=by simp [g2.1,g2.2]
     rw [jv m1,jv g2]
    ·have m1:¬ ((!p.gives&&!alone)=true):=fun e=>g2 (by simpa using e)
     rw [ju m1,ju g2];by_cases g3:cY p.params ls=false;·rw [jv g3,jv g3]
     ·rw [ju g3,ju g3];by_cases g4:p.writes≠1/\ctx≠0
      ·have m2:(p.writes==1||ctx==0)=false:=by simp [g4.1,g4.2]
       rw [jv m2,jv g4]
      ·have m2:¬ ((p.writes==1||ctx==0)=false):=fun e=>g4 (by simpa using e)
       rw [ju m2,ju g4]
   ·have n2:p.params.length≠ls.length:=fun e=>g1 e.symm
    rw [jv g1,jv n2]
def kN (L:List Loc):List VarD:=L.map fun l=>⟨l.name,false,l.label,0⟩
def dI (f:FaceD):Prop:=(∀ v∈f.vars,Lab v.label/\0<=v.size)/\∀ p∈f.procs,(∀ l∈p.params,Lab l)/\Lab p.writes/\Lab p.given
def cC (E:Env):Prop:=dI E.own/\∀ f∈E.faces,dI f
def xD (L:List Loc):Prop:=∀ l∈L,Lab l.label
theorem zgc (a b:Int):Lab (jn a b):=by
 unfold jn Lab;split<;>simp
theorem zjf:∀ (ls:List Int) (l:Int),Lab l->Lab (uB ls l)
 | [],l,h=>h
 | x :: r,l,h=>zjf r _ (zgc l x)
theorem zjt {E:Env} {x:ByteArray} {f:FaceD} (h:cC E) (hf:zat E x=some f):dI f:=by
 unfold zat at hf;split at hf;·cases hf;exact h.1
 ·exact h.2 f (List.mem_of_find?_eq_some hf)
theorem zk7 {E:Env} {L:List Loc} {x:ByteArray} {v:Int × Int} (h:cC E) (hL:xD L) (hv:cD E L x=some v):Lab v.1/\0<=v.2:=by
 unfold cD at hv;split at hv;·rename_i l hl;cases hv;exact ⟨hL l (List.mem_reverse.1 (List.mem_of_find?_eq_some hl)),Int.le_refl _⟩
 ·split at hv;·cases hv
  ·rename_i f hf
   cases hq:za1 f.vars (uR x) with
   | none=>rw [hq] at hv;cases hv
   | some y =>
    rw [hq] at hv;simp only [Option.map_some,jh] at hv;rw [<- hv];exact (zjt h hf).1 y (List.mem_of_find?_eq_some hq)
theorem zjv {E:Env} {x:ByteArray} {p:ProcD} (h:cC E) (hp:procF E x=some p):(∀ l∈p.params,Lab l)/\Lab p.writes/\Lab p.given:=by
 unfold procF at hp;split at hp;·cases hp
 ·rename_i f hf;exact (zjt h hf).2 p (List.mem_of_find?_eq_some hp)
theorem zt6 {E:Env} {L:List Loc} {ctx:Int} {alone:Bool} {k:Int} {x:ByteArray} {ls:List Int} {a l:Int} (h:cC E) (hL:xD L) (ho:vR E L ctx alone k x ls a=.ok l):Lab l:=by
 unfold vR at ho;split at ho
 ·split at ho;·cases ho
  ·rename_i v hv;split at ho;·cases ho;exact (zk7 h hL hv).1
   ·cases ho
 ·split at ho
  ·split at ho;·cases ho
   ·split at ho;·cases ho;exact zgc _ _
    ·cases ho
  ·split at ho
   ·split at ho;·cases ho
    ·rename_i p hp;split at ho;·cases ho
     ·split at ho;·cases ho
      ·split at ho;·cases ho
       ·split at ho;·cases ho
        ·cases ho;exact (zjv h hp).2.2
   ·cases ho;exact zjf _ _ (.inl rfl)
theorem zb0 {E:Env} {L:List Loc} {ctx:Int} {alone:Bool} {t:Tree} {a:Int} {q:Int × Int} (h:cC E) (hL:xD L) (ht:exF E L ctx alone t a=.ok q):Lab q.1:=by
 obtain ⟨k,x,m,ks⟩:=t;unfold exF at ht;split at ht;·cases ht
 ·split at ht;·cases ht
  ·rename_i l hl;cases ht;exact zt6 h hL hl
theorem jn0 {l:Int} (h:Lab l):jn 0 l=l:=by
 rcases h with rfl | rfl<;>decide
theorem zbv (E:Env) (L:List Loc) (ctx:Int) (t:Tree) (a:Int):exL E L ctx [t] a=match exF E L ctx false t a with
  | .bad c b=>.bad c b
  | .ok q=>.ok ([q.1],q.2):=by
 simp only [exL];cases exF E L ctx false t a<;>rfl
theorem znp {to v c:Int} (h1:Lab to) (h2:Lab v) (h3:Lab c):(zS to [v,c]=false)=(to≠1/\hi v c 0=true):=by
 rcases h1 with rfl | rfl<;>rcases h2 with rfl | rfl<;>rcases h3 with rfl | rfl<;>decide
theorem zm3 {to v i c:Int} (h1:Lab to) (h2:Lab v) (h3:Lab i) (h4:Lab c):(zS to [v,i,c]=false)=(to≠1/\hi v i c=true):=by
 rcases h1 with rfl | rfl<;>rcases h2 with rfl | rfl<;>rcases h3 with rfl | rfl<;>rcases h4 with rfl | rfl<;>decide
theorem znh {to c:Int} (h1:Lab to) (h2:Lab c):(zS to [c]=false)=(to≠1/\c≠0):=by
 rcases h1 with rfl | rfl<;>rcases h2 with rfl | rfl<;>decide
theorem zm2 {E:Env} {L:List Loc} {ctx:Int} {t:Tree} {a:Int} {q:Int × Int × Int} (h:plF E L ctx t a=.ok q):q.2.2=a+kB t:=by
 obtain ⟨k,x,m,ks⟩:=t;simp only [plF] at h;split at h;·cases h
 ·rename_i s hs;split at h;·cases h
  ·cases h;have:=cZ E L ctx ks _ _ hs;show s.2=_;rw [show kB (.node k x m ks)=kA ks+1 by unfold kB;rfl];omega
def Ext (deep:Int) (L L':List Loc):Prop:=∃ M,L'=L++M/\∀ m∈M,m.deep=deep/\Lab m.label
theorem Ext.refl (deep:Int) (L:List Loc):Ext deep L L:=⟨[],by simp,fun m hm=>by cases hm⟩
theorem Ext.trans {deep:Int} {L L1 L2:List Loc} (h1:Ext deep L L1) (h2:Ext deep L1 L2):Ext deep L L2:=by
 obtain ⟨M1,rfl,g1⟩:=h1;obtain ⟨M2,rfl,g2⟩:=h2;refine ⟨M1++M2,by simp,fun m hm=>?_⟩;rcases List.mem_append.1 hm with h | h
 ·exact g1 m h
 ·exact g2 m h
theorem Ext.lab {deep:Int} {L L':List Loc} (h:Ext deep L L') (hL:xD L):xD L':=by
 obtain ⟨M,rfl,g⟩:=h;intro l hl;rcases List.mem_append.1 hl with h | h
 ·exact hL l h
 ·exact (g l h).2
theorem Ext.take {deep:Int} {L L':List Loc} (h:Ext deep L L'):L'.take L.length=L:=by
 obtain ⟨M,rfl,g⟩:=h;simp
theorem Ext.len {deep:Int} {L L':List Loc} (h:Ext deep L L'):L.length<=L'.length:=by
 obtain ⟨M,rfl,g⟩:=h;simp
theorem fG (l:Bool):Lab (bI l):=by
 cases l;·exact .inl rfl
 ·exact .inr rfl
theorem xC (k:Int) (x:ByteArray) (m:Int) (ks:List Tree):kB (.node k x m ks)=kA ks+1:=by
 unfold kB;rfl
theorem uX (t:Tree):kA [t]=kB t:=by
 show kB t+kA []=_;simp [kA]
section
variable (E:Env) (p:Pr)
theorem zwz {L:List Loc} {ctx deep:Int} {last:Bool} {k:Int} {x:ByteArray} {m:Int} {ks:List Tree} {a:Int} {q:List Loc × Int} (hs:StT (.node k x m ks)) (hk:¬ (k=10\/k=11)) (h:uS E p L ctx deep last k x m ks a=.ok q):Ext deep L q.1/\q.2=a+kB (.node k x m ks)/\(L.length<=20->q.1.length<=20):=by
 rw [xC];unfold uS at h
 cases hs with
 | loc l hx he =>
  rw [jv rfl] at h;split at h;·cases h
  ·rename_i s hq;have:=(cZ E L ctx _ _ _ hq).1;split at h;·cases h
   ·split at h;·cases h
    ·split at h;·cases h
     ·cases h;refine ⟨⟨_,rfl,fun m hm=>?_⟩,by show s.2=_;omega,fun _=>by simp;omega⟩;simp only [jy] at hm;subst hm
      exact ⟨rfl,fG l⟩
 | set hp he =>
  rw [ju (by decide),jv rfl] at h;dsimp only at h;split at h;·cases h
  ·rename_i s hq;have h1:=zm2 hq;split at h;·cases h
   ·rename_i s2 hq2;have h2:=dW E L ctx _ _ _ _ hq2;split at h;·cases h
    ·cases h;refine ⟨Ext.refl _ _,?_,id⟩;show s2.2=_;show _=a+(kB _+(kB _+kA [])+1)
     simp only [kA]
     omega
 | dd hc =>
  rw [ju (by decide),ju (by decide),jv rfl] at h;dsimp only at h;split at h;·cases h
  ·rename_i s hq;have h1:=dW E L ctx _ _ _ _ hq;cases h;refine ⟨Ext.refl _ _,?_,id⟩;show s.2=_;rw [uX]
   omega
 | ift _ _=>exact absurd (.inl rfl) hk
 | ife _ _ _=>exact absurd (.inl rfl) hk
 | whi _ _=>exact absurd (.inr rfl) hk
 | out l he =>
  rw [ju (by decide),ju (by decide),ju (by decide),jv rfl] at h;split at h;·cases h
  ·rename_i s hq;have:=(cZ E L ctx _ _ _ hq).1;split at h;·cases h
   ·cases h
    exact ⟨Ext.refl _ _,by show s.2=_;omega,id⟩
 | inn l hp =>
  rw [ju (by decide),ju (by decide),ju (by decide),ju (by decide),jv rfl] at h;dsimp only at h;split at h;·cases h
  ·rename_i s hq;have h1:=zm2 hq;split at h;·cases h
   ·split at h;·cases h
    ·cases h;refine ⟨Ext.refl _ _,?_,id⟩;show s.2.2=_;rw [uX]
     omega
 | ret he =>
  rw [ju (by decide),ju (by decide),ju (by decide),ju (by decide),ju (by decide)] at h;split at h;·cases h
  ·rename_i s hq;have:=(cZ E L ctx _ _ _ hq).1;split at h;·cases h
   ·split at h;·cases h
    ·cases h;exact ⟨Ext.refl _ _,by show s.2=_;omega,id⟩
theorem StT.blocks {k:Int} {x:ByteArray} {m:Int} {e:Tree} {r:List Tree} (h:StT (.node k x m (e :: r))) (hk:k=10\/k=11):ExT e/\∀ t∈r,BlT t:=by
 cases h with
 | loc l hx he=>omega
 | set hp he=>omega
 | dd hc=>omega
 | ift he hb=>exact ⟨he,fun t ht=>by simp only [jy] at ht;subst ht;exact hb⟩
 | ife he hb hc=>exact ⟨he,fun t ht=>by
   simp only [List.mem_cons,List.not_mem_nil,or_false] at ht;rcases ht with rfl | rfl
   ·exact hb
   ·exact hc⟩
 | whi he hb=>exact ⟨he,fun t ht=>by simp only [jy] at ht;subst ht;exact hb⟩
 | out l he=>omega
 | inn l hp=>omega
 | ret he=>omega
theorem StT.some_kid {k:Int} {x:ByteArray} {m:Int} (h:StT (.node k x m [])):False:=by cases h
mutual
theorem zgg:∀ (t:Tree) (ctx deep:Int) (last:Bool) (L:List Loc) (a:Int) (q:List Loc × Int),StT t->stF E p ctx deep last t L a=.ok q->Ext deep L q.1/\q.2=a+kB t/\(L.length<=20->q.1.length<=20)
 | .node k x m [],ctx,deep,last,L,a,q,hs,h=>hs.some_kid.elim
 | .node k x m (e :: r),ctx,deep,last,L,a,q,hs,h=>by
  unfold stF at h;split at h
  ·rename_i hk;dsimp only at h;split at h;·cases h
   ·rename_i s hq;have h1:=dW E L ctx _ _ _ _ hq;have h2:=zmp r _ _ _ _ _ (hs.blocks hk).2 h;rw [h2.1,h2.2,xC];refine ⟨Ext.refl _ _,?_,id⟩;show _=a+(kB e+kA r+1)
    omega
  ·rename_i hk;exact zwz E p hs hk h
theorem zmp:∀ (ks:List Tree) (ctx deep:Int) (L:List Loc) (a:Int) (q:List Loc × Int),(∀ t∈ks,BlT t)->vE E p ctx deep ks L a=.ok q->q.1=L/\q.2=a+kA ks
 | [],ctx,deep,L,a,q,hs,h=>by
  simp only [vE,Res.ok.injEq] at h;rw [<- h]
  exact ⟨rfl,by simp [kA]⟩
 | t :: r,ctx,deep,L,a,q,hs,h=>by
  unfold vE at h;split at h;·cases h
  ·rename_i s hq;have h1:=znq t _ _ _ _ _ (hs t (jJ ..)) hq;have h2:=zmp r _ _ _ _ _ (fun t ht=>hs t (jF _ ht)) h;rw [h2.1,h2.2,h1.1,h1.2];refine ⟨rfl,?_⟩;show _=a+(kB t+kA r)
   omega
theorem znq:∀ (t:Tree) (ctx deep:Int) (L:List Loc) (a:Int) (q:List Loc × Int),BlT t->blF E p ctx deep t L a=.ok q->q.1=L/\q.2=a+kB t
 | .node k x m ks,ctx,deep,L,a,q,hs,h=>by
  unfold blF at h;split at h;·cases h
  ·rename_i s hq;have h1:=zf4 ks _ _ _ _ _ (by cases hs with | mk h=>exact h) hq;cases h;refine ⟨h1.1.take,?_⟩;show s.2=_;rw [h1.2.1,xC];omega
theorem zf4:∀ (ks:List Tree) (ctx deep:Int) (L:List Loc) (a:Int) (q:List Loc × Int),(∀ t∈ks,StT t)->yG E p ctx deep ks L a=.ok q->Ext deep L q.1/\q.2=a+kA ks/\(L.length<=20->q.1.length<=20)
 | [],ctx,deep,L,a,q,hs,h=>by
  simp only [yG,Res.ok.injEq] at h;rw [<- h]
  exact ⟨Ext.refl _ _,by simp [kA],id⟩
 | t :: r,ctx,deep,L,a,q,hs,h=>by
  unfold yG at h;split at h;·cases h
  ·rename_i s hq;have h1:=zgg t _ _ _ _ _ _ (hs t (jJ ..)) hq;have h2:=zf4 r _ _ _ _ _ (fun t ht=>hs t (jF _ ht)) h;refine ⟨h1.1.trans h2.1,?_,fun h=>h2.2.2 (h1.2.2 h)⟩;rw [h2.2.1,h1.2.1];show _=a+(kB t+kA r)
   omega
end
def zE (ctx deep:Int):List Tree->List Loc->Int->Res (List Loc × Int)
 | [],L,a=>.ok (L,a)
 | t :: r,L,a=>match stF E p ctx deep false t L a with
  | .bad c b=>.bad c b
  | .ok q=>zE ctx deep r q.1 q.2
theorem zmi (ctx deep:Int) (hd:deep≠1):∀ (ks:List Tree) (L:List Loc) (a:Int),yG E p ctx deep ks L a=zE E p ctx deep ks L a
 | [],L,a=>by simp only [yG,zE]
 | t :: r,L,a=>by
  unfold yG zE;rw [show (decide (deep=1)&&r.isEmpty)=false by simp [hd]];split;·rename_i h;rw [h]
  ·rename_i q h;rw [h];exact zmi ctx deep hd r _ _
theorem zj9 (ctx deep:Int) (last:Bool) (k:Int) (x:ByteArray) (m:Int) (ks:List Tree) (L:List Loc) (a:Int) (hs:StT (.node k x m ks)) (h:p.gives=false\/k≠14):stF E p ctx deep last (.node k x m ks) L a=stF E p ctx deep false (.node k x m ks) L a:=by
 unfold stF;split;·rfl
 ·rename_i hk;unfold uS
  cases hs with
  | ift _ _=>exact absurd (.inl rfl) hk
  | ife _ _ _=>exact absurd (.inl rfl) hk
  | whi _ _=>exact absurd (.inr rfl) hk
  | ret he =>
   have hg:p.gives=false:=by
    rcases h with h | h
    ·exact h
    ·exact absurd rfl h
   rw [hg]
   simp
  | _=>rfl
theorem zjl (ctx:Int) (hg:p.gives=false):∀ (ks:List Tree) (L:List Loc) (a:Int),(∀ t∈ks,StT t)->yG E p ctx 1 ks L a=zE E p ctx 1 ks L a
 | [],L,a,_=>by simp only [yG,zE]
 | .node k x m ks :: r,L,a,hs=>by
  unfold yG zE;rw [zj9 E p ctx 1 _ k x m ks L a (hs _ (jJ ..)) (.inl hg)];split;·rename_i h;rw [h]
  ·rename_i q h;rw [h];exact zjl ctx hg r _ _ (fun t ht=>hs t (jF _ ht))
def vF:List Tree->Bool
 | []=>false
 | [.node k _ _ _]=>k==14
 | _ :: t :: r=>vF (t :: r)
theorem zia (ctx:Int):∀ (ks:List Tree) (L:List Loc) (a:Int),(∀ t∈ks,StT t)->vF ks=false->yG E p ctx 1 ks L a=zE E p ctx 1 ks L a
 | [],L,a,_,_=>by simp only [yG,zE]
 | [.node k x m ks],L,a,hs,hr=>by
  have hk:k≠14:=by
   intro e;subst e;simp [vF] at hr
  unfold yG zE;rw [zj9 E p ctx 1 _ k x m ks L a (hs _ (jJ ..)) (.inr hk)];split;·rename_i h;rw [h]
  ·rename_i q h;rw [h];simp only [yG,zE]
 | t :: t2 :: r,L,a,hs,hr=>by
  unfold yG zE;rw [show (decide ((1:Int)=1)&&(t2 :: r).isEmpty)=false by simp];split;·rename_i h;rw [h]
  ·rename_i q h;rw [h];exact zia ctx (t2 :: r) _ _ (fun t ht=>hs t (jF _ ht)) (by simpa [vF] using hr)
theorem zlo (ctx:Int) (z:Tree):∀ (ks:List Tree) (L:List Loc) (a:Int),yG E p ctx 1 (ks++[z]) L a=match zE E p ctx 1 ks L a with
  | .bad c b=>.bad c b
  | .ok q=>stF E p ctx 1 true z q.1 q.2
 | [],L,a=>by
  show yG E p ctx 1 [z] L a=_;unfold yG zE;rw [show (decide ((1:Int)=1)&&([]:List Tree).isEmpty)=true by simp];dsimp only
  cases hX:stF E p ctx 1 true z L a with
  | bad c b=>rfl
  | ok q=>simp only [yG]
 | t :: r,L,a=>by
  show yG E p ctx 1 (t :: (r++[z])) L a=_;unfold yG zE;rw [show (decide ((1:Int)=1)&&(r++[z]).isEmpty)=false by simp]
  cases stF E p ctx 1 false t L a with
  | bad c b=>rfl
  | ok q=>exact zlo ctx z r _ _
theorem zga:∀ (ks:List Tree) (ctx deep:Int) (L:List Loc) (a:Int) (q:List Loc × Int),(∀ t∈ks,StT t)->zE E p ctx deep ks L a=.ok q->Ext deep L q.1/\q.2=a+kA ks/\(L.length<=20->q.1.length<=20)
 | [],ctx,deep,L,a,q,hs,h=>by
  simp only [zE,Res.ok.injEq] at h;rw [<- h]
  exact ⟨Ext.refl _ _,by simp [kA],id⟩
 | t :: r,ctx,deep,L,a,q,hs,h=>by
  unfold zE at h;split at h;·cases h
  ·rename_i s hq;have h1:=zgg E p t _ _ _ _ _ _ (hs t (jJ ..)) hq;have h2:=zga r _ _ _ _ _ (fun t ht=>hs t (jF _ ht)) h;refine ⟨h1.1.trans h2.1,?_,fun h=>h2.2.2 (h1.2.2 h)⟩;rw [h2.2.1,h1.2.1];show _=a+(kB t+kA r)
   omega
end
structure InvL (L:List Loc) (deep:Int) (first:Nat):Prop where
 le:first<=L.length
 out:∀ l∈L.take first,l.deep<deep
 inn:∀ l∈L.drop first,l.deep=deep
theorem InvL.any {L:List Loc} {deep:Int} {first:Nat} (h:InvL L deep first) (x:ByteArray):L.any (fun l=>l.deep==deep&&eqS l.name x)=((kN L).drop first).any (fun o=>eqS o.name x):=by
 have h1:L.any (fun l=>l.deep==deep&&eqS l.name x)=(L.take first++L.drop first).any (fun l=>l.deep==deep&&eqS l.name x):=by rw [List.take_append_drop]
 rw [h1,List.any_append]
 have h2:(L.take first).any (fun l=>l.deep==deep&&eqS l.name x)=false:=by
  rw [List.any_eq_false];intro l hl;have:=h.out l hl;have h3:(l.deep==deep)=false:=by simp;omega
  simp [h3]
 rw [h2,Bool.false_or];unfold kN;rw [<- List.map_drop,List.any_map];have h4:∀ l∈L.drop first,(l.deep==deep&&eqS l.name x)=eqS l.name x:=fun l hl=>by simp [h.inn l hl]
 generalize L.drop first=M at h4
 clear h1 h2 h
 induction M with
 | nil=>rfl
 | cons y r ih =>
  rw [List.any_cons,List.any_cons,ih (fun l hl=>h4 l (jF _ hl)),h4 y (jJ ..)];rfl
theorem InvL.ext {L L':List Loc} {deep:Int} {first:Nat} (h:InvL L deep first) (he:Ext deep L L'):InvL L' deep first:=by
 obtain ⟨M,rfl,g⟩:=he;refine ⟨by have:=h.le;simp;omega,?_,?_⟩;·rw [List.take_append_of_le_length h.le];exact h.out
 ·rw [List.drop_append_of_le_length h.le];intro l hl;rcases List.mem_append.1 hl with h1 | h1
  ·exact h.inn l h1
  ·exact (g l h1).1
theorem InvL.enter {L:List Loc} {deep:Int} {first:Nat} (h:InvL L deep first):InvL L (deep+1) L.length:=by
 refine ⟨jE _,?_,?_⟩
 ·intro l hl;rw [List.take_length] at hl;rw [<- List.take_append_drop first L] at hl;rcases List.mem_append.1 hl with h1 | h1
  ·have:=h.out l h1;omega
  ·have:=h.inn l h1;omega
 ·intro l hl;rw [List.drop_length] at hl;cases hl
end Go.Proofs.YtaadmdlbkhcfnaaGreatDoor.chk
namespace Go.Proofs.YtaadmdlbkhcfnaaGreatDoor.chk
open Go.RowKit Go.Shelf
open syn face
structure FrU (D:Nat) (u u':Value) (w w':World):Prop where
 size:w.heap.size<=w'.heap.size
 block:∀ b,b<w.heap.size->b≠D->u.ownBlock≠some b->w'.heap[b]?=w.heap[b]?
 own:∀ b,u'.ownBlock=some b->u.ownBlock=some b\/w.heap.size<=b
section
variable {D:Nat} {u u1 u2:Value} {w w1 w2:World}
theorem FrU.refl (D:Nat) (u:Value) (w:World):FrU D u u w w:=⟨jE _,fun _ _ _ _=>rfl,fun _ e=>.inl e⟩
theorem FrU.trans (h:FrU D u u1 w w1) (g:FrU D u1 u2 w1 w2):FrU D u u2 w w2:=by
 refine ⟨jp h.size g.size,fun b h1 h2 h3=>?_,fun b e=>?_⟩
 ·refine (g.block b (jo h1 h.size) h2 (fun e=>?_)).trans (h.block b h1 h2 h3);rcases h.own b e with h4 | h4
  ·exact h3 h4
  ·omega
 ·rcases g.own b e with h4 | h4
  ·exact h.own b h4
  ·exact .inr (jp h.size h4)
theorem FrU.of (h:Fr D w w1) (u:Value):FrU D u u w w1:=⟨h.size,fun b h1 h2 _=>h.block b h1 (fun e=>h2 (by cases e;rfl)),fun _ e=>.inl e⟩
theorem FrU.below (h:Below w.heap.size w w1) (D:Nat) (u:Value):FrU D u u w w1:=⟨h.size,fun b h1 _ _=>h.block b h1,fun _ e=>.inl e⟩
theorem FrU.alloc (h:FrU D u u1 w w1) (o:Obj):FrU D u u1 w (w1.alloc o):=h.trans (.below (bal o) D u1)
theorem FrU.drew (h:FrU D u u1 w w1):FrU D u u1 w w1.drew:=h.trans (.below (Below.refl _ _).drew D u1)
theorem FrU.cell {b o:Nat} (h:FrU D u u1 w w1) (h1:b<w.heap.size) (h2:b≠D) (h3:u.ownBlock≠some b):w1.cell? ⟨b,o,none⟩=w.cell? ⟨b,o,none⟩:=jM (a:=⟨b,o,none⟩) (h.block b h1 h2 h3)
theorem FrU.set (h:FrU D u u1 w w1) (o:Nat) (v:Value) (hs:∀ b,u2.ownBlock=some b->u1.ownBlock=some b):FrU D u u2 w (w1.setCell ⟨D,o,none⟩ v) :=
 h.trans ⟨by rw [jQ];exact jE _,fun b _ h2 _=>jP w1 ⟨D,o,none⟩ v b h2,fun b e=>.inl (hs b e)⟩
end
def SR (w0:World) (D Kb kn:Nat) (kf:KF) (u:Value) (w:World) (r:Res (List Loc × Int)) (e:Ending) (w':World):Prop:=match r with
 | .bad c b=>e=.panicked (qS c b)/\Below w0.heap.size w0 w'
 | .ok q=>e=.returned (.tuple #[])/\∃ u',CS w0 w' D Kb kn kf (kN q.1) u' q.2/\FrU D u u' w w'
section
variable (E:Env) (p:Pr) (w0:World) (D Kb kn:Nat) (kf:KF)
def dL (t:Tree):Prop:=∀ (ctx deep:Int) (first:Nat) (L:List Loc) (u v:Value) (w:World) (at_:Int),kC (·<w0.heap.size) w0 t v->InvL L deep first->xD L->L.length<=20->Lab ctx->1<=deep->CS w0 w D Kb kn kf (kN L) u at_->0<=at_->at_+kB t<=1000000 ->
 Calls Tryz.prog 89 #[.pointer (some ⟨D,0,none⟩),v,.agg #[.int .i64 ctx,.int .i64 (first:Int)]] w (SR w0 D Kb kn kf u w (stF E p ctx deep false t L at_))
def zgd (ks:List Tree):Prop:=∀ (ctx deep:Int) (first:Nat) (L:List Loc) (u:Value) (a:Option Addr) (c:Nat) (w:World) (at_:Int),(ks≠[]->∃ g o,a=some ⟨g,o,none⟩/\g<w0.heap.size/\kY (·<w0.heap.size) w0 ks g o)->InvL L deep first->xD L->L.length<=20->Lab ctx->1<=deep->CS w0 w D Kb kn kf (kN L) u at_->0<=at_->at_+kA ks<=1000000 ->
 Calls Tryz.prog 69 #[.pointer (some ⟨D,0,none⟩),.slice a ks.length c,.agg #[.int .i64 ctx,.int .i64 (first:Int)]] w (SR w0 D Kb kn kf u w (zE E p ctx deep ks L at_))
def zgk (t:Tree):Prop:=∀ (ctx deep:Int) (first:Nat) (L:List Loc) (u v:Value) (w:World) (at_:Int),kC (·<w0.heap.size) w0 t v->InvL L deep first->xD L->L.length<=20->Lab ctx->1<=deep->CS w0 w D Kb kn kf (kN L) u at_->0<=at_->at_+kB t<=1000000 ->
 Calls Tryz.prog 108 #[.pointer (some ⟨D,0,none⟩),v,.int .i64 ctx] w (SR w0 D Kb kn kf u w (blF E p ctx (deep+1) t L at_))
end
section
variable {E:Env} {p:Pr} {w0:World} {D Kb kn:Nat} {kf:KF} {u:Value}
theorem SR.mkBad {w w':World} {r:Res (List Loc × Int)} {c b:Int} (h:r=.bad c b) (hb:Below w0.heap.size w0 w'):SR w0 D Kb kn kf u w r (.panicked (qS c b)) w':=by rw [h];exact ⟨rfl,hb⟩
theorem SR.mkOk {w w':World} {r:Res (List Loc × Int)} {L:List Loc} {a:Int} {u':Value} (h:r=.ok (L,a)) (hc:CS w0 w' D Kb kn kf (kN L) u' a) (hf:FrU D u u' w w'):SR w0 D Kb kn kf u w r (.returned (.tuple #[])) w':=by rw [h];exact ⟨rfl,u',hc,hf⟩
theorem zsc (E:Env) (p:Pr) (ctx deep:Int) (ks:List Tree) (j:Nat) (hj:j<ks.length) (L:List Loc) (a:Int):zE E p ctx deep (ks.drop j) L a=match stF E p ctx deep false ks[j] L a with
  | .bad c b=>.bad c b
  | .ok q=>zE E p ctx deep (ks.drop (j+1)) q.1 q.2:=by
 rw [List.drop_eq_getElem_cons hj];rfl
theorem zm4 (ks:List Tree) (hst:∀ t∈ks,StT t) (ih:∀ j (hj:j<ks.length),dL E p w0 D Kb kn kf ks[j]):zgd E p w0 D Kb kn kf ks:=by
 intro ctx deep first L u a c w at_ hk hInv hLab h20 hctx hdeep h h0 hm
 have c24:=kc25;have c2:=kc127;have hlen:=len_cnt ks;obtain ⟨R,hR⟩:∃ R,zE E p ctx deep ks L at_=R:=⟨_,rfl⟩
 rw [hR];have HR:Hid (zE E p ctx deep ks L at_=R):=hR;clear hR;have hub:u.ownBlock≠some w.heap.size:=fun e=>by have:=(h.rl.lt _ e).2;omega
 have hd:=h.lt;have hI0:=h.alloc (.cells #[.int .i64 ctx,.int .i64 (first:Int)] 127);have hf0:=(FrU.refl D u w).alloc (.cells #[.int .i64 ctx,.int .i64 (first:Int)] 127);have b0:(w.alloc (.cells #[.int .i64 ctx,.int .i64 (first:Int)] 127)).cell? ⟨w.heap.size,0,none⟩=some (.int .i64 ctx):=by simp
 have b1:(w.alloc (.cells #[.int .i64 ctx,.int .i64 (first:Int)] 127)).cell? ⟨w.heap.size,1,none⟩=some (.int .i64 (first:Int)):=by simp
 have hsz:w.heap.size<(w.alloc (.cells #[.int .i64 ctx,.int .i64 (first:Int)] 127)).heap.size:=by simp
 go_enter Tryz.func69,Tryz.ntmps69;go_wp2;generalize w.alloc (.cells #[.int .i64 ctx,.int .i64 (first:Int)] 127)=W1 at *;go_loopw [10] (fun t wr=>∃ (j:Nat) (L':List Loc) (u':Value),j<=ks.length/\t=.int .i64 j/\Hid (Ext deep L L')/\Hid (L'.length<=20)/\CS w0 wr D Kb kn kf (kN L') u' (at_+kA (ks.take j))/\FrU D u u' W1 wr/\Hid (R=zE E p ctx deep (ks.drop j) L' (at_+kA (ks.take j)))) (fun t _=>ks.length - (intOf t).toNat)
 case atStart =>
  refine ⟨0,L,u,jz _,rfl,Ext.refl _ _,h20,by simpa [kA] using hI0,FrU.refl _ _ _,?_⟩;show _=_;rw [<- HR.out,List.drop_zero];simp only [List.take_zero,kA,Int.add_zero]
 case round =>
  clear hI0;obtain ⟨j,L',u',hj,rfl,HE,H20,hI,hFr,HRR⟩:=hrel;have z0:=(hFr.cell (o:=0) hsz (by omega) hub).trans b0;have z1:=(hFr.cell (o:=1) hsz (by omega) hub).trans b1;by_cases hlt:j<ks.length
  ·obtain ⟨g,o,rfl,hg,hat⟩:=hk (by intro e;rw [e] at hlt;simp at hlt);obtain ⟨v1,⟨x0,x1,x2,x3,rfl,c0,c1',c2',c3⟩,hlk⟩:=hat.get j hlt;obtain ⟨kk,xx,mm,_,he,aa,na,ca,rfl⟩:=hlk.shape;injection he with he;simp only [Array.mk.injEq,jq,and_true] at he;obtain ⟨rfl,rfl,rfl,rfl⟩:=he;have k0:=(hI.bs.cell (p:=⟨g,o+j*4,none⟩) hg).trans c0;have k1:=(hI.bs.cell (p:=⟨g,o+j*4+1,none⟩) hg).trans c1';have k2:=(hI.bs.cell (p:=⟨g,o+j*4+2,none⟩) hg).trans c2';have k3:=(hI.bs.cell (p:=⟨g,o+j*4+3,none⟩) hg).trans c3;have hs1:=cntL_take ks j hlt;have hs2:=fA ks (j+1);have hs3:=kR ks[j];have hs4:=kX (ks.take j);have hI1:=hI.alloc (.cells #[.int .i64 kk,.string xx,.int .i64 mm,.slice aa na ca] 25);have hFr1:=hFr.alloc (.cells #[.int .i64 kk,.string xx,.int .i64 mm,.slice aa na ca] 25);have z0':=(hFr1.cell (o:=0) hsz (by omega) hub).trans b0;have z1':=(hFr1.cell (o:=1) hsz (by omega) hub).trans b1;have hC:=ih j hlt ctx deep first L' u' _ _ _ hlk (hInv.ext HE.out) (HE.out.lab hLab) H20.out hctx hdeep hI1 (by omega) (by omega)
   have HP:Hid (R=match stF E p ctx deep false ks[j] L' (at_+kA (ks.take j)) with
     | .bad c b=>.bad c b
     | .ok q=>zE E p ctx deep (ks.drop (j+1)) q.1 q.2):=HRR.out.trans (zsc E p ctx deep ks j hlt L' _)
   have HA:Hid (∀ q,stF E p ctx deep false ks[j] L' (at_+kA (ks.take j))=.ok q->Ext deep L' q.1/\q.2=at_+kA (ks.take (j+1))/\q.1.length<=20):=fun q hq=>by
    obtain ⟨h1,h2,h3⟩:=zgg E p _ _ _ _ _ _ _ (hst _ (jH hlt)) hq;exact ⟨h1,by omega,h3 H20.out⟩
   clear c0 c1' c2' c3 hat hlk hk HRR hs1 hs2 hs3 hs4 ih;generalize hXX:stF E p ctx deep false ks[j] L' (at_+kA (ks.take j))=X at *;have HA2:Hid (∀ q,X=.ok q->Ext deep L' q.1/\q.2=at_+kA (ks.take (j+1))/\q.1.length<=20):=fun q hq=>HA.out q hq
   clear hXX HA
   cases X with
   | bad cc bb =>
    have HRB:Hid (R=.bad cc bb):=HP.out;go_wp2_with (go_at_call 89;refine hC.mono ?_;rintro e w2 ⟨rfl,hb2⟩)
    exact ⟨rfl,SR.mkBad HRB.out hb2⟩
   | ok q =>
    have HRO:Hid (R=zE E p ctx deep (ks.drop (j+1)) q.1 q.2):=HP.out;obtain ⟨g1,g2,g3⟩:=HA2.out q rfl;obtain ⟨L2,a2⟩:=q;dsimp only at g1 g2 g3 hC;subst g2;have HE2:Hid (Ext deep L L2):=HE.out.trans g1;have H202:Hid (L2.length<=20):=g3;clear g1 g3;go_wp2_with (go_at_call 89;refine hC.mono ?_;rintro e w2 ⟨rfl,u2,hI2,hf2⟩);exact ⟨⟨j+1,L2,u2,by omega,by simp,HE2,H202,hI2,hFr1.trans hf2,HRO.out⟩,by simp [intOf];omega⟩
  ·obtain rfl:j=ks.length:=by omega
   have HX:Hid (R=.ok (L',at_+kA ks)):=by
    show _=_;rw [HRR.out,List.drop_eq_nil_of_le (by omega),jG (by omega)];rfl
   rw [jG (by omega)] at hI;clear ih hk HRR;go_wp2
   go_end0
   exact SR.mkOk HX.out hI (hf0.trans hFr)
end
def kJ (W:World) (B:Nat) (cs:Array Value) (T:TypeId):Prop:=W.heap[B]?=some (.cells cs T (0,0))
section
variable {W W':World} {B D:Nat} {cs:Array Value} {T:TypeId} {u u':Value}
theorem kJ.lt (h:kJ W B cs T):B<W.heap.size:=(Array.getElem?_eq_some_iff.1 h).1
theorem kJ.new (W:World) (cs:Array Value) (T:TypeId):kJ (W.alloc (.cells cs T)) W.heap.size cs T:=World.alloc_heap_new W _
theorem kJ.fr (h:kJ W B cs T) (hf:FrU D u u' W W') (h1:B≠D) (h2:u.ownBlock≠some B):kJ W' B cs T:=(hf.block B h.lt h1 h2).trans h
theorem kJ.below (h:kJ W B cs T) (hb:Below W.heap.size W W'):kJ W' B cs T:=(hb.block B h.lt).trans h
theorem kJ.grown {row:Option Nat} (h:kJ W B cs T) (hg:W.grownBy W' row) (hne:row≠some B):kJ W' B cs T:=(hg.block B h.lt (fun e=>hne e.symm)).trans h
theorem kJ.alloc (h:kJ W B cs T) (o:Obj):kJ (W.alloc o) B cs T:=h.below (bal o)
theorem kJ.other (h:kJ W B cs T) {b o:Nat} (hne:B≠b) (v:Value):kJ (W.setCell ⟨b,o,none⟩ v) B cs T:=(jP W ⟨b,o,none⟩ v B hne).trans h
theorem kJ.set (h:kJ W B cs T) (i:Nat) (v:Value):kJ (W.setCell ⟨B,i,none⟩ v) B (cs.setIfInBounds i v) T:=heap_setCell_same W B i cs T v h
theorem kJ.cell (h:kJ W B cs T) (i:Nat) {v:Value} (hv:cs[i]?=some v):W.cell? ⟨B,i,none⟩=some v:=by
 simp [World.cell?,show W.heap[B]?=_ from h,hv]
theorem kJ.fz (h:kJ W B cs T) (i:Nat):W.frozen? ⟨B,i,none⟩=false:=by
 simp [World.frozen?,show W.heap[B]?=_ from h]
end
end Go.Proofs.YtaadmdlbkhcfnaaGreatDoor.chk
namespace Go.Proofs.YtaadmdlbkhcfnaaGreatDoor.pr
open Go.RowKit Go.Shelf
open syn face chk
open lexs (qP)
structure WR (w:World) (r:Nat) (v:Value) (ws:List ByteArray):Prop where
 box:kJ w r #[v] 75
 row:w.ownsRow (r+1) 9 1 v ws.length (yF ws)
section
variable {w w':World} {r:Nat} {v v':Value} {ws:List ByteArray}
theorem WR.lt (h:WR w r v ws):r<w.heap.size:=h.box.lt
theorem WR.below (h:WR w r v ws) (hb:Below w.heap.size w w'):WR w' r v ws:=⟨h.box.below hb,h.row.kept (za7 hb) (by cases v.ownBlock<;>simp)⟩
theorem WR.alloc (h:WR w r v ws) (o:Obj):WR (w.alloc o) r v ws:=h.below (bal o)
theorem WR.shape (h:WR w r v ws):∃ a c,v=.slice a ws.length c:=by
 obtain ⟨a,c,e,_⟩:=zu8 h.row;exact ⟨a,c,e⟩
def WE (r:Nat) (w:World) (v:Value) (ws o:List ByteArray) (e:Ending) (w':World):Prop :=
 e=.returned (.tuple #[])/\∃ v',WR w' r v' (ws++o)/\FrU r v v' w w'/\Below r w w'
theorem zg7 (h:WR w r v ws) (l:List ByteArray) (a:Addr) (c:Nat) (hl:0<l.length) (hn:ws.length+l.length<=1000000) (hc:∀ j u,(yF l)[j]?=some u->w.cell? (a.add j)=some u) : Calls Tryz.prog 44 #[.pointer (some ⟨r,0,none⟩),.slice (some a) l.length c] w (WE r w v ws l):=by
 obtain ⟨i0,hi,hz0,hz1,hz2⟩:=info_parts zod;obtain ⟨va,vc,rfl⟩:=h.shape;have m0:=h.box.cell 0 rfl;have hlt:=h.lt;go_enter Tryz.func44,Tryz.ntmps44;go_wp2_with (at_builtin;refine wpList_append_lies _ rfl (.tmp 8) (.tmp 9) 44 rfl (r+1) 9 i0 (.string ⟨#[]⟩) 1 16 Tryz.underlying44 hi hz0 hz1 hz2 rfl (by decide) _ _ _ rfl h.row a l.length c (yF l) rfl (by simp [yF]) hc (by intro u hu;obtain ⟨y,_,rfl⟩:=List.mem_map.1 hu;rfl) hl (by unfold maxLen;omega) (by omega) (by omega) _ rfl ?_;intro g5 cap5 w5 hown5 hgrow5 hat5 hlt5;have hb5:=h.box.grown hgrow5 (fun e=>by have:=(h.row.lt _ e).1;omega);have y0:=hb5.cell 0 rfl;have y1:=hb5.fz 0)
 go_end0
 refine ⟨rfl,.slice (some ⟨g5,0,none⟩) (ws.length+l.length) cap5,⟨?_,?_⟩,?_,((Below.refl r w).grown hgrow5 (by omega) (fun k e=>by have:=(h.row.lt _ e).1;omega)).setCell (Nat.le_refl r) _⟩;·have:=hb5.set 0 (.slice (some ⟨g5,0,none⟩) (ws.length+l.length) cap5);simpa using this
 ·have:=jU (a:=⟨r,0,none⟩) hown5 (fun e=>by have:=(hown5.lt _ e).1;show False;have e2:r+1<=r:=this;omega) (.slice (some ⟨g5,0,none⟩) (ws.length+l.length) cap5);rw [jb,show yF (ws++l)=yF ws++yF l from List.map_append];exact this
 ·refine ⟨?_,fun b h1 h2 h3=>?_,fun b e=>?_⟩;·have:=hgrow5.size;simpa using this
  ·exact (jP w5 ⟨r,0,none⟩ _ b h2).trans (hgrow5.block b h1 (fun e=>h3 e.symm))
  ·simp [Value.ownBlock] at e;subst e;exact hat5.imp id (fun e=>Nat.le_of_eq e.symm)
theorem zdd (w:World) (l:List ByteArray):∀ j u,(yF l)[j]?=some u->(w.alloc (.cells (yF l).toArray 9)).cell? ((⟨w.heap.size,0,none⟩:Addr).add j)=some u:=by
 have:=xF w (yF l).toArray 9 w.heap.size rfl;simpa using this
theorem WE.near {r:Nat} {w:World} {v:Value} {ws o:List ByteArray} {ob:Obj} {e:Ending} {w':World} (hr:r<=w.heap.size) (h:WE r (w.alloc ob) v ws o e w'):WE r w v ws o e w':=by
 obtain ⟨h1,v',h2,h3,h4⟩:=h;exact ⟨h1,v',h2,((FrU.refl r v w).alloc ob).trans h3,((Below.refl r w).alloc hr ob).trans h4⟩
theorem vB (h:WR w r v ws) (x:ByteArray) (hn:ws.length<=900000) : Calls Tryz.prog 44 #[.pointer (some ⟨r,0,none⟩),.slice (some ⟨w.heap.size,0,none⟩) 1 1] (w.alloc (.cells #[.string x] 9)) (WE r w v ws [x]) :=
 (zg7 (h.alloc _) [x] ⟨w.heap.size,0,none⟩ 1 (by simp) (by simp;omega) (zdd w [x])).mono fun e w' g=>g.near (ji h.lt)
theorem zi4 (h:WR w r v ws) (m:Int) (hn:ws.length<=900000) : Calls Tryz.prog 74 #[.pointer (some ⟨r,0,none⟩),.int .i64 m] w (WE r w v ws [kO m]):=by
 by_cases hm:m=1
 ·subst hm;have hc:=vB h ⟨#[104,105,103,104]⟩ hn;go_enter Tryz.func74,Tryz.ntmps74;go_wp2_with (go_at_call 44;refine hc.mono ?_;rintro e w2 ⟨rfl,v2,hW,hF,hG⟩)
  go_end0
  exact ⟨rfl,v2,hW,hF,hG⟩
 ·have hc:=vB h ⟨#[108,111,119]⟩ hn;have e:kO m=⟨#[108,111,119]⟩:=ju hm;go_enter Tryz.func74,Tryz.ntmps74;go_wp2_with (go_at_call 44;refine hc.mono ?_;rintro e w2 ⟨rfl,v2,hW,hF,hG⟩)
  go_end0
  exact ⟨rfl,v2,by rw [e];exact hW,hF,hG⟩
def WoE (w:World) (x:ByteArray) (e:Ending) (w':World):Prop :=
 Below w.heap.size w w'/\match kV x with
  | none=>e=.returned (.slice none 0 0)
  | some l=>0<l.length/\l.length<=3/\∃ g c,w.heap.size<=g/\e=.returned (.slice (some ⟨g,0,none⟩) l.length c)/\∀ j u,(yF l)[j]?=some u->w'.cell? ((⟨g,0,none⟩:Addr).add j)=some u
theorem zmu (x:ByteArray) (w:World) (hH:qP w) (hm:vO w) (hx:x.size<4611686018427387904) : Calls Tryz.prog 93 #[.string x] w (WoE w x):=by
 obtain ⟨m,hm⟩:=hm;have hC:=yan x w hx
 cases hcut:yL x.data.toList with
 | mk a ob =>
  rw [hcut] at hC
  cases ob with
  | none =>
   dsimp only at hC;have hC':Calls Tryz.prog 110 #[.string x,.string ⟨#[46]⟩] w fun e w'=>e=.returned (.tuple #[.string x,.string ⟨#[]⟩,.bool false])/\Below w.heap.size w w':=hC
   clear hC;have hN:=fun W hW=>zay x W hW
   cases hn:kK x with
   | false =>
    have HW:Hid (kV x=none):=by show _=_;unfold kV;rw [hcut];simp [hn]
    rw [hn] at hN;go_enter Tryz.func93,Tryz.ntmps93
    go_wp2_with first
     | (go_at_call 110;refine hC'.mono ?_;rintro e w1 ⟨rfl,hb1⟩)
     | (go_at_call 14;refine (hN w1 (lexs.hasErr_below hH hb1)).mono ?_;rintro e w2 ⟨rfl,hb2⟩)
    go_ret;unfold WoE;rw [HW.out]
    exact ⟨hb1.trans (hb2.mono hb1.size),rfl⟩
   | true =>
    have HW:Hid (kV x=some [x]):=by show _=_;unfold kV;rw [hcut];simp [hn]
    rw [hn] at hN;go_enter Tryz.func93,Tryz.ntmps93
    go_wp2_with first
     | (go_at_call 110;refine hC'.mono ?_;rintro e w1 ⟨rfl,hb1⟩)
     | (go_at_call 14;refine (hN w1 (lexs.hasErr_below hH hb1)).mono ?_;rintro e w2 ⟨rfl,hb2⟩)
    go_ret;unfold WoE;rw [HW.out];have hb3:=hb1.trans (hb2.mono hb1.size)
    exact ⟨hb3.alloc hb3.size _,by simp,by simp,w2.heap.size,1,hb3.size,rfl,zdd w2 [x]⟩
  | some b =>
   dsimp only at hC;have hC':Calls Tryz.prog 110 #[.string x,.string ⟨#[46]⟩] w fun e w'=>e=.returned (.tuple #[.string ⟨a.toArray⟩,.string ⟨b.toArray⟩,.bool true])/\Below w.heap.size w w':=hC
   clear hC;have hN:=fun W hW=>zay ⟨a.toArray⟩ W hW
   have hM:=fun W hW=>zay ⟨b.toArray⟩ W hW
   cases hn:kK ⟨a.toArray⟩ with
   | false =>
    have HW:Hid (kV x=none):=by show _=_;unfold kV;rw [hcut];simp [hn]
    rw [hn] at hN;clear hM;go_enter Tryz.func93,Tryz.ntmps93
    go_wp2_with first
     | (go_at_call 110;refine hC'.mono ?_;rintro e w1 ⟨rfl,hb1⟩)
     | (go_at_call 14;refine (hN w1 (lexs.hasErr_below hH hb1)).mono ?_;rintro e w2 ⟨rfl,hb2⟩)
    go_ret;unfold WoE;rw [HW.out]
    exact ⟨hb1.trans (hb2.mono hb1.size),rfl⟩
   | true =>
    rw [hn] at hN
    cases hm2:kK ⟨b.toArray⟩ with
    | false =>
     have HW:Hid (kV x=none):=by show _=_;unfold kV;rw [hcut];simp [hn,hm2]
     rw [hm2] at hM;go_enter Tryz.func93,Tryz.ntmps93
     go_wp2_with first
      | (go_at_call 110;refine hC'.mono ?_;rintro e w1 ⟨rfl,hb1⟩)
      | (go_at_call 14;refine (hM w2 (lexs.hasErr_below hH (hb1.trans (hb2.mono hb1.size)))).mono ?_;rintro e w3 ⟨rfl,hb3⟩)
      | (go_at_call 14;refine (hN w1 (lexs.hasErr_below hH hb1)).mono ?_;rintro e w2 ⟨rfl,hb2⟩)
     go_ret;unfold WoE;rw [HW.out];have hb4:=hb1.trans (hb2.mono hb1.size)
     exact ⟨hb4.trans (hb3.mono hb4.size),rfl⟩
    | true =>
     have HW:Hid (kV x=some [⟨a.toArray⟩,⟨#[46]⟩,⟨b.toArray⟩]):=by show _=_;unfold kV;rw [hcut];simp [hn,hm2]
     rw [hm2] at hM;go_enter Tryz.func93,Tryz.ntmps93
     go_wp2_with first
      | (go_at_call 110;refine hC'.mono ?_;rintro e w1 ⟨rfl,hb1⟩)
      | (go_at_call 14;refine (hM w2 (lexs.hasErr_below hH (hb1.trans (hb2.mono hb1.size)))).mono ?_;rintro e w3 ⟨rfl,hb3⟩)
      | (go_at_call 14;refine (hN w1 (lexs.hasErr_below hH hb1)).mono ?_;rintro e w2 ⟨rfl,hb2⟩)
     go_ret;unfold WoE;rw [HW.out];have hb4:=hb1.trans (hb2.mono hb1.size);have hb5:=hb4.trans (hb3.mono hb4.size);exact ⟨hb5.alloc hb5.size _,by simp,by simp,w3.heap.size,3,hb5.size,rfl,zdd w3 [⟨a.toArray⟩,⟨#[46]⟩,⟨b.toArray⟩]⟩
end
theorem zxj (x:ByteArray) (n:Int) (hn:0<=n/\n<=2) (w:World) (hH:qP w) (hm:vO w) (hx:x.size<4611686018427387904) : Calls Tryz.prog 72 #[.string x,.int .i64 n] w fun e w'=>e=.returned (.bool (xB x n))/\Below w.heap.size w w':=by
 have hC:=zmu x w hH hm hx;unfold WoE at hC;by_cases h0:n=0
 ·subst h0;have HT:Hid (xB x 0=(x.size==0)):=rfl
  have HZ:Hid (x.toList.isEmpty=(x.size==0)):=by
   show _=_;rw [ByteArray.toList_eq,<- lexs.len_L];cases x.data.toList<;>rfl
  go_enter Tryz.func72,Tryz.ntmps72;go_wp2;go_ret;exact ⟨by rw [HT.out,<- HZ.out];rfl,Below.refl _ _⟩
 ·have hnz:¬ n=0:=h0
  cases hw:kV x with
  | none =>
   rw [hw] at hC;have HT:Hid (xB x n=false):=by show _=_;unfold xB;rw [ju h0,hw]
   go_enter Tryz.func72,Tryz.ntmps72;go_wp2_with (go_at_call 93;refine hC.mono ?_;rintro e w1 ⟨hb1,rfl⟩);go_ret
   exact ⟨by rw [HT.out];rfl,hb1⟩
  | some l =>
   rw [hw] at hC;have HT:Hid (xB x n=decide ((l.length:Int)<2*n)):=by show _=_;unfold xB;rw [ju h0,hw]
   go_enter Tryz.func72,Tryz.ntmps72;go_wp2_with (go_at_call 93;refine hC.mono ?_;rintro e w1 ⟨hb1,hl0,hl3,g,c,hg,rfl,-⟩);go_ret;exact ⟨by rw [HT.out];rfl,hb1⟩
theorem ybm (i:Int) (t:List Int) (v:Value) (w:World) (ht:t.length<=100) (hv:yU w v t) : Calls Tryz.prog 92 #[v,.int .i64 i] w fun e w'=>∃ k:Int,e=.returned (.int .i64 k)/\decide (0<=k)=t.contains i/\w'=w:=by
 obtain ⟨a,c,rfl,_,hk⟩:=hv;go_enter Tryz.func92,Tryz.ntmps92;go_wp2;go_loopw [8] (fun u wr=>∃ k:Nat,k<=t.length/\u=.int .i64 k/\wr=w/\Hid (∀ j (hj:j<t.length),j<k->t[j]≠i)) (fun u _=>t.length - (intOf u).toNat)
 case atStart=>exact ⟨0,jz _,rfl,rfl,fun j _ hj=>by omega⟩
 case round =>
  obtain ⟨k,hkl,rfl,rfl,HN⟩:=hrel;by_cases hlt:k<t.length
  ·obtain ⟨g,o,rfl,hc⟩:=hk (by intro e;rw [e] at hlt;simp at hlt);have q:=hc k hlt;clear hc hk;by_cases he:t[k]=i
   ·have HE:Hid (t.contains i=true):=by
     show _=_;rw [List.contains_iff_mem,<- he];exact jH hlt
    rw [he] at q;clear he;go_wp2;go_ret;exact ⟨(k:Int),rfl,by rw [HE.out];simp,rfl⟩
   ·have HE:Hid (t[k]≠i):=he;have he2:¬ (i=t[k]):=fun e=>he e.symm
    clear he;go_wp2;go_roundw
    case rel=>exact ⟨k+1,by omega,by go_num,by trivial,fun j hj h1=>by
     rcases jL j k with h | h
     ·exact HN.out j hj h
     ·have:j=k:=by omega
      subst this
      exact HE.out⟩
    case measure=>simp [intOf];omega
  ·have HE:Hid (t.contains i=false):=by
    show _=_
    cases hc:t.contains i with
    | false=>rfl
    | true =>
     rw [List.contains_iff_mem] at hc;obtain ⟨j,hj,e⟩:=List.mem_iff_getElem.1 hc;exact absurd e (HN.out j hj (by omega))
   clear HN;go_wp2;go_ret;exact ⟨-1,rfl,by rw [HE.out];rfl,rfl⟩
def zbk (w:World):Prop:=∀ k:Nat,1<=k->k<=21->w.cell? ⟨0,k*5,none⟩=some (.int .i64 (qT k).1)/\w.cell? ⟨0,k*5+1,none⟩=some (.int .i64 (qT k).2.1)/\w.cell? ⟨0,k*5+2,none⟩=some (.int .i64 (qT k).2.2.1)/\w.cell? ⟨0,k*5+3,none⟩=some (.int .i64 (qT k).2.2.2.1)/\w.cell? ⟨0,k*5+4,none⟩=some (.int .i64 (qT k).2.2.2.2)
theorem zhb {w w':World} (h:zbk w) (hb:Below w.heap.size w w'):zbk w':=fun k h1 h2=>by
 obtain ⟨a,b,c,d,e⟩:=h k h1 h2;exact ⟨keep a hb,keep b hb,keep c hb,keep d hb,keep e hb⟩
def Mis:List PanicEntry:=[{ v:=.iface 73 (.agg #[]),recovered:=false }]
def lookK (kinds:List Int) (k:Int) (x:ByteArray) (m:Int) (n:Nat):Bool:=kinds.contains k&&decide ((qT k).2.1<=m)&&decide (m<=(qT k).2.2.1)&&decide ((qT k).2.2.2.1<=n)&&decide ((n:Int)<=(qT k).2.2.2.2)&&xB x (qT k).1
def LkE (w:World) (b:Bool) (e:Ending) (w':World):Prop:=Below w.heap.size w w'/\e=if b then .returned (.tuple #[]) else .panicked Mis
theorem zph (k:Int):0<=(qT k).1/\(qT k).1<=2:=by
 have key:∀ (c:Prop) [Decidable c] (p q:Int × Int × Int × Int × Int),(0<=p.1/\p.1<=2)->(0<=q.1/\q.1<=2)->0<=(if c then p else q).1/\(if c then p else q).1<=2:=fun c _ p q hp hq=>by
  split;·exact hp
  ·exact hq
 unfold qT
 repeat (first | exact ⟨by decide,by decide⟩ | refine key _ _ _ ⟨by decide,by decide⟩ ?_)
theorem oContainsK (i:Int) (t:List Int) (v:Value) (w:World) (ht:t.length<=100) (hv:yU w v t) : Calls Tryz.prog 71 #[v,.int .i64 i] w fun e w'=>e=.returned (.bool (t.contains i))/\w'=w:=by
 have h:=ybm i t v w ht hv;obtain ⟨a,c,rfl,_,hk⟩:=hv;generalize t.contains i=V at *;go_enter Tryz.func71,Tryz.ntmps71;go_wp2_with (fail);refine h.mono ?_;rintro e w1 ⟨k,rfl,hi,hw⟩;obtain rfl:=hw.symm;go_wp2;go_ret;exact ⟨by rw [<- hi];rfl,rfl⟩
theorem zcd (kinds:List Int) (kv:Value) (k m:Int) (x:ByteArray) (a:Option Addr) (n c:Nat) (w:World) (hS:zbk w) (hH:qP w) (hm:vO w) (hx:x.size<4611686018427387904) (hn:n<=4611686018427387904) (hk:yU w kv kinds) (hl:kinds.length<=100) (hr:∀ i∈kinds,1<=i/\i<=21) : Calls Tryz.prog 43 #[.agg #[.int .i64 k,.string x,.int .i64 m,.slice a n c],kv] w (LkE w (lookK kinds k x m n)):=by
 have c24:=kc25;have c5:=kc132;have c0:=kc73;have hA:=(Below.refl w.heap.size w).alloc (jE _) (.cells #[.int .i64 k,.string x,.int .i64 m,.slice a n c] 25);have hC:=oContainsK k kinds kv _ hl (hk.below hA);obtain ⟨ka,kc,rfl⟩:∃ a c,kv=.slice a kinds.length c:=by obtain ⟨a,c,e,_⟩:=hk;exact ⟨a,c,e⟩
 cases hc:kinds.contains k with
 | false =>
  rw [hc] at hC;have HL:Hid (lookK kinds k x m n=false):=by show _=_;unfold lookK;rw [hc];simp
  go_enter Tryz.func43,Tryz.ntmps43;go_wp2_with (go_at_call 71;refine hC.mono ?_;rintro e w1 ⟨rfl,hw1⟩;obtain rfl:=hw1.symm)
  exact ⟨rfl,hA,by rw [HL.out];rfl⟩
 | true =>
  rw [hc] at hC;have hki:=hr k (List.contains_iff_mem.1 hc);obtain ⟨kn,rfl⟩:∃ kn:Nat,k=(kn:Int):=⟨k.toNat,by omega⟩
  obtain ⟨q0,q1,q2,q3,q4⟩:=zhb hS hA kn (by omega) (by omega);have hns:=zph (kn:Int);have HL:Hid (lookK kinds kn x m n=(decide ((qT kn).2.1<=m)&&decide (m<=(qT kn).2.2.1)&&decide ((qT kn).2.2.2.1<=n)&&decide ((n:Int)<=(qT kn).2.2.2.2)&&xB x (qT kn).1)):=by show _=_;unfold lookK;rw [hc,Bool.true_and]
  clear hc hr hk;generalize lookK kinds kn x m n=LB at *;generalize (qT (kn:Int)).1=s0 at *;generalize (qT (kn:Int)).2.1=s1 at *;generalize (qT (kn:Int)).2.2.1=s2 at *;generalize (qT (kn:Int)).2.2.2.1=s3 at *;generalize (qT (kn:Int)).2.2.2.2=s4 at *;have hB2:Below w.heap.size w ((w.alloc (.cells #[.int .i64 kn,.string x,.int .i64 m,.slice a n c] 25)).alloc (.cells #[.int .i64 s0,.int .i64 s1,.int .i64 s2,.int .i64 s3,.int .i64 s4] 132)):=hA.alloc (by simp) _;have hT:=zxj x s0 hns _ (lexs.hasErr_below hH hB2) (cH hm hB2) hx;by_cases h1:m<s1
  ·have HE:Hid (LB=false):=by show _=_;rw [HL.out,decide_eq_false (show ¬ s1<=m by omega)];rfl
   go_enter Tryz.func43,Tryz.ntmps43;go_wp2_with (go_at_call 71;refine hC.mono ?_;rintro e w1 ⟨rfl,hw1⟩;obtain rfl:=hw1.symm);exact ⟨rfl,hB2,by rw [HE.out];rfl⟩
  have d1:decide (m<s1)=false:=decide_eq_false h1;by_cases h2:s2<m
  ·have HE:Hid (LB=false):=by show _=_;rw [HL.out,decide_eq_false (show ¬ m<=s2 by omega)];simp
   go_enter Tryz.func43,Tryz.ntmps43;go_wp2_with (go_at_call 71;refine hC.mono ?_;rintro e w1 ⟨rfl,hw1⟩;obtain rfl:=hw1.symm);exact ⟨rfl,hB2,by rw [HE.out];rfl⟩
  have d2:decide (s2<m)=false:=decide_eq_false h2;by_cases h3:(n:Int)<s3
  ·have HE:Hid (LB=false):=by show _=_;rw [HL.out,decide_eq_false (show ¬ s3<=(n:Int) by omega)];simp
   go_enter Tryz.func43,Tryz.ntmps43;go_wp2_with (go_at_call 71;refine hC.mono ?_;rintro e w1 ⟨rfl,hw1⟩;obtain rfl:=hw1.symm);exact ⟨rfl,hB2,by rw [HE.out];rfl⟩
  have d3:decide ((n:Int)<s3)=false:=decide_eq_false h3;by_cases h4:s4<(n:Int)
  ·have HE:Hid (LB=false):=by show _=_;rw [HL.out,decide_eq_false (show ¬ (n:Int)<=s4 by omega)];simp
   go_enter Tryz.func43,Tryz.ntmps43;go_wp2_with (go_at_call 71;refine hC.mono ?_;rintro e w1 ⟨rfl,hw1⟩;obtain rfl:=hw1.symm);exact ⟨rfl,hB2,by rw [HE.out];rfl⟩
  have d4:decide (s4<(n:Int))=false:=decide_eq_false h4;have HE:Hid (LB=xB x s0):=by show _=_;rw [HL.out,decide_eq_true (show s1<=m by omega),decide_eq_true (show m<=s2 by omega),decide_eq_true (show s3<=(n:Int) by omega),decide_eq_true (show (n:Int)<=s4 by omega)];rfl
  clear HL;generalize xB x s0=tb at *;cases tb
  ·go_enter Tryz.func43,Tryz.ntmps43
   go_wp2_with first
    | (go_at_call 71;refine hC.mono ?_;rintro e w1 ⟨rfl,hw1⟩;obtain rfl:=hw1.symm)
    | (go_at_call 72;refine hT.mono ?_;rintro e w3 ⟨rfl,hb3⟩)
   exact ⟨rfl,hB2.trans (hb3.mono hB2.size),by rw [HE.out];rfl⟩
  ·go_enter Tryz.func43,Tryz.ntmps43
   go_wp2_with first
    | (go_at_call 71;refine hC.mono ?_;rintro e w1 ⟨rfl,hw1⟩;obtain rfl:=hw1.symm)
    | (go_at_call 72;refine hT.mono ?_;rintro e w3 ⟨rfl,hb3⟩)
   go_end0
   exact ⟨hB2.trans (hb3.mono hB2.size),by rw [HE.out];rfl⟩
section
variable {w w':World} {r:Nat} {v v':Value} {ws:List ByteArray}
theorem zoh (h:WR w r v ws) (l:List ByteArray) (hl:0<l.length) (h9:l.length<=9) (hn:ws.length<=900000) : Calls Tryz.prog 44 #[.pointer (some ⟨r,0,none⟩),.slice (some ⟨w.heap.size,0,none⟩) l.length l.length] (w.alloc (.cells (yF l).toArray 9)) (WE r w v ws l) :=
 (zg7 (h.alloc _) l ⟨w.heap.size,0,none⟩ l.length hl (by omega) (zdd w l)).mono fun e w' g=>g.near (ji h.lt)
theorem zfd (h:WR w r v ws) (x:ByteArray) (l:List ByteArray) (hx:kV x=some l) (hs:x.size<4611686018427387904) (hH:qP w) (hm:vO w) (hn:ws.length<=900000) : Calls Tryz.prog 165 #[.pointer (some ⟨r,0,none⟩),.string x] w (WE r w v ws l):=by
 have hC:=zmu x w hH hm hs;unfold WoE at hC;rw [hx] at hC;go_enter Tryz.func165,Tryz.ntmps165
 go_wp2_with first
  | (go_at_call 93;refine hC.mono ?_;rintro e w1 ⟨hb1,hl0,hl3,g,c,hg,rfl,hc⟩)
  | (go_at_call 44;refine (zg7 (h.below hb1) l ⟨g,0,none⟩ c hl0 (by omega) hc).mono ?_;rintro e w2 ⟨rfl,v2,hW,hF,hG⟩)
 go_end0
 exact ⟨rfl,v2,hW,(FrU.below hb1 r v).trans hF,(hb1.mono (ji h.lt)).trans hG⟩
theorem zyl (k m:Int) (x:ByteArray) (a:Option Addr) (n c:Nat) (w:World) (hO:gR w) (hm:k=19->1<=m/\m<=9) : Calls Tryz.prog 158 #[.agg #[.int .i64 k,.string x,.int .i64 m,.slice a n c]] w fun e w'=>e=.returned (.int .i64 (uI k m))/\Below w.heap.size w w':=by
 have c24:=kc25;have c171:=kc207;have hA:=(Below.refl w.heap.size w).alloc (jE _) (.cells #[.int .i64 k,.string x,.int .i64 m,.slice a n c] 25);by_cases h19:k=19
 ·subst h19;obtain ⟨mn,rfl⟩:∃ mn:Nat,m=(mn:Int):=⟨m.toNat,by have:=hm rfl;omega⟩
  have hmn:=hm rfl
  have q:(w.alloc (.cells #[.int .i64 19,.string x,.int .i64 mn,.slice a n c] 25)).cell? ⟨5,mn*2+1,none⟩=some (.int .i64 (kZ mn)):=by
   obtain ⟨cs,t,fr,h1,h2,h3⟩:=cJ hO hA;have:=(h3 mn (by omega)).2;simp [World.cell?,h1,this]
  have HB:Hid (uI 19 mn=kZ mn):=by show _=_;unfold uI;rw [jv rfl];rfl
  clear hm;generalize kZ mn=z at *;go_enter Tryz.func158,Tryz.ntmps158;go_wp2;go_ret;exact ⟨by rw [HB.out];rfl,hA⟩
 ·by_cases h20:k=20;·subst h20;go_enter Tryz.func158,Tryz.ntmps158;go_wp2;go_ret;exact ⟨rfl,hA⟩
  ·by_cases h21:k=21;·subst h21;go_enter Tryz.func158,Tryz.ntmps158;go_wp2;go_ret;exact ⟨rfl,hA⟩
   ·have HB:Hid (uI k m=4):=by show _=_;unfold uI;rw [ju h19,ju (by omega)]
    go_enter Tryz.func158,Tryz.ntmps158;go_wp2;go_ret;exact ⟨by rw [HB.out];rfl,hA⟩
end
end Go.Proofs.YtaadmdlbkhcfnaaGreatDoor.pr
namespace Go.Proofs
open Go.Shelf
def Tryz.laysFmt_ren : Go.Shelf.Ren := ⟨fun | 173 => 97 | 246 => 112 | 283 => 126 | 284 => 127 | 285 => 128 | 286 => 129 | 129 => 147 | 317 => 146 | 318 => 148 | 319 => 149 | 320 => 150 | 337 => 160 | 338 => 161 | n => n, fun | 2 => 2 | 3 => 3 | 9 => 9 | 4 => 4 | 171 => 175 | 0 => 0 | 53 => 164 | 37 => 78 | 5 => 5 | 173 => 178 | 212 => 193 | 51 => 194 | 20 => 20 | 213 => 195 | 46 => 167 | 232 => 210 | 233 => 211 | n => n, fun | 17 => 4 | 18 => 6 | 19 => 7 | n => n⟩
theorem Tryz.laysFmt : Go.Proofs.LaysM.n173 Tryz.prog Tryz.laysFmt_ren := {
  mixed := by kernel_rfl
  f129 := Tryz.func147.trans (congrArg some (by kernel_rfl))
  f173 := Tryz.func97.trans (congrArg some (by kernel_rfl))
  f246 := Tryz.func112.trans (congrArg some (by kernel_rfl))
  f283 := Tryz.func126.trans (congrArg some (by kernel_rfl))
  f284 := Tryz.func127.trans (congrArg some (by kernel_rfl))
  f285 := Tryz.func128.trans (congrArg some (by kernel_rfl))
  f286 := Tryz.func129.trans (congrArg some (by kernel_rfl))
  f317 := Tryz.func146.trans (congrArg some (by kernel_rfl))
  f318 := Tryz.func148.trans (congrArg some (by kernel_rfl))
  f319 := Tryz.func149.trans (congrArg some (by kernel_rfl))
  f320 := Tryz.func150.trans (congrArg some (by kernel_rfl))
  f337 := Tryz.func160.trans (congrArg some (by kernel_rfl))
  f338 := Tryz.func161.trans (congrArg some (by kernel_rfl))
  t0 := Tryz.underlying0
  a0 := Tryz.isAgg0
  z0 := Tryz.sizeOf0
  v0 := Tryz.zeroValue0
  t2 := Tryz.underlying2
  a2 := Tryz.isAgg2
  z2 := Tryz.sizeOf2
  v2 := Tryz.zeroValue2
  t3 := Tryz.underlying3
  a3 := Tryz.isAgg3
  z3 := Tryz.sizeOf3
  v3 := Tryz.zeroValue3
  t4 := Tryz.underlying4
  a4 := Tryz.isAgg4
  z4 := Tryz.sizeOf4
  v4 := Tryz.zeroValue4
  t5 := Tryz.underlying5
  a5 := Tryz.isAgg5
  z5 := Tryz.sizeOf5
  v5 := Tryz.zeroValue5
  t9 := Tryz.underlying9
  a9 := Tryz.isAgg9
  z9 := Tryz.sizeOf9
  v9 := Tryz.zeroValue9
  t20 := Tryz.underlying20
  a20 := Tryz.isAgg20
  z20 := Tryz.sizeOf20
  v20 := Tryz.zeroValue20
  t37 := Tryz.underlying78
  a37 := Tryz.isAgg78
  z37 := Tryz.sizeOf78
  v37 := Tryz.zeroValue78
  t46 := Tryz.underlying167
  a46 := Tryz.isAgg167
  z46 := Tryz.sizeOf167
  v46 := Tryz.zeroValue167
  t51 := Tryz.underlying194
  a51 := Tryz.isAgg194
  z51 := Tryz.sizeOf194
  v51 := Tryz.zeroValue194
  t53 := Tryz.underlying164
  a53 := Tryz.isAgg164
  z53 := Tryz.sizeOf164
  v53 := Tryz.zeroValue164
  t171 := Tryz.underlying175
  a171 := Tryz.isAgg175
  z171 := Tryz.sizeOf175
  v171 := Tryz.zeroValue175
  t173 := Tryz.underlying178
  a173 := Tryz.isAgg178
  z173 := Tryz.sizeOf178
  v173 := Tryz.zeroValue178
  t212 := Tryz.underlying193
  a212 := Tryz.isAgg193
  z212 := Tryz.sizeOf193
  v212 := Tryz.zeroValue193
  t213 := Tryz.underlying195
  a213 := Tryz.isAgg195
  z213 := Tryz.sizeOf195
  t232 := Tryz.underlying210
  a232 := Tryz.isAgg210
  z232 := Tryz.sizeOf210
  v232 := Tryz.zeroValue210
  t233 := Tryz.underlying211
  a233 := Tryz.isAgg211
  z233 := Tryz.sizeOf211
  v233 := Tryz.zeroValue211
  g17 := by kernel_rfl
  g18 := by kernel_rfl
  g19 := by kernel_rfl
  i0 := by kernel_rfl
  i2 := by kernel_rfl
  i3 := by kernel_rfl
  i4 := by kernel_rfl
  i5 := by kernel_rfl
  i9 := by kernel_rfl
  i20 := by kernel_rfl
  i37 := by kernel_rfl
  i46 := by kernel_rfl
  i51 := by kernel_rfl
  i53 := by kernel_rfl
  i171 := by kernel_rfl
  i173 := by kernel_rfl
  i212 := by kernel_rfl
  i232 := by kernel_rfl
  i233 := by kernel_rfl
  m17 := by kernel_rfl
  m18 := by kernel_rfl
  m19 := by kernel_rfl }
def Tryz.laysJoin_ren : Go.Shelf.Ren := ⟨fun | 156 => 13 | 165 => 25 | 166 => 26 | 169 => 27 | 240 => 46 | 241 => 47 | 276 => 76 | 277 => 77 | n => n, fun | 31 => 44 | 9 => 9 | 3 => 3 | 4 => 4 | 0 => 0 | 20 => 20 | 72 => 80 | 76 => 84 | 70 => 77 | 37 => 78 | 75 => 83 | 127 => 114 | 164 => 136 | 5 => 5 | 80 => 86 | n => n, fun | n => n⟩
theorem Tryz.laysJoin : Go.Proofs.Lays.n156 Tryz.prog Tryz.laysJoin_ren := {
  mixed := by kernel_rfl
  f156 := Tryz.func13.trans (congrArg some (by kernel_rfl))
  f165 := Tryz.func25.trans (congrArg some (by kernel_rfl))
  f166 := Tryz.func26.trans (congrArg some (by kernel_rfl))
  f169 := Tryz.func27.trans (congrArg some (by kernel_rfl))
  f240 := Tryz.func46.trans (congrArg some (by kernel_rfl))
  f241 := Tryz.func47.trans (congrArg some (by kernel_rfl))
  f276 := Tryz.func76.trans (congrArg some (by kernel_rfl))
  f277 := Tryz.func77.trans (congrArg some (by kernel_rfl))
  t0 := Tryz.underlying0
  a0 := Tryz.isAgg0
  z0 := Tryz.sizeOf0
  v0 := Tryz.zeroValue0
  t3 := Tryz.underlying3
  a3 := Tryz.isAgg3
  z3 := Tryz.sizeOf3
  v3 := Tryz.zeroValue3
  t4 := Tryz.underlying4
  a4 := Tryz.isAgg4
  z4 := Tryz.sizeOf4
  v4 := Tryz.zeroValue4
  t9 := Tryz.underlying9
  a9 := Tryz.isAgg9
  z9 := Tryz.sizeOf9
  v9 := Tryz.zeroValue9
  t20 := Tryz.underlying20
  a20 := Tryz.isAgg20
  z20 := Tryz.sizeOf20
  v20 := Tryz.zeroValue20
  t31 := Tryz.underlying44
  a31 := Tryz.isAgg44
  z31 := Tryz.sizeOf44
  v31 := Tryz.zeroValue44
  t37 := Tryz.underlying78
  a37 := Tryz.isAgg78
  z37 := Tryz.sizeOf78
  v37 := Tryz.zeroValue78
  t70 := Tryz.underlying77
  a70 := Tryz.isAgg77
  z70 := Tryz.sizeOf77
  v70 := Tryz.zeroValue77
  t72 := Tryz.underlying80
  a72 := Tryz.isAgg80
  z72 := Tryz.sizeOf80
  v72 := Tryz.zeroValue80
  t75 := Tryz.underlying83
  a75 := Tryz.isAgg83
  z75 := Tryz.sizeOf83
  v75 := Tryz.zeroValue83
  t76 := Tryz.underlying84
  a76 := Tryz.isAgg84
  z76 := Tryz.sizeOf84
  v76 := Tryz.zeroValue84
  t127 := Tryz.underlying114
  a127 := Tryz.isAgg114
  z127 := Tryz.sizeOf114
  v127 := Tryz.zeroValue114
  t164 := Tryz.underlying136
  a164 := Tryz.isAgg136
  z164 := Tryz.sizeOf136
  v164 := Tryz.zeroValue136 }
end Go.Proofs
namespace Go.Proofs.YtaadmdlbkhcfnaaGreatDoor.pr
open Go.RowKit Go.Shelf
open syn face chk
open lexs (qP)
structure PH (w:World):Prop where
 sh:zbk w
 ops:gR w
 err:qP w
 mx:vO w
 pow:Lib.TabIs Tryz.prog w "internal/strconv.uint64pow10" .u64 Lib.pow10Tab
theorem zg9:Tryz.prog.globalNamed "internal/strconv.uint64pow10"=some 4:=by kernel_rfl
theorem PH.below {w w':World} (h:PH w) (hb:Below w.heap.size w w'):PH w':=by
 refine ⟨zhb h.sh hb,cJ h.ops hb,lexs.hasErr_below h.err hb,cH h.mx hb,var?_below hb zg9 ?_ h.pow⟩;have:=h.pow.cell zg9 0 (by decide);exact jR w _ this
theorem zb1 (w:World) (l:List Int) (hl:l.length<=100):yU (w.alloc (.cells (l.map (Value.int .i64)).toArray 3)) (.slice (some ⟨w.heap.size,0,none⟩) l.length l.length) l:=by
 refine ⟨_,_,rfl,by omega,fun _=>⟨w.heap.size,0,rfl,fun i hi=>?_⟩⟩;have:=xF w (l.map (Value.int .i64)).toArray 3 w.heap.size rfl i (.int .i64 l[i]) (by simp [hi]);have e:(⟨w.heap.size,0,none⟩:Addr).add i=⟨w.heap.size,0+i,none⟩:=WideShapes.add_plain _ _ _;rw [<- e];exact this
section
variable {w0 w w':World} {r:Nat} {v v':Value} {ws:List ByteArray}
theorem zh8 (hr:w0.heap.size=r) (hP:PH w0) (hB:Below r w0 w) (h:WR w r v ws) (m:Int) (x:ByteArray) (a:Option Addr) (n c:Nat) (hlk:lookK [15] 15 x m n=true) (hx:x.size<4611686018427387904) (hn:n<=4611686018427387904) (hm:0<=m/\m<=9223372036854775807) (hw:ws.length<=900000) : Calls Tryz.prog 75 #[.pointer (some ⟨r,0,none⟩),.agg #[.int .i64 15,.string x,.int .i64 m,.slice a n c]] w (WE r w v ws [vW m]):=by
 have c24:=kc25;have hrl:=h.lt;have hA:=(Below.refl w.heap.size w).alloc (jE _) (.cells #[.int .i64 15,.string x,.int .i64 m,.slice a n c] 25);have hA2:=hA.alloc (by simp) (.cells #[.int .i64 15] 3);have hPw:=hP.below (hr▸hB);have hP2:=hPw.below hA2
 have hI:yU ((w.alloc (.cells #[.int .i64 15,.string x,.int .i64 m,.slice a n c] 25)).alloc (.cells #[.int .i64 15] 3)) (.slice (some ⟨w.heap.size+1,0,none⟩) 1 1) [15]:=by
  have:=zb1 (w.alloc (.cells #[.int .i64 15,.string x,.int .i64 m,.slice a n c] 25)) [15] (by decide);simp only [List.map_cons,List.map_nil,jd,je,jO,Nat.zero_add] at this;exact this
 have bN:=(kJ.new w #[.int .i64 15,.string x,.int .i64 m,.slice a n c] 25).alloc (.cells #[.int .i64 15] 3);have hL:=zcd [15] _ 15 m x a n c _ hP2.sh hP2.err hP2.mx hx hn hI (by decide) (fun i hi=>by simp at hi;omega);rw [hlk] at hL
 have hF:∀ W,PH W->Calls Tryz.prog 97 #[.int .i64 m,.int .i64 10] W fun e w'=>e=.returned (.string (vW m))/\Below W.heap.size W w':=fun W hW =>
  (Any.strconv_FormatInt_10 Tryz.laysFmt m (by omega) (by omega) W hW.pow).mono fun e w' ⟨he,k,os,hw'⟩=>⟨he,by rw [hw'];exact ⟨rfl,rfl,rfl,by simp [Sort.grow,World.drewN],fun j hj=>by simp [Sort.grow,World.drewN,Array.getElem?_append_left hj]⟩⟩
 generalize vW m=y at hF |-;clear hI hlk hP hP2 hB hr hA hx hn hm;go_enter Tryz.func75,Tryz.ntmps75
 go_wp2_with first
  | (go_at_call 43;refine hL.mono ?_;rintro e w3 ⟨hb3,rfl⟩;have bN3:=bN.below hb3;have z2:=bN3.cell 2 rfl;have hb4:=hA2.trans (hb3.mono hA2.size))
  | (go_at_call 97;refine (hF w3 (hPw.below hb4)).mono ?_;rintro e w5 ⟨rfl,hb5⟩;have hb6:=hb4.trans (hb5.mono hb4.size))
  | (go_at_call 44;refine (vB (h.below hb6) _ hw).mono ?_;rintro e w7 ⟨rfl,v2,hW,hFr,hG⟩)
 go_end0
 exact ⟨rfl,v2,hW,(FrU.below hb6 r v).trans hFr,(hb6.mono (ji h.lt)).trans hG⟩
end
theorem lies_shape {Q:Nat->Prop} {w:World} {t:Tree} {v:Value} (h:kC Q w t v):∃ k x m a n c,v=.agg #[.int .i64 k,.string x,.int .i64 m,.slice a n c]:=by
 match t,h with
 | .node k x m ks,h =>
  unfold kC at h;obtain ⟨a,c,e,_⟩:=h;exact ⟨k,x,m,a,_,c,e⟩
def okN:Nat->Tree->Prop
 | 0,_=>False
 | f+1,.node k x m ks=>x.size<4611686018427387904/\∀ t∈ks,okN f t
def WO (r:Nat) (w:World) (v:Value) (ws:List ByteArray) (o:Option (List ByteArray)) (e:Ending) (w':World):Prop:=match o with
 | none=>e=.panicked Mis/\Below r w w'
 | some l=>WE r w v ws l e w'
def Wri (w0:World) (r F:Nat) (g:Tree->Option (List ByteArray)) (Q:Tree->Prop):Prop :=
 ∀ (t:Tree) (nv:Value),kC (·<r) w0 t nv->Q t->∀ (w:World) (v:Value) (ws:List ByteArray),Below r w0 w->WR w r v ws->ws.length+10*kB t<=800000->Calls Tryz.prog F #[.pointer (some ⟨r,0,none⟩),nv] w (WO r w v ws (g t))
def xK (w0:World) (r:Nat) (g:Int->Tree->Option (List ByteArray)) (Q:Tree->Prop):Prop :=
 ∀ (least:Int) (t:Tree) (nv:Value),kC (·<r) w0 t nv->Q t->∀ (w:World) (v:Value) (ws:List ByteArray),Below r w0 w->WR w r v ws->ws.length+10*kB t<=800000->Calls Tryz.prog 145 #[.pointer (some ⟨r,0,none⟩),nv,.int .i64 least] w (WO r w v ws (g least t))
section
variable {w0 w w':World} {r:Nat} {v v':Value} {ws:List ByteArray}
theorem oExpr {g:Int->Tree->Option (List ByteArray)} {Q:Tree->Prop} (hO:xK w0 r g Q):Wri w0 r 124 (g 0) Q:=by
 intro t nv hl hq w v ws hB hW hn;have c24:=kc25;obtain ⟨k,x,m,a,n,c,rfl⟩:=lies_shape hl;have hA:=(Below.refl w.heap.size w).alloc (jE _) (.cells #[.int .i64 k,.string x,.int .i64 m,.slice a n c] 25);have hC:=hO 0 t _ hl hq _ v ws (hB.alloc (ji hW.lt) (.cells #[.int .i64 k,.string x,.int .i64 m,.slice a n c] 25)) (hW.alloc _) hn;have hrl:=hW.lt
 cases ho:g 0 t with
 | none =>
  rw [ho] at hC;go_enter Tryz.func124,Tryz.ntmps124;go_wp2_with (go_at_call 145;refine hC.mono ?_;rintro e w2 ⟨rfl,hb2⟩)
  exact ⟨rfl,rfl,(hA.mono (ji hrl)).trans hb2⟩
 | some l =>
  rw [ho] at hC;go_enter Tryz.func124,Tryz.ntmps124;go_wp2_with (go_at_call 145;refine hC.mono ?_;rintro e w2 ⟨rfl,v2,h2,h3,h4⟩)
  go_end0
  exact ⟨rfl,v2,h2,(FrU.below hA r v).trans h3,(hA.mono (ji hrl)).trans h4⟩
end
theorem zhw {g:Tree->Option (List ByteArray)} {ks:List Tree} {j:Nat} (h:j<ks.length):kU g j (ks.drop j)=(g ks[j]).bind fun a=>(kU g (j+1) (ks.drop (j+1))).bind fun b=>some ((if j=0 then [] else [⟨#[44]⟩])++a++b):=by
 rw [List.drop_eq_getElem_cons h];rfl
section
variable {w0:World} {r:Nat}
theorem zb8 {ks:List Tree} {j:Nat} (hj:j<ks.length):kA (ks.take (j+1))=kA (ks.take j)+kB ks[j]:=by
 rw [List.take_succ_eq_append_getElem hj]
 induction ks.take j with
 | nil=>simp [kA]
 | cons t l ih=>simp only [jK,kA] at ih |-;omega
theorem cntL_take (ks:List Tree):∀ j,kA (ks.take j)<=kA ks:=by
 induction ks with
 | nil=>intro j;simp
 | cons t l ih =>
  intro j
  cases j with
  | zero=>have h1:=kR t;have h2:=kX l;simp only [List.take_zero,kA];omega
  | succ j=>have:=ih j;simp only [List.take_succ_cons,kA];omega
theorem zif {g:Tree->Option (List ByteArray)} {Q:Tree->Prop} (hF:Wri w0 r 124 g Q) (hlen:∀ t o,g t=some o->o.length<=8*kB t) (ks:List Tree) (a:Option Addr) (c:Nat) (hl:ks.length<=4611686018427387904) (hlies:ks≠[]->∃ gb o,a=some ⟨gb,o,none⟩/\gb<r/\kY (·<r) w0 ks gb o) (hq:∀ t∈ks,Q t) (hr:w0.heap.size=r) (w:World) (v:Value) (ws:List ByteArray) (hB:Below r w0 w) (hW:WR w r v ws) (hn:(ws.length:Int)+10*kA ks<=799998) : Calls Tryz.prog 94 #[.pointer (some ⟨r,0,none⟩),.slice a ks.length c,.func (.func 124) #[.pointer (some ⟨r,0,none⟩)] #[]] w (WO r w v ws (kW g ks)):=by
 have c24:=kc25;have hrl:=hW.lt;have hcp0:=kX ks;have hC0:=vB hW ⟨#[40]⟩ (by omega);go_enter Tryz.func94,Tryz.ntmps94;go_wp2_with (go_at_call 44;refine hC0.mono ?_;rintro e w1 ⟨rfl,v1,hW1,hF1,hB1⟩);go_loopw [13] (fun u wr=>∃ (j:Nat) (vj:Value) (o:List ByteArray),j<=ks.length/\u=.int .i64 j/\WR wr r vj (ws++[⟨#[40]⟩]++o)/\FrU r v vj w wr/\Below r w wr/\o.length<=9*kA (ks.take j)/\Hid (kU g 0 ks=(kU g j (ks.drop j)).bind fun b=>some (o++b))) (fun u _=>ks.length - (intOf u).toNat)
 case atStart =>
  refine ⟨0,v1,[],jz _,rfl,by simpa using hW1,hF1,hB1,by simp [kA],?_⟩;show _=_;rw [List.drop_zero];cases kU g 0 ks<;>rfl
 case round =>
  clear hC0 hW1 hF1 hB1;obtain ⟨j,vj,o,hj,rfl,hWj,hFj,hBj,hol,HI⟩:=hrel;have hct:=cntL_take ks j;have hctp:=kX (ks.take j);by_cases hlt:j<ks.length
  ·obtain ⟨gb,og,rfl,hgb,hat⟩:=hlies (by intro e;rw [e] at hlt;simp at hlt);obtain ⟨nv,⟨y0,y1,y2,y3,rfl,q0,q1,q2,q3⟩,hln⟩:=hat.get j hlt;obtain ⟨k1,x1,m1,a1,n1,c1,e1⟩:=lies_shape hln;injection e1 with e1;simp only [Array.mk.injEq,jq,and_true] at e1;obtain ⟨rfl,rfl,rfl,rfl⟩:=e1;have hBr:=hB.trans hBj;have hk:∀ i u,w0.cell? ⟨gb,i,none⟩=some u->wr.cell? ⟨gb,i,none⟩=some u:=fun i u h=>by rw [hBr.cell (p:=⟨gb,i,none⟩) hgb];exact h
   replace q0:=hk _ _ q0;replace q1:=hk _ _ q1;replace q2:=hk _ _ q2;replace q3:=hk _ _ q3;have hQj:=hq _ (jH hlt);have hcn:=zb8 hlt;have hcn2:=cntL_take ks (j+1);have HX:=show Hid _ from zhw (g:=g) hlt
   have hA:=(Below.refl wr.heap.size wr).alloc (jE _) (.cells #[.int .i64 k1,.string x1,.int .i64 m1,.slice a1 n1 c1] 25);have hrw:=hWj.lt;have hWa:=hWj.alloc (.cells #[.int .i64 k1,.string x1,.int .i64 m1,.slice a1 n1 c1] 25);have hBa:=hBr.alloc (ji hrw) (.cells #[.int .i64 k1,.string x1,.int .i64 m1,.slice a1 n1 c1] 25);have bN:=kJ.new wr #[.int .i64 k1,.string x1,.int .i64 m1,.slice a1 n1 c1] 25;have hwl:(ws++[(⟨#[40]⟩:ByteArray)]++o).length=ws.length+1+o.length:=by simp;omega
   have HNW:Hid (wr.heap.size≠r/\vj.ownBlock≠some wr.heap.size):=⟨by omega,fun e=>by have:=(hWj.row.lt _ e).2;omega⟩
   by_cases hj0:j=0
   ·have hjn:¬ 0<j:=by omega
    have hC:=hF _ _ hln hQj _ _ _ hBa hWa (by omega)
    cases hg:g ks[j] with
    | none =>
     rw [hg] at hC;have HN:Hid (kW g ks=none):=by show _=_;unfold kW;rw [HI.out,HX.out,hg];rfl
     clear hj0;go_wp2_with (go_at_call 124;refine hC.mono ?_;rintro e w2 ⟨rfl,hb2⟩);refine ⟨rfl,?_⟩;rw [HN.out]
     exact ⟨rfl,(hBj.trans (hA.mono (ji hrw))).trans hb2⟩
    | some l1 =>
     rw [hg] at hC;have hl1:=hlen _ _ hg
     have HI2:Hid (kU g 0 ks=(kU g (j+1) (ks.drop (j+1))).bind fun b=>some ((o++l1)++b)):=by
      show _=_;rw [HI.out,HX.out,hg,jv hj0]
      cases kU g (j+1) (ks.drop (j+1)) with
      | none=>rfl
      | some b=>simp
     clear hj0 hg;go_wp2_with (go_at_call 124;refine hC.mono ?_;rintro e w2 ⟨rfl,v2,hW2,hF2,hb2⟩);go_roundw
     case rel=>exact ⟨j+1,v2,o++l1,by omega,by go_num,by rw [<- jt];exact hW2,hFj.trans ((FrU.below hA r vj).trans hF2),(hBj.trans (hA.mono (ji hrw))).trans hb2,by rw [hcn,jb];push_cast;omega,HI2⟩
     case measure=>simp [intOf];omega
   ·have hjn:0<j:=by omega
    have hCp:=vB hWa ⟨#[44]⟩ (by rw [hwl];omega);rw [jO] at hCp;have hCi:∀ (W:World) (V:Value),WR W r V (ws++[⟨#[40]⟩]++o++[⟨#[44]⟩])->Below r (wr.alloc (.cells #[.int .i64 k1,.string x1,.int .i64 m1,.slice a1 n1 c1] 25)) W->Calls Tryz.prog 124 #[.pointer (some ⟨r,0,none⟩),.agg #[.int .i64 k1,.string x1,.int .i64 m1,.slice a1 n1 c1]] W (WO r W V (ws++[⟨#[40]⟩]++o++[⟨#[44]⟩]) (g ks[j])):=fun W V hW3 hB3=>hF _ _ hln hQj _ _ _ (hBa.trans hB3) hW3 (by rw [jb,hwl];simp only [jd,je];push_cast;omega)
    cases hg:g ks[j] with
    | none =>
     rw [hg] at hCi;have HCi:=show Hid _ from hCi
     clear hCi;have HN:Hid (kW g ks=none):=by show _=_;unfold kW;rw [HI.out,HX.out,hg];rfl
     clear hj0 hg
     go_wp2_with first
      | (go_at_call 44;refine hCp.mono ?_;rintro e w3 ⟨rfl,v3,hW3,hF3,hB3⟩;have bN3:=bN.fr hF3 HNW.out.1 HNW.out.2;have z0:=bN3.cell 0 rfl;have z1:=bN3.cell 1 rfl;have z2:=bN3.cell 2 rfl;have z3:=bN3.cell 3 rfl)
      | (go_at_call 124;refine (HCi.out w3 v3 hW3 hB3).mono ?_;rintro e w2 ⟨rfl,hb2⟩)
     refine ⟨rfl,?_⟩;rw [HN.out]
     exact ⟨rfl,((hBj.trans (hA.mono (ji hrw))).trans hB3).trans hb2⟩
    | some l1 =>
     rw [hg] at hCi;have HCi:=show Hid _ from hCi
     clear hCi;have hl1:=hlen _ _ hg;have hcp:=kR ks[j]
     have HI2:Hid (kU g 0 ks=(kU g (j+1) (ks.drop (j+1))).bind fun b=>some ((o++[⟨#[44]⟩]++l1)++b)):=by
      show _=_;rw [HI.out,HX.out,hg,ju hj0]
      cases kU g (j+1) (ks.drop (j+1)) with
      | none=>rfl
      | some b=>simp
     clear hj0 hg
     go_wp2_with first
      | (go_at_call 44;refine hCp.mono ?_;rintro e w3 ⟨rfl,v3,hW3,hF3,hB3⟩;have bN3:=bN.fr hF3 HNW.out.1 HNW.out.2;have z0:=bN3.cell 0 rfl;have z1:=bN3.cell 1 rfl;have z2:=bN3.cell 2 rfl;have z3:=bN3.cell 3 rfl)
      | (go_at_call 124;refine (HCi.out w3 v3 hW3 hB3).mono ?_;rintro e w2 ⟨rfl,v2,hW2,hF2,hb2⟩)
     go_roundw
     case rel=>exact ⟨j+1,v2,o++[⟨#[44]⟩]++l1,by omega,by go_num,by simpa [jt] using hW2,hFj.trans ((FrU.below hA r vj).trans (hF3.trans hF2)),((hBj.trans (hA.mono (ji hrw))).trans hB3).trans hb2,by rw [hcn,jb,jb];simp only [jd,je];push_cast;omega,HI2⟩
     case measure=>simp [intOf];omega
  ·have hjj:j=ks.length:=by omega
   have hwl:(ws++[(⟨#[40]⟩:ByteArray)]++o).length=ws.length+1+o.length:=by simp;omega
   have hCe:=vB hWj ⟨#[41]⟩ (by rw [hwl];omega)
   have HR:Hid (kW g ks=some ([⟨#[40]⟩]++o++[⟨#[41]⟩])):=by
    show _=_;unfold kW;rw [HI.out,hjj,List.drop_length];simp [kU]
   clear hjj;go_wp2_with (go_at_call 44;refine hCe.mono ?_;rintro e w3 ⟨rfl,v3,hW3,hF3,hB3⟩)
   go_end0
   rw [HR.out];exact ⟨rfl,v3,by simpa [jt] using hW3,hFj.trans hF3,hBj.trans hB3⟩
end
end Go.Proofs.YtaadmdlbkhcfnaaGreatDoor.pr
