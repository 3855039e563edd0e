/- The checker in memory: its state; what its expressions come to. -/
import Derived.Test.YtfopddgjdaoidaaGreatDoorNR11
import Derived.Lib.BufferOwn
set_option linter.unusedVariables false
set_option linter.unusedSimpArgs false
set_option maxRecDepth 100000
namespace Go.Proofs.YtfopddgjdaoidaaGreatDoor
namespace face
open Go.RowKit
open syn
section
variable {w w':World} {N M:Nat} {x0 x1 x2 x3:Value}
theorem F4.other (h:F4 w N x0 x1 x2 x3) {o:Nat} (hne:M≠N) (v:Value):F4 (w.setCell ⟨M,o,none⟩ v) N x0 x1 x2 x3:=h.block (Below.heap_setCell _ _ _ _ (fun e=>hne (by rw [e])))
theorem F4.other4 (h:F4 w N x0 x1 x2 x3) (hne:M≠N) (a b c d:Value):F4 ((((w.setCell ⟨M,0,none⟩ a).setCell ⟨M,1,none⟩ b).setCell ⟨M,2,none⟩ c).setCell ⟨M,3,none⟩ d) N x0 x1 x2 x3:=(((h.other hne a).other hne b).other hne c).other hne d
theorem F4.set0 (h:F4 w N x0 x1 x2 x3) (v:Value):F4 (w.setCell ⟨N,0,none⟩ v) N v x1 x2 x3 :=
 ⟨World.cell?_setCell_same _ _ _ h.c0,by rw [jD _ _ _ _ (by simp)];exact h.c1,by rw [jD _ _ _ _ (by simp)];exact h.c2,by rw [jD _ _ _ _ (by simp)];exact h.c3,by simp [h.f0],by simp [h.f1],by simp [h.f2],by simp [h.f3]⟩
theorem F4.set1 (h:F4 w N x0 x1 x2 x3) (v:Value):F4 (w.setCell ⟨N,1,none⟩ v) N x0 v x2 x3 :=
 ⟨by rw [jD _ _ _ _ (by simp)];exact h.c0,World.cell?_setCell_same _ _ _ h.c1,by rw [jD _ _ _ _ (by simp)];exact h.c2,by rw [jD _ _ _ _ (by simp)];exact h.c3,by simp [h.f0],by simp [h.f1],by simp [h.f2],by simp [h.f3]⟩
theorem F4.set2 (h:F4 w N x0 x1 x2 x3) (v:Value):F4 (w.setCell ⟨N,2,none⟩ v) N x0 x1 v x3 :=
 ⟨by rw [jD _ _ _ _ (by simp)];exact h.c0,by rw [jD _ _ _ _ (by simp)];exact h.c1,World.cell?_setCell_same _ _ _ h.c2,by rw [jD _ _ _ _ (by simp)];exact h.c3,by simp [h.f0],by simp [h.f1],by simp [h.f2],by simp [h.f3]⟩
theorem F4.set3 (h:F4 w N x0 x1 x2 x3) (v:Value):F4 (w.setCell ⟨N,3,none⟩ v) N x0 x1 x2 v :=
 ⟨by rw [jD _ _ _ _ (by simp)];exact h.c0,by rw [jD _ _ _ _ (by simp)];exact h.c1,by rw [jD _ _ _ _ (by simp)];exact h.c2,World.cell?_setCell_same _ _ _ h.c3,by simp [h.f0],by simp [h.f1],by simp [h.f2],by simp [h.f3]⟩
theorem F4.set4 (h:F4 w N x0 x1 x2 x3) (a b c d:Value):F4 ((((w.setCell ⟨N,0,none⟩ a).setCell ⟨N,1,none⟩ b).setCell ⟨N,2,none⟩ c).setCell ⟨N,3,none⟩ d) N a b c d:=(((h.set0 a).set1 b).set2 c).set3 d
theorem F4.alloc (h:F4 w N x0 x1 x2 x3) (o:Obj):F4 (w.alloc o) N x0 x1 x2 x3:=h.below (bal o)
theorem below_set4 {B:Nat} {a:World} (h:Below B a w) (hM:B≤M) (x0 x1 x2 x3:Value):Below B a ((((w.setCell ⟨M,0,none⟩ x0).setCell ⟨M,1,none⟩ x1).setCell ⟨M,2,none⟩ x2).setCell ⟨M,3,none⟩ x3):=(((h.setCell hM _).setCell hM _).setCell hM _).setCell hM _
end
set_option maxHeartbeats 4000000 in
theorem oVarOf (x:ByteArray) (p l:Bool) (n:Option Int) (v:Value) (w:World) (hv:Lies (·<w.heap.size) w (Kid.var x p l n).tree v) :
  Calls Tryz.prog 129 #[v] w fun e w'=>e=.returned (varV (varD x p l n))∧Below w.heap.size w w':=by
 have c24:=kc25
 have c4:Tryz.prog.cellsOf 76=4:=cell4
 have HP:(bits BinOp.and IntKind.i64 (2*bI p+bI l) 2 != 0)=p:=by have:=bits_pub p l none;rw [show gI none=0 from rfl,Int.add_zero] at this;exact this
 have HL:bits BinOp.and IntKind.i64 (2*bI p+bI l) 1=bI l:=by have:=bits_low p l none;rw [show gI none=0 from rfl,Int.add_zero] at this;exact this
 rw [Kid.tree_is] at hv
 unfold Lies at hv
 obtain ⟨a,c,rfl,hl,hk⟩:=hv
 simp only [Kid.kind,Kid.text,Kid.num] at *
 generalize 2*bI p+bI l=m at HP HL
 generalize hkl:(Kid.var x p l n).kids.length=kl
 have hkids:0<kl→∃ (g o:Nat) (k:Int) (ak:Option Addr) (ck:Nat),a=some ⟨g,o,none⟩∧kl=1∧n=some k∧g<w.heap.size∧w.cell? ⟨g,o,none⟩=some (.int .i64 15)∧w.cell? ⟨g,o+1,none⟩=some (.string empty)∧w.cell? ⟨g,o+2,none⟩=some (.int .i64 k)∧w.cell? ⟨g,o+3,none⟩=some (.slice ak 0 ck):=by
  intro h0
  cases n with
  | none=>simp [Kid.kids] at hkl;omega
  | some k =>
   obtain ⟨g,o,rfl,hg,hat⟩:=hk (by simp [Kid.kids])
   unfold Kid.kids at hat
   obtain ⟨⟨v1,⟨x0,x1,x2,x3,rfl,c0,c1,c2,c3⟩,hv1⟩,_⟩:=hat
   unfold Lies at hv1
   obtain ⟨a1,d1,e1,_,_⟩:=hv1
   cases e1
   simp [Kid.kids] at hkl
   exact ⟨g,o,k,a1,d1,rfl,hkl.symm,rfl,hg,c0,c1,c2,c3⟩
 have hzero:kl=0→n.getD 0=0:=by
  intro h0
  cases n with
  | none=>rfl
  | some k=>simp [Kid.kids] at hkl;omega
 have hle:kl≤1:=by
  cases n with
  | none=>simp [Kid.kids] at hkl;omega
  | some k=>simp [Kid.kids] at hkl;omega
 clear hk hl hkl
 have hPub:∀ W,Calls Tryz.prog 155 #[.agg #[.int .i64 3,.string x,.int .i64 m,.slice a kl c]] W fun e w'=>e=.returned (.bool p)∧Below W.heap.size W w':=fun W=>by have:=oIsPub 3 x m a kl c W;rw [HP] at this;exact this
 have hLab:∀ W,Calls Tryz.prog 156 #[.agg #[.int .i64 3,.string x,.int .i64 m,.slice a kl c]] W fun e w'=>e=.returned (.int .i64 (bI l))∧Below W.heap.size W w':=fun W=>by have:=oLabelOf 3 x m a kl c W;rw [HL] at this;exact this
 clear HP HL
 have hQ:Q4 w.heap.size (.int .i64 3) (.string x) (.int .i64 m) (.slice a kl c) ((w.alloc (.cells #[.int .i64 3,.string x,.int .i64 m,.slice a kl c] 25)).alloc (.cells #[.string ⟨#[]⟩,.bool false,.int .i64 0,.int .i64 0] 76)).drew:=⟨by simp,by simp,by simp,by simp⟩
 have hB:Below w.heap.size w ((w.alloc (.cells #[.int .i64 3,.string x,.int .i64 m,.slice a kl c] 25)).alloc (.cells #[.string ⟨#[]⟩,.bool false,.int .i64 0,.int .i64 0] 76)).drew:=(Joins.below_alloc2 w (.cells #[.int .i64 3,.string x,.int .i64 m,.slice a kl c] 25) (.cells #[.string ⟨#[]⟩,.bool false,.int .i64 0,.int .i64 0] 76)).drew
 have hR:F4 ((w.alloc (.cells #[.int .i64 3,.string x,.int .i64 m,.slice a kl c] 25)).alloc (.cells #[.string ⟨#[]⟩,.bool false,.int .i64 0,.int .i64 0] 76)).drew (w.heap.size+1) (.string ⟨#[]⟩) (.bool false) (.int .i64 0) (.int .i64 0):=by constructor<;>simp
 go_enter Tryz.func129,Tryz.ntmps129
 go_wp2
 refine wp_region_held_drew (S:=fun W=>Q4 w.heap.size (.int .i64 3) (.string x) (.int .i64 m) (.slice a kl c) W) (by kernel_rfl) hQ (fun hHeld=>?_)
 clear hHeld
 generalize ((w.alloc (.cells #[.int .i64 3,.string x,.int .i64 m,.slice a kl c] 25)).alloc (.cells #[.string ⟨#[]⟩,.bool false,.int .i64 0,.int .i64 0] 76)).drew=W at *
 refine tkP 0 (.pointer (some ⟨w.heap.size,1,none⟩)) hQ ?_
 simp only [Act.put,jA,jB,jC]
 refine tkP 1 (.string x) hQ ?_
 simp only [Act.put,jA,jB,jC]
 refine tkP 2 (.agg #[.int .i64 3,.string x,.int .i64 m,.slice a kl c] ) hQ ?_
 simp only [Act.put,jA,jB,jC]
 refine tkP 4 (.agg #[.int .i64 3,.string x,.int .i64 m,.slice a kl c] ) hQ ?_
 simp only [Act.put,jA,jB,jC]
 refine wpAnyH_ready (rs:=[3,7]) (by kernel_rfl) (by simp) ?_
 refine AllReadyH.cons rfl (fun K hK=>?_) ?_
 ·skip
  go_simp
  go_at_call 155
  refine (hPub _).mono ?_
  rintro e W1 ⟨rfl,hb⟩
  go_wp2
  replace hQ:=Q4.below hQ hb
  replace hB:=hB.trans (hb.mono hB.size)
  replace hR:=hR.below hb
  skip
  refine hK.out _ _ hQ (fun hHeld=>?_)
  clear hK K hHeld hb
  refine wpAnyH_ready (rs:=[5,7]) (by kernel_rfl) (by simp) ?_
  refine AllReadyH.cons rfl (fun K hK=>?_) ?_
  ·skip
   go_simp
   go_at_call 156
   refine (hLab _).mono ?_
   rintro e W2 ⟨rfl,hb⟩
   go_wp2
   replace hQ:=Q4.below hQ hb
   replace hB:=hB.trans (hb.mono hB.size)
   replace hR:=hR.below hb
   skip
   refine hK.out _ _ hQ (fun hHeld=>?_)
   clear hK K hHeld hb
   refine tkP 6 (.agg #[.string x,.bool p,.int .i64 (bI l),.int .i64 0] ) hQ ?_
   simp only [Act.put,jA,jB,jC]
   refine oneH 7 fun K hK=>?_
   go_simp
   have hN:=F4.new W2 (.string ⟨#[]⟩) (.bool false) (.int .i64 0) (.int .i64 0) 76
   have hgt:w.heap.size+1<W2.heap.size:=hR.lt
   replace hQ:=Q4.alloc hQ (.cells #[.string ⟨#[]⟩,.bool false,.int .i64 0,.int .i64 0] 76)
   replace hB:=hB.alloc hB.size (.cells #[.string ⟨#[]⟩,.bool false,.int .i64 0,.int .i64 0] 76)
   replace hR:=hR.alloc (.cells #[.string ⟨#[]⟩,.bool false,.int .i64 0,.int .i64 0] 76)
   refine hK.out _ _ hQ (fun hHeld=>?_)
   clear hK K hHeld
   generalize W2.alloc (.cells #[.string ⟨#[]⟩,.bool false,.int .i64 0,.int .i64 0] 76)=Wa at *
   generalize W2.heap.size=N at *
   refine oneH 8 fun K hK=>?_
   obtain ⟨n0,n1,n2,n3,g0,g1,g2,g3⟩:=id hN
   go_simp
   replace hN:=hN.set4 (.string x) (.bool p) (.int .i64 (bI l)) (.int .i64 0)
   replace hQ:=Q4.set4 (M:=N) (by omega) hQ (.string x) (.bool p) (.int .i64 (bI l)) (.int .i64 0)
   replace hB:=below_set4 (M:=N) hB (by omega) (.string x) (.bool p) (.int .i64 (bI l)) (.int .i64 0)
   replace hR:=hR.other4 (M:=N) (by omega) (.string x) (.bool p) (.int .i64 (bI l)) (.int .i64 0)
   refine hK.out _ _ hQ (fun hHeld=>?_)
   clear hK K hHeld n0 n1 n2 n3 g0 g1 g2 g3
   generalize (World.setCell _ ⟨N,3,none⟩ _)=Wz at *
   refine wpAnyH_done (by kernel_rfl) ?_ _
   obtain ⟨q0,q1,q2,q3⟩:=id hQ
   go_wp2
   go_loopw [16] (fun t wr=>∃ (j:Nat) (y:Int),j≤kl∧Hid (j=kl→y=n.getD 0)∧t=.int .i64 j∧Below w.heap.size w wr∧F4 wr N (.string x) (.bool p) (.int .i64 (bI l)) (.int .i64 y)∧F4 wr (w.heap.size+1) (.string ⟨#[]⟩) (.bool false) (.int .i64 0) (.int .i64 0)) (fun t _=>kl - (intOf t).toNat)
   case atStart=>exact ⟨0,0,Nat.zero_le _,fun e=>(hzero e.symm).symm,rfl,hB,hN,hR⟩
   case round =>
    clear hB hN hR q0 q1 q2 q3 hQ
    obtain ⟨j,y,hj,HY,rfl,hbw,b3,b1⟩:=hrel
    have hs3:=b3.lt
    have hs1:=b1.lt
    obtain ⟨a0,a1,a2,a3,f0,f1,f2,f3⟩:=id b3
    obtain ⟨d0,d1,d2,d3,e0,e1,e2,e3⟩:=id b1
    by_cases hlt:j<kl
    ·obtain ⟨g,o,k,ak,ck,rfl,rfl,rfl,hg,c0,c1,c2,c3⟩:=hkids (by omega)
     have hj0:j=0:=by omega
     subst hj0
     have k0:=keep c0 hbw
     have k1:=keep c1 hbw
     have k2:=keep c2 hbw
     have k3:=keep c3 hbw
     go_wp2
     go_roundw
     case rel=>exact ⟨1,k,by omega,fun _=>rfl,by go_num,(hbw.setCell (by show w.heap.size≤N;omega) _).alloc (by rw [World.size_setCell];exact hbw.size) _,(b3.set3 _).alloc _,(b1.other (by omega) _).alloc _⟩
     case measure=>simp [intOf]
    ·have hj0:j=kl:=by omega
     subst hj0
     have HZ:Hid (y=n.getD 0):=HY.out rfl
     clear HY
     go_wp2
     refine bodyPost_ret (v:=.agg #[.string x,.bool p,.int .i64 (bI l),.int .i64 y]) (by simp [results,Tryz.results129,go_sem,d0,d1,d2,d3]) rfl ⟨by rw [HZ.out];rfl,below_set4 hbw (by omega) _ _ _ _⟩
  refine AllReadyH.cons rfl (fun K hK=>?_) AllReadyH.nil
  go_simp
  have hN:=F4.new W1 (.string ⟨#[]⟩) (.bool false) (.int .i64 0) (.int .i64 0) 76
  have hgt:w.heap.size+1<W1.heap.size:=hR.lt
  replace hQ:=Q4.alloc hQ (.cells #[.string ⟨#[]⟩,.bool false,.int .i64 0,.int .i64 0] 76)
  replace hB:=hB.alloc hB.size (.cells #[.string ⟨#[]⟩,.bool false,.int .i64 0,.int .i64 0] 76)
  replace hR:=hR.alloc (.cells #[.string ⟨#[]⟩,.bool false,.int .i64 0,.int .i64 0] 76)
  refine hK.out _ _ hQ (fun hHeld=>?_)
  clear hK K hHeld
  generalize W1.alloc (.cells #[.string ⟨#[]⟩,.bool false,.int .i64 0,.int .i64 0] 76)=Wa at *
  generalize W1.heap.size=N at *
  refine oneH 5 fun K hK=>?_
  go_simp
  go_at_call 156
  refine (hLab _).mono ?_
  rintro e W2 ⟨rfl,hb⟩
  go_wp2
  replace hQ:=Q4.below hQ hb
  replace hB:=hB.trans (hb.mono hB.size)
  replace hR:=hR.below hb
  replace hN:=hN.below hb
  refine hK.out _ _ hQ (fun hHeld=>?_)
  clear hK K hHeld hb
  refine tkP 6 (.agg #[.string x,.bool p,.int .i64 (bI l),.int .i64 0] ) hQ ?_
  simp only [Act.put,jA,jB,jC]
  refine oneH 8 fun K hK=>?_
  obtain ⟨n0,n1,n2,n3,g0,g1,g2,g3⟩:=id hN
  go_simp
  replace hN:=hN.set4 (.string x) (.bool p) (.int .i64 (bI l)) (.int .i64 0)
  replace hQ:=Q4.set4 (M:=N) (by omega) hQ (.string x) (.bool p) (.int .i64 (bI l)) (.int .i64 0)
  replace hB:=below_set4 (M:=N) hB (by omega) (.string x) (.bool p) (.int .i64 (bI l)) (.int .i64 0)
  replace hR:=hR.other4 (M:=N) (by omega) (.string x) (.bool p) (.int .i64 (bI l)) (.int .i64 0)
  refine hK.out _ _ hQ (fun hHeld=>?_)
  clear hK K hHeld n0 n1 n2 n3 g0 g1 g2 g3
  generalize (World.setCell _ ⟨N,3,none⟩ _)=Wz at *
  refine wpAnyH_done (by kernel_rfl) ?_ _
  obtain ⟨q0,q1,q2,q3⟩:=id hQ
  go_wp2
  go_loopw [16] (fun t wr=>∃ (j:Nat) (y:Int),j≤kl∧Hid (j=kl→y=n.getD 0)∧t=.int .i64 j∧Below w.heap.size w wr∧F4 wr N (.string x) (.bool p) (.int .i64 (bI l)) (.int .i64 y)∧F4 wr (w.heap.size+1) (.string ⟨#[]⟩) (.bool false) (.int .i64 0) (.int .i64 0)) (fun t _=>kl - (intOf t).toNat)
  case atStart=>exact ⟨0,0,Nat.zero_le _,fun e=>(hzero e.symm).symm,rfl,hB,hN,hR⟩
  case round =>
   clear hB hN hR q0 q1 q2 q3 hQ
   obtain ⟨j,y,hj,HY,rfl,hbw,b3,b1⟩:=hrel
   have hs3:=b3.lt
   have hs1:=b1.lt
   obtain ⟨a0,a1,a2,a3,f0,f1,f2,f3⟩:=id b3
   obtain ⟨d0,d1,d2,d3,e0,e1,e2,e3⟩:=id b1
   by_cases hlt:j<kl
   ·obtain ⟨g,o,k,ak,ck,rfl,rfl,rfl,hg,c0,c1,c2,c3⟩:=hkids (by omega)
    have hj0:j=0:=by omega
    subst hj0
    have k0:=keep c0 hbw
    have k1:=keep c1 hbw
    have k2:=keep c2 hbw
    have k3:=keep c3 hbw
    go_wp2
    go_roundw
    case rel=>exact ⟨1,k,by omega,fun _=>rfl,by go_num,(hbw.setCell (by show w.heap.size≤N;omega) _).alloc (by rw [World.size_setCell];exact hbw.size) _,(b3.set3 _).alloc _,(b1.other (by omega) _).alloc _⟩
    case measure=>simp [intOf]
   ·have hj0:j=kl:=by omega
    subst hj0
    have HZ:Hid (y=n.getD 0):=HY.out rfl
    clear HY
    go_wp2
    refine bodyPost_ret (v:=.agg #[.string x,.bool p,.int .i64 (bI l),.int .i64 y]) (by simp [results,Tryz.results129,go_sem,d0,d1,d2,d3]) rfl ⟨by rw [HZ.out];rfl,below_set4 hbw (by omega) _ _ _ _⟩
 refine AllReadyH.cons rfl (fun K hK=>?_) AllReadyH.nil
 go_simp
 have hN:=F4.new W (.string ⟨#[]⟩) (.bool false) (.int .i64 0) (.int .i64 0) 76
 have hgt:w.heap.size+1<W.heap.size:=hR.lt
 replace hQ:=Q4.alloc hQ (.cells #[.string ⟨#[]⟩,.bool false,.int .i64 0,.int .i64 0] 76)
 replace hB:=hB.alloc hB.size (.cells #[.string ⟨#[]⟩,.bool false,.int .i64 0,.int .i64 0] 76)
 replace hR:=hR.alloc (.cells #[.string ⟨#[]⟩,.bool false,.int .i64 0,.int .i64 0] 76)
 refine hK.out _ _ hQ (fun hHeld=>?_)
 clear hK K hHeld
 generalize W.alloc (.cells #[.string ⟨#[]⟩,.bool false,.int .i64 0,.int .i64 0] 76)=Wa at *
 generalize W.heap.size=N at *
 refine oneH 3 fun K hK=>?_
 go_simp
 go_at_call 155
 refine (hPub _).mono ?_
 rintro e W1 ⟨rfl,hb⟩
 go_wp2
 replace hQ:=Q4.below hQ hb
 replace hB:=hB.trans (hb.mono hB.size)
 replace hR:=hR.below hb
 replace hN:=hN.below hb
 refine hK.out _ _ hQ (fun hHeld=>?_)
 clear hK K hHeld hb
 refine oneH 5 fun K hK=>?_
 go_simp
 go_at_call 156
 refine (hLab _).mono ?_
 rintro e W2 ⟨rfl,hb⟩
 go_wp2
 replace hQ:=Q4.below hQ hb
 replace hB:=hB.trans (hb.mono hB.size)
 replace hR:=hR.below hb
 replace hN:=hN.below hb
 refine hK.out _ _ hQ (fun hHeld=>?_)
 clear hK K hHeld hb
 refine tkP 6 (.agg #[.string x,.bool p,.int .i64 (bI l),.int .i64 0] ) hQ ?_
 simp only [Act.put,jA,jB,jC]
 refine oneH 8 fun K hK=>?_
 obtain ⟨n0,n1,n2,n3,g0,g1,g2,g3⟩:=id hN
 go_simp
 replace hN:=hN.set4 (.string x) (.bool p) (.int .i64 (bI l)) (.int .i64 0)
 replace hQ:=Q4.set4 (M:=N) (by omega) hQ (.string x) (.bool p) (.int .i64 (bI l)) (.int .i64 0)
 replace hB:=below_set4 (M:=N) hB (by omega) (.string x) (.bool p) (.int .i64 (bI l)) (.int .i64 0)
 replace hR:=hR.other4 (M:=N) (by omega) (.string x) (.bool p) (.int .i64 (bI l)) (.int .i64 0)
 refine hK.out _ _ hQ (fun hHeld=>?_)
 clear hK K hHeld n0 n1 n2 n3 g0 g1 g2 g3
 generalize (World.setCell _ ⟨N,3,none⟩ _)=Wz at *
 refine wpAnyH_done (by kernel_rfl) ?_ _
 obtain ⟨q0,q1,q2,q3⟩:=id hQ
 go_wp2
 go_loopw [16] (fun t wr=>∃ (j:Nat) (y:Int),j≤kl∧Hid (j=kl→y=n.getD 0)∧t=.int .i64 j∧Below w.heap.size w wr∧F4 wr N (.string x) (.bool p) (.int .i64 (bI l)) (.int .i64 y)∧F4 wr (w.heap.size+1) (.string ⟨#[]⟩) (.bool false) (.int .i64 0) (.int .i64 0)) (fun t _=>kl - (intOf t).toNat)
 case atStart=>exact ⟨0,0,Nat.zero_le _,fun e=>(hzero e.symm).symm,rfl,hB,hN,hR⟩
 case round =>
  clear hB hN hR q0 q1 q2 q3 hQ
  obtain ⟨j,y,hj,HY,rfl,hbw,b3,b1⟩:=hrel
  have hs3:=b3.lt
  have hs1:=b1.lt
  obtain ⟨a0,a1,a2,a3,f0,f1,f2,f3⟩:=id b3
  obtain ⟨d0,d1,d2,d3,e0,e1,e2,e3⟩:=id b1
  by_cases hlt:j<kl
  ·obtain ⟨g,o,k,ak,ck,rfl,rfl,rfl,hg,c0,c1,c2,c3⟩:=hkids (by omega)
   have hj0:j=0:=by omega
   subst hj0
   have k0:=keep c0 hbw
   have k1:=keep c1 hbw
   have k2:=keep c2 hbw
   have k3:=keep c3 hbw
   go_wp2
   go_roundw
   case rel=>exact ⟨1,k,by omega,fun _=>rfl,by go_num,(hbw.setCell (by show w.heap.size≤N;omega) _).alloc (by rw [World.size_setCell];exact hbw.size) _,(b3.set3 _).alloc _,(b1.other (by omega) _).alloc _⟩
   case measure=>simp [intOf]
  ·have hj0:j=kl:=by omega
   subst hj0
   have HZ:Hid (y=n.getD 0):=HY.out rfl
   clear HY
   go_wp2
   refine bodyPost_ret (v:=.agg #[.string x,.bool p,.int .i64 (bI l),.int .i64 y]) (by simp [results,Tryz.results129,go_sem,d0,d1,d2,d3]) rfl ⟨by rw [HZ.out];rfl,below_set4 hbw (by omega) _ _ _ _⟩
section
variable {w w':World} {N M:Nat} {x0 x1 x2 x3 x4 x5:Value}
theorem Box6.other6 (h:Box6 w N x0 x1 x2 x3 x4 x5) (hne:M≠N) (a b c d e f:Value):Box6 ((((((w.setCell ⟨M,0,none⟩ a).setCell ⟨M,1,none⟩ b).setCell ⟨M,2,none⟩ c).setCell ⟨M,3,none⟩ d).setCell ⟨M,4,none⟩ e).setCell ⟨M,5,none⟩ f) N x0 x1 x2 x3 x4 x5:=(((((h.other hne a).other hne b).other hne c).other hne d).other hne e).other hne f
theorem Q4.other {y0 y1 y2 y3:Value} (hne:M≠N) (h:Q4 N y0 y1 y2 y3 w) (o:Nat) (v:Value):Q4 N y0 y1 y2 y3 (w.setCell ⟨M,o,none⟩ v) :=
 ⟨by rw [jD _ _ _ _ (by intro e;cases e;exact hne rfl)];exact h.1,by rw [jD _ _ _ _ (by intro e;cases e;exact hne rfl)];exact h.2.1,by rw [jD _ _ _ _ (by intro e;cases e;exact hne rfl)];exact h.2.2.1,by rw [jD _ _ _ _ (by intro e;cases e;exact hne rfl)];exact h.2.2.2⟩
theorem Q4.other6 {y0 y1 y2 y3:Value} (hne:M≠N) (h:Q4 N y0 y1 y2 y3 w) (a b c d e f:Value):Q4 N y0 y1 y2 y3 ((((((w.setCell ⟨M,0,none⟩ a).setCell ⟨M,1,none⟩ b).setCell ⟨M,2,none⟩ c).setCell ⟨M,3,none⟩ d).setCell ⟨M,4,none⟩ e).setCell ⟨M,5,none⟩ f) :=
 Q4.other hne (Q4.other hne (Q4.other hne (Q4.other hne (Q4.other hne (Q4.other hne h 0 a) 1 b) 2 c) 3 d) 4 e) 5 f
theorem below_set6 {B:Nat} {a:World} (h:Below B a w) (hM:B≤M) (x0 x1 x2 x3 x4 x5:Value):Below B a ((((((w.setCell ⟨M,0,none⟩ x0).setCell ⟨M,1,none⟩ x1).setCell ⟨M,2,none⟩ x2).setCell ⟨M,3,none⟩ x3).setCell ⟨M,4,none⟩ x4).setCell ⟨M,5,none⟩ x5):=(((((h.setCell hM _).setCell hM _).setCell hM _).setCell hM _).setCell hM _).setCell hM _
theorem Box6.set0 (h:Box6 w N x0 x1 x2 x3 x4 x5) (v:Value):Box6 (w.setCell ⟨N,0,none⟩ v) N v x1 x2 x3 x4 x5 :=
 ⟨World.cell?_setCell_same _ _ _ h.c0,by rw [jD _ _ _ _ (by simp)];exact h.c1,by rw [jD _ _ _ _ (by simp)];exact h.c2,by rw [jD _ _ _ _ (by simp)];exact h.c3,by rw [jD _ _ _ _ (by simp)];exact h.c4,by rw [jD _ _ _ _ (by simp)];exact h.c5,by simp [h.f0],by simp [h.f1],by simp [h.f2],by simp [h.f3],by simp [h.f4],by simp [h.f5]⟩
theorem Box6.set1 (h:Box6 w N x0 x1 x2 x3 x4 x5) (v:Value):Box6 (w.setCell ⟨N,1,none⟩ v) N x0 v x2 x3 x4 x5 :=
 ⟨by rw [jD _ _ _ _ (by simp)];exact h.c0,World.cell?_setCell_same _ _ _ h.c1,by rw [jD _ _ _ _ (by simp)];exact h.c2,by rw [jD _ _ _ _ (by simp)];exact h.c3,by rw [jD _ _ _ _ (by simp)];exact h.c4,by rw [jD _ _ _ _ (by simp)];exact h.c5,by simp [h.f0],by simp [h.f1],by simp [h.f2],by simp [h.f3],by simp [h.f4],by simp [h.f5]⟩
theorem Box6.set3 (h:Box6 w N x0 x1 x2 x3 x4 x5) (v:Value):Box6 (w.setCell ⟨N,3,none⟩ v) N x0 x1 x2 v x4 x5 :=
 ⟨by rw [jD _ _ _ _ (by simp)];exact h.c0,by rw [jD _ _ _ _ (by simp)];exact h.c1,by rw [jD _ _ _ _ (by simp)];exact h.c2,World.cell?_setCell_same _ _ _ h.c3,by rw [jD _ _ _ _ (by simp)];exact h.c4,by rw [jD _ _ _ _ (by simp)];exact h.c5,by simp [h.f0],by simp [h.f1],by simp [h.f2],by simp [h.f3],by simp [h.f4],by simp [h.f5]⟩
theorem Box6.set4 (h:Box6 w N x0 x1 x2 x3 x4 x5) (v:Value):Box6 (w.setCell ⟨N,4,none⟩ v) N x0 x1 x2 x3 v x5 :=
 ⟨by rw [jD _ _ _ _ (by simp)];exact h.c0,by rw [jD _ _ _ _ (by simp)];exact h.c1,by rw [jD _ _ _ _ (by simp)];exact h.c2,by rw [jD _ _ _ _ (by simp)];exact h.c3,World.cell?_setCell_same _ _ _ h.c4,by rw [jD _ _ _ _ (by simp)];exact h.c5,by simp [h.f0],by simp [h.f1],by simp [h.f2],by simp [h.f3],by simp [h.f4],by simp [h.f5]⟩
theorem Box6.set5 (h:Box6 w N x0 x1 x2 x3 x4 x5) (v:Value):Box6 (w.setCell ⟨N,5,none⟩ v) N x0 x1 x2 x3 x4 v :=
 ⟨by rw [jD _ _ _ _ (by simp)];exact h.c0,by rw [jD _ _ _ _ (by simp)];exact h.c1,by rw [jD _ _ _ _ (by simp)];exact h.c2,by rw [jD _ _ _ _ (by simp)];exact h.c3,by rw [jD _ _ _ _ (by simp)];exact h.c4,World.cell?_setCell_same _ _ _ h.c5,by simp [h.f0],by simp [h.f1],by simp [h.f2],by simp [h.f3],by simp [h.f4],by simp [h.f5]⟩
theorem Box6.put (h:Box6 w N x0 x1 x2 x3 x4 x5) (a b c d e f:Value):Box6 ((((((w.setCell ⟨N,0,none⟩ a).setCell ⟨N,1,none⟩ b).setCell ⟨N,2,none⟩ c).setCell ⟨N,3,none⟩ d).setCell ⟨N,4,none⟩ e).setCell ⟨N,5,none⟩ f) N a b c d e f:=(((((h.set0 a).set1 b).set2 c).set3 d).set4 e).set5 f
end
theorem par_cells4 {w wr:World} {ps:List (ByteArray × Bool)} {b:Tree} {g o:Nat} (hg:g<w.heap.size) (hat:LiesAt (·<w.heap.size) w (ps.map parT++[b]) g o) (hb:Below w.heap.size w wr) {j:Nat} (hj:j<ps.length) :
  ∃ (y:ByteArray) (a:Option Addr) (c:Nat),wr.cell? ⟨g,o+j*4,none⟩=some (.int .i64 5)∧wr.cell? ⟨g,o+j*4+1,none⟩=some (.string y)∧wr.cell? ⟨g,o+j*4+2,none⟩=some (.int .i64 (bI ps[j].2))∧wr.cell? ⟨g,o+j*4+3,none⟩=some (.slice a 0 c):=by
 obtain ⟨x0,x1,x2,x3,c0,c1,c2,c3,hl⟩:=hat.kid hg hb (j:=j) (by simp;omega)
 rw [List.getElem_append_left (by simpa using hj),List.getElem_map] at hl
 unfold parT Lies at hl
 obtain ⟨a,c,e,_,_⟩:=hl
 cases e
 exact ⟨_,a,c,c0,c1,c2,c3⟩
theorem last_cells {w wr:World} {ps:List (ByteArray × Bool)} {b:Tree} {g o:Nat} (hg:g<w.heap.size) (hat:LiesAt (·<w.heap.size) w (ps.map parT++[b]) g o) (hb:Below w.heap.size w wr) (hI:InT b) :
  ∃ (k m:Int) (y:ByteArray) (a:Option Addr) (n c:Nat),k≠5∧wr.cell? ⟨g,o+ps.length*4,none⟩=some (.int .i64 k)∧wr.cell? ⟨g,o+ps.length*4+1,none⟩=some (.string y)∧wr.cell? ⟨g,o+ps.length*4+2,none⟩=some (.int .i64 m)∧wr.cell? ⟨g,o+ps.length*4+3,none⟩=some (.slice a n c):=by
 obtain ⟨x0,x1,x2,x3,c0,c1,c2,c3,hl⟩:=hat.kid hg hb (j:=ps.length) (by simp)
 rw [List.getElem_append_right (by simp)] at hl
 simp only [List.length_map,Nat.sub_self,List.getElem_cons_zero] at hl
 obtain ⟨k,y,m,ks⟩:=b
 unfold InT at hI
 unfold Lies at hl
 obtain ⟨a,c,e,_,_⟩:=hl
 cases e
 exact ⟨k,m,y,a,_,c,by omega,c0,c1,c2,c3⟩
theorem row_keep {w w':World} {B:Nat} {e:TypeId} {k n:Nat} {v:Value} {xs:List Value} (h:w.ownsRow B e k v n xs) (hb:Below w.heap.size w w'):w'.ownsRow B e k v n xs :=
 h.kept (row:=none) ⟨hb.os,hb.tape,hb.output,hb.size,fun j hj _=>hb.block j hj⟩ (by cases v.ownBlock<;>simp)
theorem row_set6 {w:World} {B:Nat} {e:TypeId} {k n M:Nat} {v:Value} {xs:List Value} (h:w.ownsRow B e k v n xs) (hne:v.ownBlock≠some M) (x0 x1 x2 x3 x4 x5:Value):((((((w.setCell ⟨M,0,none⟩ x0).setCell ⟨M,1,none⟩ x1).setCell ⟨M,2,none⟩ x2).setCell ⟨M,3,none⟩ x3).setCell ⟨M,4,none⟩ x4).setCell ⟨M,5,none⟩ x5).ownsRow B e k v n xs :=
 ownsRow_setCell_other (ownsRow_setCell_other (ownsRow_setCell_other (ownsRow_setCell_other (ownsRow_setCell_other (ownsRow_setCell_other h hne _) hne _) hne _) hne _) hne _) hne _
theorem Q4.grown {w w':World} {N:Nat} {y0 y1 y2 y3:Value} {row:Option Nat} (h:Q4 N y0 y1 y2 y3 w) (hg:w.grownBy w' row) (hne:row≠some N):Q4 N y0 y1 y2 y3 w':=⟨cell_grown hg h.1 hne,cell_grown hg h.2.1 hne,cell_grown hg h.2.2.1 hne,cell_grown hg h.2.2.2 hne⟩
theorem bits_par (q:Bool):bits BinOp.and IntKind.i64 (bI q) 1=bI q:=by cases q<;>decide +kernel
set_option maxHeartbeats 4000000 in
theorem oProcOf (x:ByteArray) (p l:Bool) (gv:Option Bool) (ps:List (ByteArray × Bool)) (b:Tree) (v:Value) (w:World) (hv:Lies (·<w.heap.size) w (Kid.proc x p l gv ps b).tree v) (hP:ps.length≤1000) (hInT:InT b) :
  Calls Tryz.prog 130 #[v] w fun e w'=>∃ u,e=.returned (procV (procD x p l gv ps) u)∧w'.ownsRow w.heap.size 3 1 u ps.length (intV (ps.map fun q=>bI q.2))∧Below w.heap.size w w':=by
 have c24:=kc25
 have c6:Tryz.prog.cellsOf 80=6:=cell6
 have c1:Tryz.prog.cellsOf 3=1:=cell1i
 obtain ⟨i0,hi,hz0,hz1,hz2⟩:=info_parts infoI
 have HP:=bits_pub p l gv
 have HL:=bits_low p l gv
 have HG:Hid (bits BinOp.and IntKind.i64 (2*bI p+bI l+gI gv) 12=gI gv):=bits_gives p l gv
 unfold Kid.tree Lies at hv
 obtain ⟨a,c,rfl,hl,hk⟩:=hv
 obtain ⟨g,o,rfl,hg,hat⟩:=hk (by simp)
 clear hk
 have hlen:(ps.map parT++[b]).length=ps.length+1:=by simp
 rw [hlen] at hl ⊢
 obtain ⟨n1,hn1⟩:∃ n1,n1=ps.length+1:=⟨_,rfl⟩
 rw [← hn1] at hl ⊢
 have HN1:Hid (n1=ps.length+1):=hn1
 clear hn1 hlen
 generalize 2*bI p+bI l+gI gv=m at HP HL HG
 have hPub:∀ W,Calls Tryz.prog 155 #[.agg #[.int .i64 4,.string x,.int .i64 m,.slice (some ⟨g,o,none⟩) n1 c]] W fun e w'=>e=.returned (.bool p)∧Below W.heap.size W w':=fun W=>by have:=oIsPub 4 x m (some ⟨g,o,none⟩) n1 c W;rw [HP] at this;exact this
 have hLab:∀ W,Calls Tryz.prog 156 #[.agg #[.int .i64 4,.string x,.int .i64 m,.slice (some ⟨g,o,none⟩) n1 c]] W fun e w'=>e=.returned (.int .i64 (bI l))∧Below W.heap.size W w':=fun W=>by have:=oLabelOf 4 x m (some ⟨g,o,none⟩) n1 c W;rw [HL] at this;exact this
 clear HP HL
 have hQ:Q4 w.heap.size (.int .i64 4) (.string x) (.int .i64 m) (.slice (some ⟨g,o,none⟩) n1 c) ((w.alloc (.cells #[.int .i64 4,.string x,.int .i64 m,.slice (some ⟨g,o,none⟩) n1 c] 25)).alloc (.cells #[.string ⟨#[]⟩,.bool false,.slice none 0 0,.int .i64 0,.bool false,.int .i64 0] 80)).drew:=⟨by simp,by simp,by simp,by simp⟩
 have hB:Below w.heap.size w ((w.alloc (.cells #[.int .i64 4,.string x,.int .i64 m,.slice (some ⟨g,o,none⟩) n1 c] 25)).alloc (.cells #[.string ⟨#[]⟩,.bool false,.slice none 0 0,.int .i64 0,.bool false,.int .i64 0] 80)).drew:=(Joins.below_alloc2 w (.cells #[.int .i64 4,.string x,.int .i64 m,.slice (some ⟨g,o,none⟩) n1 c] 25) (.cells #[.string ⟨#[]⟩,.bool false,.slice none 0 0,.int .i64 0,.bool false,.int .i64 0] 80)).drew
 have hR:Box6 ((w.alloc (.cells #[.int .i64 4,.string x,.int .i64 m,.slice (some ⟨g,o,none⟩) n1 c] 25)).alloc (.cells #[.string ⟨#[]⟩,.bool false,.slice none 0 0,.int .i64 0,.bool false,.int .i64 0] 80)).drew (w.heap.size+1) (.string ⟨#[]⟩) (.bool false) (.slice none 0 0) (.int .i64 0) (.bool false) (.int .i64 0):=by constructor<;>simp
 go_enter Tryz.func130,Tryz.ntmps130
 go_wp2
 refine wp_region_held_drew (S:=fun W=>Q4 w.heap.size (.int .i64 4) (.string x) (.int .i64 m) (.slice (some ⟨g,o,none⟩) n1 c) W) (by kernel_rfl) hQ (fun hHeld=>?_)
 clear hHeld
 generalize ((w.alloc (.cells #[.int .i64 4,.string x,.int .i64 m,.slice (some ⟨g,o,none⟩) n1 c] 25)).alloc (.cells #[.string ⟨#[]⟩,.bool false,.slice none 0 0,.int .i64 0,.bool false,.int .i64 0] 80)).drew=W at *
 rename_i Q' K0 hK0
 have HF:∀ (N:Nat) (W:World),w.heap.size+1<N→Q4 w.heap.size (.int .i64 4) (.string x) (.int .i64 m) (.slice (some ⟨g,o,none⟩) n1 c) W→Below w.heap.size w W→Box6 W (w.heap.size+1) (.string ⟨#[]⟩) (.bool false) (.slice none 0 0) (.int .i64 0) (.bool false) (.int .i64 0)→Box6 W N (.string x) (.bool p) (.slice none 0 0) (.int .i64 (bI l)) (.bool false) (.int .i64 0)→Exit.then K0 Q' Exit.normal { tmps:=#[.agg #[.int .i64 4,.string x,.int .i64 m,.slice (some ⟨g,o,none⟩) n1 c],.pointer (some ⟨w.heap.size,0,none⟩),.pointer (some ⟨w.heap.size+1,0,none⟩),.pointer (some ⟨N,0,none⟩),undef,undef,.pointer (some ⟨w.heap.size,1,none⟩),.string x,.agg #[.int .i64 4,.string x,.int .i64 m,.slice (some ⟨g,o,none⟩) n1 c],.bool p,.agg #[.int .i64 4,.string x,.int .i64 m,.slice (some ⟨g,o,none⟩) n1 c],.int .i64 (bI l),.agg #[.string x,.bool p,.slice none 0 0,.int .i64 (bI l),.bool false,.int .i64 0],undef,undef,undef,undef,undef,undef,undef,undef,undef,undef,undef,undef,undef,undef,undef,undef,undef,undef,undef,undef,undef,undef,undef,undef,undef,undef,undef,undef,undef,undef],defers:=[] } W:=by
  clear hQ hB hR W
  intro N Wz hgt hQ hB hR hN
  obtain ⟨_,_,q2,q3⟩:=id hQ
  have hsz:=hN.lt
  go_wp2
  go_loopw [16] (fun t wr=>∃ (j:Nat) (u:Value),j≤n1∧t=.int .i64 j∧wr.ownsRow (N+1) 3 1 u ((ps.take j).map fun q=>bI q.2).length (intV ((ps.take j).map fun q=>bI q.2))∧Below w.heap.size w wr∧wr.cell? ⟨w.heap.size,2,none⟩=some (.int .i64 m) ∧
    Box6 wr (w.heap.size+1) (.string ⟨#[]⟩) (.bool false) (.slice none 0 0) (.int .i64 0) (.bool false) (.int .i64 0)∧Box6 wr N (.string x) (.bool p) u (.int .i64 (bI l)) (.bool false) (.int .i64 0)) (fun t _=>n1 - (intOf t).toNat)
  case atStart=>exact ⟨0,.slice none 0 0,Nat.zero_le _,rfl,World.ownsRow_nil _ _ _ _,hB,q2,hR,hN⟩
  case round =>
   clear hB hN hR q2 q3 hQ hsz
   obtain ⟨j,u,hj,rfl,hown,hB,q2,b1,bN⟩:=hrel
   have hs2:=bN.lt
   by_cases hlt:j<ps.length
   ·skip
    obtain ⟨y0,ak,ck,k0,k1,k2,k3⟩:=par_cells4 hg hat hB hlt
    have HT:Hid (((ps.take (j+1)).map fun q=>bI q.2)=((ps.take j).map fun q=>bI q.2)++[bI ps[j].2]):=take_par ps j hlt
    have hpar:∀ W,Calls Tryz.prog 156 #[.agg #[.int .i64 5,.string y0,.int .i64 (bI ps[j].2),.slice ak 0 ck]] W fun e w'=>e=.returned (.int .i64 (bI ps[j].2))∧Below W.heap.size W w':=fun W=>by have:=oLabelOf 5 y0 (bI ps[j].2) ak 0 ck W;rw [bits_par] at this;exact this
    have hj1:j<n1:=by have:=HN1.out;omega
    have hn1:n1≤1001:=by have:=HN1.out;omega
    have hLl:((ps.take j).map fun q=>bI q.2).length=j:=by simp;omega
    generalize bI ps[j].2=y at k2 HT hpar
    generalize ((ps.take j).map fun q=>bI q.2)=L at hown HT hLl
    clear hat
    rw [hLl] at hown
    obtain ⟨an,cn,rfl,_,_⟩:=lexs.own_shape hown
    have hrow:∀ k,(Value.slice an j cn).ownBlock=some k→N<k∧k<wr.heap.size:=fun k e=>by have:=hown.lt _ e;omega
    go_wp2
    have hQ:Q4 wr.heap.size (.int .i64 5) (.string y0) (.int .i64 y) (.slice ak 0 ck) (wr.alloc (.cells #[.int .i64 5,.string y0,.int .i64 y,.slice ak 0 ck] 25)).drew:=⟨by simp,by simp,by simp,by simp⟩
    replace hB:=(hB.alloc hB.size (.cells #[.int .i64 5,.string y0,.int .i64 y,.slice ak 0 ck] 25)).drew
    replace hown:(wr.alloc (.cells #[.int .i64 5,.string y0,.int .i64 y,.slice ak 0 ck] 25)).drew.ownsRow (N+1) 3 1 (.slice an j cn) j (intV L):=hown.alloc _
    replace b1:=(b1.alloc (.cells #[.int .i64 5,.string y0,.int .i64 y,.slice ak 0 ck] 25)).drew
    replace bN:=(bN.alloc (.cells #[.int .i64 5,.string y0,.int .i64 y,.slice ak 0 ck] 25)).drew
    replace q2:(wr.alloc (.cells #[.int .i64 5,.string y0,.int .i64 y,.slice ak 0 ck] 25)).drew.cell? ⟨w.heap.size,2,none⟩=some (.int .i64 m):=cell_new q2 _
    refine wp_region_held_drew (S:=fun W=>Q4 wr.heap.size (.int .i64 5) (.string y0) (.int .i64 y) (.slice ak 0 ck) W) (by kernel_rfl) hQ (fun hHeld=>?_)
    clear hHeld
    generalize (wr.alloc (.cells #[.int .i64 5,.string y0,.int .i64 y,.slice ak 0 ck] 25)).drew=Wk at *
    generalize wr.heap.size=bk at *
    clear k0 k1 k2 k3
    refine tkP 0 (.pointer (some ⟨N,2,none⟩)) hQ ?_
    simp only [Act.put,jA,jB,jC]
    refine tkP 2 (.agg #[.int .i64 5,.string y0,.int .i64 y,.slice ak 0 ck] ) hQ ?_
    simp only [Act.put,jA,jB,jC]
    refine wpAnyH_ready (rs:=[1,3]) (by kernel_rfl) (by simp) ?_
    refine AllReadyH.cons rfl (fun K hK=>?_) ?_
    ·skip
     have m2:=bN.c2
     go_simp
     refine hK.out _ _ hQ (fun hHeld=>?_)
     clear hK K hHeld m2
     refine oneH 3 fun K hK=>?_
     go_simp
     go_at_call 156
     refine (hpar _).mono ?_
     rintro e W1 ⟨rfl,hb⟩
     go_wp2
     replace hQ:=Q4.below hQ hb
     replace hB:=hB.trans (hb.mono hB.size)
     replace b1:=b1.below hb
     replace bN:=bN.below hb
     replace q2:=keep q2 hb
     replace hown:=row_keep hown hb
     refine hK.out _ _ hQ (fun hHeld=>?_)
     clear hK K hHeld hb
     refine oneH 4 fun K hK=>?_
     go_simp
     have hsl:∀ j u,[Value.int .i64 y][j]?=some u→(W1.alloc (.cells #[.int .i64 y] 3)).cell? ((⟨W1.heap.size,0,none⟩:Addr).add j)=some u:=cell_one _ _ _ rfl
     have hss:W1.heap.size+1=(W1.alloc (.cells #[.int .i64 y] 3)).heap.size:=by simp
     have hrw:∀ k,(Value.slice an j cn).ownBlock=some k→k≠W1.heap.size:=fun k e=>by have:=(hown.lt _ e).2;omega
     replace hQ:=Q4.alloc hQ (.cells #[.int .i64 y] 3)
     replace hB:=hB.alloc hB.size (.cells #[.int .i64 y] 3)
     replace b1:=b1.alloc (.cells #[.int .i64 y] 3)
     replace bN:=bN.alloc (.cells #[.int .i64 y] 3)
     replace q2:=cell_new q2 (.cells #[.int .i64 y] 3)
     replace hown:=hown.alloc (.cells #[.int .i64 y] 3)
     refine hK.out _ _ hQ (fun hHeld=>?_)
     clear hK K hHeld
     generalize W1.alloc (.cells #[.int .i64 y] 3)=W2 at *
     generalize W1.heap.size=s0 at *
     refine oneH 5 fun K hK=>?_
     refine step_append_lies _ (by rfl) (.tmp 24) (.tmp 27) 51 (by rfl) (N+1) 3 i0 (.int .i64 0) 1 8 Tryz.underlying51 hi hz0 hz1 hz2 rfl (by decide) (.slice an j cn) j (intV L) (by simp [Act.eval,Act.put]) hown ⟨s0,0,none⟩ 1 1 [.int .i64 y] (by simp [Act.eval,Act.put]) rfl hsl (one_int _) (by omega) (by unfold maxLen;omega) (by omega) (by have:=bN.lt;omega) (s0+1) hss.symm ?_
     intro g5 cap5 w5 hown5 hgrow5 hat5 hlt5
     have hrb:(Value.slice an j cn).ownBlock≠some bk:=fun e=>by have:=hrow _ e;omega
     have hr1:(Value.slice an j cn).ownBlock≠some (w.heap.size+1):=fun e=>by have:=hrow _ e;omega
     have hr0:(Value.slice an j cn).ownBlock≠some w.heap.size:=fun e=>by have:=hrow _ e;omega
     have hrN:(Value.slice an j cn).ownBlock≠some N:=fun e=>by have:=hrow _ e;omega
     replace hQ:=Q4.grown hQ hgrow5 hrb
     have hgN:N<g5:=by rcases hat5 with e | e;exact (hrow _ e).1;have:=bN.lt;omega
     replace hB:=Below.grown hB hgrow5 hB.size (fun k hk=>by have:=hrow _ hk;omega)
     replace b1:=b1.grown hgrow5 hr1
     replace bN:=bN.grown hgrow5 hrN
     replace q2:=cell_grown hgrow5 q2 hr0
     refine hK.out _ _ hQ (fun hHeld=>?_)
     clear hK K hHeld
     simp only [Act.put,jA,jB,jC]
     refine tkP 6 (.pointer (some ⟨N,2,none⟩)) hQ ?_
     simp only [Act.put,jA,jB,jC]
     refine oneH 7 fun K hK=>?_
     have m2:=bN.c2
     have mf:=bN.f2
     go_simp
     refine hK.out _ _ (Q4.other (by omega) hQ _ _) (fun hHeld=>?_)
     clear hK K hHeld m2 mf
     refine wpAnyH_done (by kernel_rfl) ?_ _
     go_wp2
     go_roundw
     case rel =>
      refine ⟨j+1,.slice (some ⟨g5,0,none⟩) (j+1) cap5,by omega,by go_num,?_,hB.setCell (by show w.heap.size≤N;omega) _,?_,b1.other (by omega) _,bN.set2 _⟩
      ·rw [HT.out,intV_snoc,List.length_append,hLl]
       exact ownsRow_setCell_other hown5 (by show some g5≠some N;simp;omega) _
      ·rw [jD _ _ _ _ (by intro e;cases e;omega)]
       exact q2
     case measure=>simp [intOf];omega
    refine AllReadyH.cons rfl (fun K hK=>?_) AllReadyH.nil
    go_simp
    go_at_call 156
    refine (hpar _).mono ?_
    rintro e W1 ⟨rfl,hb⟩
    go_wp2
    replace hQ:=Q4.below hQ hb
    replace hB:=hB.trans (hb.mono hB.size)
    replace b1:=b1.below hb
    replace bN:=bN.below hb
    replace q2:=keep q2 hb
    replace hown:=row_keep hown hb
    refine hK.out _ _ hQ (fun hHeld=>?_)
    clear hK K hHeld hb
    refine wpAnyH_ready (rs:=[1,4]) (by kernel_rfl) (by simp) ?_
    refine AllReadyH.cons rfl (fun K hK=>?_) ?_
    ·skip
     have m2:=bN.c2
     go_simp
     refine hK.out _ _ hQ (fun hHeld=>?_)
     clear hK K hHeld m2
     refine oneH 4 fun K hK=>?_
     go_simp
     have hsl:∀ j u,[Value.int .i64 y][j]?=some u→(W1.alloc (.cells #[.int .i64 y] 3)).cell? ((⟨W1.heap.size,0,none⟩:Addr).add j)=some u:=cell_one _ _ _ rfl
     have hss:W1.heap.size+1=(W1.alloc (.cells #[.int .i64 y] 3)).heap.size:=by simp
     have hrw:∀ k,(Value.slice an j cn).ownBlock=some k→k≠W1.heap.size:=fun k e=>by have:=(hown.lt _ e).2;omega
     replace hQ:=Q4.alloc hQ (.cells #[.int .i64 y] 3)
     replace hB:=hB.alloc hB.size (.cells #[.int .i64 y] 3)
     replace b1:=b1.alloc (.cells #[.int .i64 y] 3)
     replace bN:=bN.alloc (.cells #[.int .i64 y] 3)
     replace q2:=cell_new q2 (.cells #[.int .i64 y] 3)
     replace hown:=hown.alloc (.cells #[.int .i64 y] 3)
     refine hK.out _ _ hQ (fun hHeld=>?_)
     clear hK K hHeld
     generalize W1.alloc (.cells #[.int .i64 y] 3)=W2 at *
     generalize W1.heap.size=s0 at *
     refine oneH 5 fun K hK=>?_
     refine step_append_lies _ (by rfl) (.tmp 24) (.tmp 27) 51 (by rfl) (N+1) 3 i0 (.int .i64 0) 1 8 Tryz.underlying51 hi hz0 hz1 hz2 rfl (by decide) (.slice an j cn) j (intV L) (by simp [Act.eval,Act.put]) hown ⟨s0,0,none⟩ 1 1 [.int .i64 y] (by simp [Act.eval,Act.put]) rfl hsl (one_int _) (by omega) (by unfold maxLen;omega) (by omega) (by have:=bN.lt;omega) (s0+1) hss.symm ?_
     intro g5 cap5 w5 hown5 hgrow5 hat5 hlt5
     have hrb:(Value.slice an j cn).ownBlock≠some bk:=fun e=>by have:=hrow _ e;omega
     have hr1:(Value.slice an j cn).ownBlock≠some (w.heap.size+1):=fun e=>by have:=hrow _ e;omega
     have hr0:(Value.slice an j cn).ownBlock≠some w.heap.size:=fun e=>by have:=hrow _ e;omega
     have hrN:(Value.slice an j cn).ownBlock≠some N:=fun e=>by have:=hrow _ e;omega
     replace hQ:=Q4.grown hQ hgrow5 hrb
     have hgN:N<g5:=by rcases hat5 with e | e;exact (hrow _ e).1;have:=bN.lt;omega
     replace hB:=Below.grown hB hgrow5 hB.size (fun k hk=>by have:=hrow _ hk;omega)
     replace b1:=b1.grown hgrow5 hr1
     replace bN:=bN.grown hgrow5 hrN
     replace q2:=cell_grown hgrow5 q2 hr0
     refine hK.out _ _ hQ (fun hHeld=>?_)
     clear hK K hHeld
     simp only [Act.put,jA,jB,jC]
     refine tkP 6 (.pointer (some ⟨N,2,none⟩)) hQ ?_
     simp only [Act.put,jA,jB,jC]
     refine oneH 7 fun K hK=>?_
     have m2:=bN.c2
     have mf:=bN.f2
     go_simp
     refine hK.out _ _ (Q4.other (by omega) hQ _ _) (fun hHeld=>?_)
     clear hK K hHeld m2 mf
     refine wpAnyH_done (by kernel_rfl) ?_ _
     go_wp2
     go_roundw
     case rel =>
      refine ⟨j+1,.slice (some ⟨g5,0,none⟩) (j+1) cap5,by omega,by go_num,?_,hB.setCell (by show w.heap.size≤N;omega) _,?_,b1.other (by omega) _,bN.set2 _⟩
      ·rw [HT.out,intV_snoc,List.length_append,hLl]
       exact ownsRow_setCell_other hown5 (by show some g5≠some N;simp;omega) _
      ·rw [jD _ _ _ _ (by intro e;cases e;omega)]
       exact q2
     case measure=>simp [intOf];omega
    refine AllReadyH.cons rfl (fun K hK=>?_) AllReadyH.nil
    go_simp
    have hsl:∀ j u,[Value.int .i64 y][j]?=some u→(W1.alloc (.cells #[.int .i64 y] 3)).cell? ((⟨W1.heap.size,0,none⟩:Addr).add j)=some u:=cell_one _ _ _ rfl
    have hss:W1.heap.size+1=(W1.alloc (.cells #[.int .i64 y] 3)).heap.size:=by simp
    have hrw:∀ k,(Value.slice an j cn).ownBlock=some k→k≠W1.heap.size:=fun k e=>by have:=(hown.lt _ e).2;omega
    replace hQ:=Q4.alloc hQ (.cells #[.int .i64 y] 3)
    replace hB:=hB.alloc hB.size (.cells #[.int .i64 y] 3)
    replace b1:=b1.alloc (.cells #[.int .i64 y] 3)
    replace bN:=bN.alloc (.cells #[.int .i64 y] 3)
    replace q2:=cell_new q2 (.cells #[.int .i64 y] 3)
    replace hown:=hown.alloc (.cells #[.int .i64 y] 3)
    refine hK.out _ _ hQ (fun hHeld=>?_)
    clear hK K hHeld
    generalize W1.alloc (.cells #[.int .i64 y] 3)=W2 at *
    generalize W1.heap.size=s0 at *
    refine oneH 1 fun K hK=>?_
    have m2:=bN.c2
    go_simp
    refine hK.out _ _ hQ (fun hHeld=>?_)
    clear hK K hHeld m2
    refine oneH 5 fun K hK=>?_
    refine step_append_lies _ (by rfl) (.tmp 24) (.tmp 27) 51 (by rfl) (N+1) 3 i0 (.int .i64 0) 1 8 Tryz.underlying51 hi hz0 hz1 hz2 rfl (by decide) (.slice an j cn) j (intV L) (by simp [Act.eval,Act.put]) hown ⟨s0,0,none⟩ 1 1 [.int .i64 y] (by simp [Act.eval,Act.put]) rfl hsl (one_int _) (by omega) (by unfold maxLen;omega) (by omega) (by have:=bN.lt;omega) (s0+1) hss.symm ?_
    intro g5 cap5 w5 hown5 hgrow5 hat5 hlt5
    have hrb:(Value.slice an j cn).ownBlock≠some bk:=fun e=>by have:=hrow _ e;omega
    have hr1:(Value.slice an j cn).ownBlock≠some (w.heap.size+1):=fun e=>by have:=hrow _ e;omega
    have hr0:(Value.slice an j cn).ownBlock≠some w.heap.size:=fun e=>by have:=hrow _ e;omega
    have hrN:(Value.slice an j cn).ownBlock≠some N:=fun e=>by have:=hrow _ e;omega
    replace hQ:=Q4.grown hQ hgrow5 hrb
    have hgN:N<g5:=by rcases hat5 with e | e;exact (hrow _ e).1;have:=bN.lt;omega
    replace hB:=Below.grown hB hgrow5 hB.size (fun k hk=>by have:=hrow _ hk;omega)
    replace b1:=b1.grown hgrow5 hr1
    replace bN:=bN.grown hgrow5 hrN
    replace q2:=cell_grown hgrow5 q2 hr0
    refine hK.out _ _ hQ (fun hHeld=>?_)
    clear hK K hHeld
    simp only [Act.put,jA,jB,jC]
    refine tkP 6 (.pointer (some ⟨N,2,none⟩)) hQ ?_
    simp only [Act.put,jA,jB,jC]
    refine oneH 7 fun K hK=>?_
    have m2:=bN.c2
    have mf:=bN.f2
    go_simp
    refine hK.out _ _ (Q4.other (by omega) hQ _ _) (fun hHeld=>?_)
    clear hK K hHeld m2 mf
    refine wpAnyH_done (by kernel_rfl) ?_ _
    go_wp2
    go_roundw
    case rel =>
     refine ⟨j+1,.slice (some ⟨g5,0,none⟩) (j+1) cap5,by omega,by go_num,?_,hB.setCell (by show w.heap.size≤N;omega) _,?_,b1.other (by omega) _,bN.set2 _⟩
     ·rw [HT.out,intV_snoc,List.length_append,hLl]
      exact ownsRow_setCell_other hown5 (by show some g5≠some N;simp;omega) _
     ·rw [jD _ _ _ _ (by intro e;cases e;omega)]
      exact q2
    case measure=>simp [intOf];omega
   by_cases hlt2:j<n1
   ·skip
    have hje:j=ps.length:=by have:=HN1.out;omega
    subst hje
    obtain ⟨k,mm,y0,ak,nk,ck,hk5,k0,k1,k2,k3⟩:=last_cells hg hat hB hInT
    have hn1:n1≤1001:=by have:=HN1.out;omega
    have HT:Hid (ps.take (ps.length+1)=ps.take ps.length):=by show _=_;rw [List.take_length,List.take_of_length_le (by omega)]
    clear hat
    go_wp2
    go_roundw
    case rel=>exact ⟨ps.length+1,u,by omega,by go_num,by rw [HT.out];exact hown.alloc _,hB.alloc hB.size _,cell_new q2 _,b1.alloc _,bN.alloc _⟩
    case measure=>simp [intOf];omega
   have hje:j=n1:=by omega
   subst hje
   have hT:ps.take j=ps:=by rw [List.take_of_length_le (by have:=HN1.out;omega)]
   rw [hT,List.length_map] at hown
   clear hT hat
   obtain ⟨an,cn,rfl,_,_⟩:=lexs.own_shape hown
   obtain ⟨a0,a1,a2,a3,a4,a5,f0,f1,f2,f3,f4,f5⟩:=id bN
   obtain ⟨d0,d1,d2,d3,d4,d5,e0,e1,e2,e3,e4,e5⟩:=id b1
   have hne1:(Value.slice an ps.length cn).ownBlock≠some (w.heap.size+1):=fun e=>by have:=(hown.lt _ e).1;omega
   have hneN:(Value.slice an ps.length cn).ownBlock≠some N:=fun e=>by have:=(hown.lt _ e).1;omega
   have hG:=HG.out
   clear HG
   rcases gv with _ | gb
   ·have hG0:bits BinOp.and IntKind.i64 m 12=0:=hG
    clear hG
    go_wp2
    refine bodyPost_ret (v:=.agg #[.string x,.bool p,.slice an ps.length cn,.int .i64 (bI l),.bool false,.int .i64 0]) (by simp [results,Tryz.results130,go_sem,d0,d1,d2,d3,d4,d5]) rfl ⟨.slice an ps.length cn,rfl,?_,below_set6 hB (by omega) _ _ _ _ _ _⟩
    exact lexs.ownsRow_le (row_set6 hown hne1 _ _ _ _ _ _) (by omega)
   cases gb
   ·have hG0:bits BinOp.and IntKind.i64 m 12=4:=hG
    clear hG
    go_wp2
    refine bodyPost_ret (v:=.agg #[.string x,.bool p,.slice an ps.length cn,.int .i64 (bI l),.bool true,.int .i64 0]) (by simp [results,Tryz.results130,go_sem,d0,d1,d2,d3,d4,d5]) rfl ⟨.slice an ps.length cn,rfl,?_,below_set6 ((hB.setCell (by show w.heap.size≤N;omega) _).setCell (by show w.heap.size≤N;omega) _) (by omega) _ _ _ _ _ _⟩
    exact lexs.ownsRow_le (row_set6 (ownsRow_setCell_other (ownsRow_setCell_other hown hneN _) hneN _) hne1 _ _ _ _ _ _) (by omega)
   ·have hG0:bits BinOp.and IntKind.i64 m 12=8:=hG
    clear hG
    go_wp2
    refine bodyPost_ret (v:=.agg #[.string x,.bool p,.slice an ps.length cn,.int .i64 (bI l),.bool true,.int .i64 1]) (by simp [results,Tryz.results130,go_sem,d0,d1,d2,d3,d4,d5]) rfl ⟨.slice an ps.length cn,rfl,?_,below_set6 ((hB.setCell (by show w.heap.size≤N;omega) _).setCell (by show w.heap.size≤N;omega) _) (by omega) _ _ _ _ _ _⟩
    exact lexs.ownsRow_le (row_set6 (ownsRow_setCell_other (ownsRow_setCell_other hown hneN _) hneN _) hne1 _ _ _ _ _ _) (by omega)
 clear hK0
 ·skip
  refine tkP 0 (.pointer (some ⟨w.heap.size,1,none⟩)) hQ ?_
  simp only [Act.put,jA,jB,jC]
  refine tkP 1 (.string x) hQ ?_
  simp only [Act.put,jA,jB,jC]
  refine tkP 2 (.agg #[.int .i64 4,.string x,.int .i64 m,.slice (some ⟨g,o,none⟩) n1 c] ) hQ ?_
  simp only [Act.put,jA,jB,jC]
  refine tkP 4 (.agg #[.int .i64 4,.string x,.int .i64 m,.slice (some ⟨g,o,none⟩) n1 c] ) hQ ?_
  simp only [Act.put,jA,jB,jC]
  refine wpAnyH_ready (rs:=[3,7]) (by kernel_rfl) (by simp) ?_
  refine AllReadyH.cons rfl (fun K hK=>?_) ?_
  ·skip
   go_simp
   go_at_call 155
   refine (hPub _).mono ?_
   rintro e W1 ⟨rfl,hb⟩
   go_wp2
   replace hQ:=Q4.below hQ hb
   replace hB:=hB.trans (hb.mono hB.size)
   replace hR:=hR.below hb
   skip
   refine hK.out _ _ hQ (fun hHeld=>?_)
   clear hK K hHeld hb
   refine wpAnyH_ready (rs:=[5,7]) (by kernel_rfl) (by simp) ?_
   refine AllReadyH.cons rfl (fun K hK=>?_) ?_
   ·skip
    go_simp
    go_at_call 156
    refine (hLab _).mono ?_
    rintro e W2 ⟨rfl,hb⟩
    go_wp2
    replace hQ:=Q4.below hQ hb
    replace hB:=hB.trans (hb.mono hB.size)
    replace hR:=hR.below hb
    skip
    refine hK.out _ _ hQ (fun hHeld=>?_)
    clear hK K hHeld hb
    refine tkP 6 (.agg #[.string x,.bool p,.slice none 0 0,.int .i64 (bI l),.bool false,.int .i64 0] ) hQ ?_
    simp only [Act.put,jA,jB,jC]
    refine oneH 7 fun K hK=>?_
    go_simp
    have hN:=Box6.new W2 (.string ⟨#[]⟩) (.bool false) (.slice none 0 0) (.int .i64 0) (.bool false) (.int .i64 0) 80
    have hgt:w.heap.size+1<W2.heap.size:=hR.lt
    replace hQ:=Q4.alloc hQ (.cells #[.string ⟨#[]⟩,.bool false,.slice none 0 0,.int .i64 0,.bool false,.int .i64 0] 80)
    replace hB:=hB.alloc hB.size (.cells #[.string ⟨#[]⟩,.bool false,.slice none 0 0,.int .i64 0,.bool false,.int .i64 0] 80)
    replace hR:=hR.alloc (.cells #[.string ⟨#[]⟩,.bool false,.slice none 0 0,.int .i64 0,.bool false,.int .i64 0] 80)
    refine hK.out _ _ hQ (fun hHeld=>?_)
    clear hK K hHeld
    generalize W2.alloc (.cells #[.string ⟨#[]⟩,.bool false,.slice none 0 0,.int .i64 0,.bool false,.int .i64 0] 80)=Wa at *
    generalize W2.heap.size=N at *
    refine oneH 8 fun K hK=>?_
    obtain ⟨n0,n1,n2,n3,n4,n5,g0,g1,g2,g3,g4,g5⟩:=id hN
    go_simp
    replace hN:=hN.put (.string x) (.bool p) (.slice none 0 0) (.int .i64 (bI l)) (.bool false) (.int .i64 0)
    replace hQ:=Q4.other6 (M:=N) (by omega) hQ (.string x) (.bool p) (.slice none 0 0) (.int .i64 (bI l)) (.bool false) (.int .i64 0)
    replace hB:=below_set6 (M:=N) hB (by omega) (.string x) (.bool p) (.slice none 0 0) (.int .i64 (bI l)) (.bool false) (.int .i64 0)
    replace hR:=hR.other6 (M:=N) (by omega) (.string x) (.bool p) (.slice none 0 0) (.int .i64 (bI l)) (.bool false) (.int .i64 0)
    refine hK.out _ _ hQ (fun hHeld=>?_)
    clear hK K hHeld n0 n1 n2 n3 n4 n5 g0 g1 g2 g3 g4 g5
    generalize (World.setCell _ ⟨N,5,none⟩ _)=Wz at *
    refine wpAnyH_done (by kernel_rfl) ?_ _
    exact HF N Wz hgt hQ hB hR hN
   refine AllReadyH.cons rfl (fun K hK=>?_) AllReadyH.nil
   go_simp
   have hN:=Box6.new W1 (.string ⟨#[]⟩) (.bool false) (.slice none 0 0) (.int .i64 0) (.bool false) (.int .i64 0) 80
   have hgt:w.heap.size+1<W1.heap.size:=hR.lt
   replace hQ:=Q4.alloc hQ (.cells #[.string ⟨#[]⟩,.bool false,.slice none 0 0,.int .i64 0,.bool false,.int .i64 0] 80)
   replace hB:=hB.alloc hB.size (.cells #[.string ⟨#[]⟩,.bool false,.slice none 0 0,.int .i64 0,.bool false,.int .i64 0] 80)
   replace hR:=hR.alloc (.cells #[.string ⟨#[]⟩,.bool false,.slice none 0 0,.int .i64 0,.bool false,.int .i64 0] 80)
   refine hK.out _ _ hQ (fun hHeld=>?_)
   clear hK K hHeld
   generalize W1.alloc (.cells #[.string ⟨#[]⟩,.bool false,.slice none 0 0,.int .i64 0,.bool false,.int .i64 0] 80)=Wa at *
   generalize W1.heap.size=N at *
   refine oneH 5 fun K hK=>?_
   go_simp
   go_at_call 156
   refine (hLab _).mono ?_
   rintro e W2 ⟨rfl,hb⟩
   go_wp2
   replace hQ:=Q4.below hQ hb
   replace hB:=hB.trans (hb.mono hB.size)
   replace hR:=hR.below hb
   replace hN:=hN.below hb
   refine hK.out _ _ hQ (fun hHeld=>?_)
   clear hK K hHeld hb
   refine tkP 6 (.agg #[.string x,.bool p,.slice none 0 0,.int .i64 (bI l),.bool false,.int .i64 0] ) hQ ?_
   simp only [Act.put,jA,jB,jC]
   refine oneH 8 fun K hK=>?_
   obtain ⟨n0,n1,n2,n3,n4,n5,g0,g1,g2,g3,g4,g5⟩:=id hN
   go_simp
   replace hN:=hN.put (.string x) (.bool p) (.slice none 0 0) (.int .i64 (bI l)) (.bool false) (.int .i64 0)
   replace hQ:=Q4.other6 (M:=N) (by omega) hQ (.string x) (.bool p) (.slice none 0 0) (.int .i64 (bI l)) (.bool false) (.int .i64 0)
   replace hB:=below_set6 (M:=N) hB (by omega) (.string x) (.bool p) (.slice none 0 0) (.int .i64 (bI l)) (.bool false) (.int .i64 0)
   replace hR:=hR.other6 (M:=N) (by omega) (.string x) (.bool p) (.slice none 0 0) (.int .i64 (bI l)) (.bool false) (.int .i64 0)
   refine hK.out _ _ hQ (fun hHeld=>?_)
   clear hK K hHeld n0 n1 n2 n3 n4 n5 g0 g1 g2 g3 g4 g5
   generalize (World.setCell _ ⟨N,5,none⟩ _)=Wz at *
   refine wpAnyH_done (by kernel_rfl) ?_ _
   exact HF N Wz hgt hQ hB hR hN
  refine AllReadyH.cons rfl (fun K hK=>?_) AllReadyH.nil
  go_simp
  have hN:=Box6.new W (.string ⟨#[]⟩) (.bool false) (.slice none 0 0) (.int .i64 0) (.bool false) (.int .i64 0) 80
  have hgt:w.heap.size+1<W.heap.size:=hR.lt
  replace hQ:=Q4.alloc hQ (.cells #[.string ⟨#[]⟩,.bool false,.slice none 0 0,.int .i64 0,.bool false,.int .i64 0] 80)
  replace hB:=hB.alloc hB.size (.cells #[.string ⟨#[]⟩,.bool false,.slice none 0 0,.int .i64 0,.bool false,.int .i64 0] 80)
  replace hR:=hR.alloc (.cells #[.string ⟨#[]⟩,.bool false,.slice none 0 0,.int .i64 0,.bool false,.int .i64 0] 80)
  refine hK.out _ _ hQ (fun hHeld=>?_)
  clear hK K hHeld
  generalize W.alloc (.cells #[.string ⟨#[]⟩,.bool false,.slice none 0 0,.int .i64 0,.bool false,.int .i64 0] 80)=Wa at *
  generalize W.heap.size=N at *
  refine oneH 3 fun K hK=>?_
  go_simp
  go_at_call 155
  refine (hPub _).mono ?_
  rintro e W1 ⟨rfl,hb⟩
  go_wp2
  replace hQ:=Q4.below hQ hb
  replace hB:=hB.trans (hb.mono hB.size)
  replace hR:=hR.below hb
  replace hN:=hN.below hb
  refine hK.out _ _ hQ (fun hHeld=>?_)
  clear hK K hHeld hb
  refine oneH 5 fun K hK=>?_
  go_simp
  go_at_call 156
  refine (hLab _).mono ?_
  rintro e W2 ⟨rfl,hb⟩
  go_wp2
  replace hQ:=Q4.below hQ hb
  replace hB:=hB.trans (hb.mono hB.size)
  replace hR:=hR.below hb
  replace hN:=hN.below hb
  refine hK.out _ _ hQ (fun hHeld=>?_)
  clear hK K hHeld hb
  refine tkP 6 (.agg #[.string x,.bool p,.slice none 0 0,.int .i64 (bI l),.bool false,.int .i64 0] ) hQ ?_
  simp only [Act.put,jA,jB,jC]
  refine oneH 8 fun K hK=>?_
  obtain ⟨n0,n1,n2,n3,n4,n5,g0,g1,g2,g3,g4,g5⟩:=id hN
  go_simp
  replace hN:=hN.put (.string x) (.bool p) (.slice none 0 0) (.int .i64 (bI l)) (.bool false) (.int .i64 0)
  replace hQ:=Q4.other6 (M:=N) (by omega) hQ (.string x) (.bool p) (.slice none 0 0) (.int .i64 (bI l)) (.bool false) (.int .i64 0)
  replace hB:=below_set6 (M:=N) hB (by omega) (.string x) (.bool p) (.slice none 0 0) (.int .i64 (bI l)) (.bool false) (.int .i64 0)
  replace hR:=hR.other6 (M:=N) (by omega) (.string x) (.bool p) (.slice none 0 0) (.int .i64 (bI l)) (.bool false) (.int .i64 0)
  refine hK.out _ _ hQ (fun hHeld=>?_)
  clear hK K hHeld n0 n1 n2 n3 n4 n5 g0 g1 g2 g3 g4 g5
  generalize (World.setCell _ ⟨N,5,none⟩ _)=Wz at *
  refine wpAnyH_done (by kernel_rfl) ?_ _
  exact HF N Wz hgt hQ hB hR hN
end face
namespace chk
open Go.RowKit Go.Shelf
open syn face
structure KF where
 f:ByteArray→Option FV
 W:World
 M:Nat
 G:Value
instance:Coe KF (ByteArray→Option FV):=⟨KF.f⟩
theorem IntsIn.mono {w w':World} (hc:∀ a v,w.cell? a=some v→w'.cell? a=some v) {v:Value} {l:List Int} (h:IntsIn w v l):IntsIn w' v l:=by
 obtain ⟨a,c,e,hl,hk⟩:=h
 refine ⟨a,c,e,hl,fun hne=>?_⟩
 obtain ⟨g,o,e2,hat⟩:=hk hne
 exact ⟨g,o,e2,fun i hi=>hc _ _ (hat i hi)⟩
theorem FaceIn.mono {w w':World} (hc:∀ a v,w.cell? a=some v→w'.cell? a=some v) {v:Value} {f:FaceD} (h:FaceIn w v f):FaceIn w' v f:=by
 obtain ⟨vv,pv,e,⟨a,c,e1,hl,hk⟩,⟨a2,c2,e2,hl2,hk2⟩⟩:=h
 refine ⟨vv,pv,e,⟨a,c,e1,hl,fun hne=>?_⟩,⟨a2,c2,e2,hl2,fun hne=>?_⟩⟩
 ·obtain ⟨g,o,e3,hat⟩:=hk hne
  exact ⟨g,o,e3,fun i hi=>⟨hc _ _ (hat i hi).1,hc _ _ (hat i hi).2.1,hc _ _ (hat i hi).2.2.1,hc _ _ (hat i hi).2.2.2⟩⟩
 ·obtain ⟨g,o,e3,hat⟩:=hk2 hne
  refine ⟨g,o,e3,fun i hi=>?_⟩
  obtain ⟨h1,h2,⟨u,h3,h4⟩,h5,h6,h7⟩:=hat i hi
  exact ⟨hc _ _ h1,hc _ _ h2,⟨u,hc _ _ h3,IntsIn.mono hc h4⟩,hc _ _ h5,hc _ _ h6,hc _ _ h7⟩
structure CS (w0 w:World) (D Kb kn:Nat) (kf:KF) (vs:List VarD) (u:Value) (a:Int):Prop where
 bs:Below w0.heap.size w0 w
 hD:w0.heap.size≤D
 c4:w.cell? ⟨D,4,none⟩=some kf.G
 c5:w.cell? ⟨D,5,none⟩=some (.map (some Kb))
 c6:w.cell? ⟨D,6,none⟩=some u
 c7:w.cell? ⟨D,7,none⟩=some (.int .i64 a)
 fz:∀ k,w.frozen? ⟨D,k,none⟩=false
 mp:MapF w Kb kn (fun z=>fvO (kf.f z))
 fi:∀ z q,kf.f z=some q→FaceIn kf.W (fvV q) q.1
 fw:∀ a v,kf.W.cell? a=some v→a.block≠D∧a.block<kf.M∧w.cell? a=some v
 fm:kf.M≤w.heap.size
 mM:w0.heap.size≤kf.M
 fu:∀ b,u.ownBlock=some b→kf.M≤b
 rl:w.ownsRow (D+1) 76 4 u vs.length (varCells vs)
 nk:Kb≠D
 mx:HasMax w0
 nu:u.ownBlock≠some Kb
section
variable {w0 w w':World} {D Kb kn:Nat} {kf:KF} {vs:List VarD} {u:Value} {a:Int}
theorem CS.lt (h:CS w0 w D Kb kn kf vs u a):D<w.heap.size:=World.block_lt_of_cell? w ⟨D,5,none⟩ h.c5
theorem CS.below (h:CS w0 w D Kb kn kf vs u a) (hb:Below w.heap.size w w'):CS w0 w' D Kb kn kf vs u a :=
 ⟨h.bs.trans (hb.mono h.bs.size),h.hD,(hb.cell (p:=⟨D,4,none⟩) h.lt).trans h.c4,(hb.cell (p:=⟨D,5,none⟩) h.lt).trans h.c5,(hb.cell (p:=⟨D,6,none⟩) h.lt).trans h.c6,(hb.cell (p:=⟨D,7,none⟩) h.lt).trans h.c7,fun k=>(World.frozen?_of_block (a:=⟨D,k,none⟩) (hb.block D h.lt)).trans (h.fz k),h.mp.below hb,h.fi,fun p v hc=>⟨(h.fw p v hc).1,(h.fw p v hc).2.1,(hb.cell (p:=p) (Nat.lt_of_lt_of_le (h.fw p v hc).2.1 h.fm)).trans (h.fw p v hc).2.2⟩,Nat.le_trans h.fm hb.size,h.mM,h.fu,own_keep h.rl hb,h.nk,h.mx,h.nu⟩
theorem CS.alloc (h:CS w0 w D Kb kn kf vs u a) (o:Obj):CS w0 (w.alloc o) D Kb kn kf vs u a:=h.below (bal o)
theorem CS.drew (h:CS w0 w D Kb kn kf vs u a):CS w0 w.drew D Kb kn kf vs u a:=h.below (Below.refl _ _).drew
theorem CS.other (h:CS w0 w D Kb kn kf vs u a) {b o:Nat} (h1:b≠D) (h2:b≠Kb) (h3:u.ownBlock≠some b) (h4:kf.M≤b) (v:Value):CS w0 (w.setCell ⟨b,o,none⟩ v) D Kb kn kf vs u a :=
 have hbl:=Below.heap_setCell w ⟨b,o,none⟩ v D (fun e=>h1 e.symm)
 ⟨h.bs.setCell (Nat.le_trans h.mM h4) _,h.hD,(World.cell?_of_block (a:=⟨D,4,none⟩) hbl).trans h.c4,(World.cell?_of_block (a:=⟨D,5,none⟩) hbl).trans h.c5,(World.cell?_of_block (a:=⟨D,6,none⟩) hbl).trans h.c6,(World.cell?_of_block (a:=⟨D,7,none⟩) hbl).trans h.c7,fun k=>(World.frozen?_of_block (a:=⟨D,k,none⟩) hbl).trans (h.fz k),h.mp.setCell (fun e=>h2 e.symm) _,h.fi,fun p x hc=>⟨(h.fw p x hc).1,(h.fw p x hc).2.1,(World.cell?_of_block (a:=p) (Below.heap_setCell w ⟨b,o,none⟩ v p.block (fun e=>Nat.not_lt.2 h4 (by have e':p.block=b:=e;rw [← e'];exact (h.fw p x hc).2.1)))).trans (h.fw p x hc).2.2⟩,by rw [World.size_setCell];exact h.fm,h.mM,h.fu,ownsRow_setCell_other h.rl h3 _,h.nk,h.mx,h.nu⟩
theorem CS.setAt (h:CS w0 w D Kb kn kf vs u a) (b:Int):CS w0 (w.setCell ⟨D,7,none⟩ (.int .i64 b)) D Kb kn kf vs u b :=
 ⟨h.bs.setCell h.hD _,h.hD,(jD w ⟨D,7,none⟩ ⟨D,4,none⟩ _ (by simp)).trans h.c4,(jD w ⟨D,7,none⟩ ⟨D,5,none⟩ _ (by simp)).trans h.c5,(jD w ⟨D,7,none⟩ ⟨D,6,none⟩ _ (by simp)).trans h.c6,World.cell?_setCell_same' _ _ _ (by rw [h.c7];rfl),fun k=>by rw [World.frozen?_setCell];exact h.fz k,h.mp.setCell h.nk _,h.fi,fun p x hc=>⟨(h.fw p x hc).1,(h.fw p x hc).2.1,(World.cell?_of_block (a:=p) (Below.heap_setCell w ⟨D,7,none⟩ _ p.block (h.fw p x hc).1)).trans (h.fw p x hc).2.2⟩,by rw [World.size_setCell];exact h.fm,h.mM,h.fu,ownsRow_setCell_other h.rl (fun e=>by have h2:D+1≤D:=(h.rl.lt _ e).1;omega) _,h.nk,h.mx,h.nu⟩
theorem CS.faces (h:CS w0 w D Kb kn kf vs u a) (z:ByteArray) (q:FV) (hq:kf.f z=some q):FaceIn w (fvV q) q.1:=FaceIn.mono (fun p v hc=>(h.fw p v hc).2.2) (h.fi z q hq)
theorem CS.max (h:CS w0 w D Kb kn kf vs u a):HasMax w:=hasMax_below h.mx h.bs
theorem CS.grown (h:CS w0 w D Kb kn kf vs u a) {row:Option Nat} (hg:w.grownBy w' row) (hr:∀ b,row=some b→b≠D∧b≠Kb∧u.ownBlock≠some b∧kf.M≤b):CS w0 w' D Kb kn kf vs u a:=by
 have hbl:=hg.block D h.lt (fun e=>(hr D e.symm).1 rfl)
 refine ⟨h.bs.grown hg h.bs.size (fun k e=>Nat.le_trans h.mM (hr k e).2.2.2),h.hD,(World.cell?_of_block (a:=⟨D,4,none⟩) hbl).trans h.c4,(World.cell?_of_block (a:=⟨D,5,none⟩) hbl).trans h.c5,(World.cell?_of_block (a:=⟨D,6,none⟩) hbl).trans h.c6,(World.cell?_of_block (a:=⟨D,7,none⟩) hbl).trans h.c7,fun k=>(World.frozen?_of_block (a:=⟨D,k,none⟩) hbl).trans (h.fz k),h.mp.kept hg (fun e=>(hr Kb e.symm).2.1 rfl),h.fi,fun p x hc=>⟨(h.fw p x hc).1,(h.fw p x hc).2.1,(World.cell?_of_block (a:=p) (hg.block p.block (Nat.lt_of_lt_of_le (h.fw p x hc).2.1 h.fm) (fun e=>Nat.not_lt.2 (hr _ e.symm).2.2.2 (h.fw p x hc).2.1))).trans (h.fw p x hc).2.2⟩,Nat.le_trans h.fm hg.size,h.mM,h.fu,h.rl.kept hg ?_,h.nk,h.mx,h.nu⟩
 cases e:u.ownBlock with
 | none=>exact .inl rfl
 | some b=>exact .inr (fun e2=>(hr b e2.symm).2.2.1 e)
theorem CS.put4 (h:CS w0 w D Kb kn kf vs u a) {b:Nat} (h1:b≠D) (h2:b≠Kb) (h3:u.ownBlock≠some b) (h4:kf.M≤b) (x0 x1 x2 x3:Value):CS w0 ((((w.setCell ⟨b,0,none⟩ x0).setCell ⟨b,1,none⟩ x1).setCell ⟨b,2,none⟩ x2).setCell ⟨b,3,none⟩ x3) D Kb kn kf vs u a :=
 (((h.other h1 h2 h3 h4 _).other h1 h2 h3 h4 _).other h1 h2 h3 h4 _).other h1 h2 h3 h4 _
theorem CS.variable (h:CS w0 w D Kb kn kf vs u a) (hl:vs.length≤1000) {x:ByteArray} (hx:LongN x) (at_:Int) :
  Calls Tryz.prog 202 #[.pointer (some ⟨D,0,none⟩),.string x,.int .i64 at_] w fun e w'=>VP (varP kf vs x) at_ w e w' :=
 oVariable D Kb kn kf.f vs u x at_ w h.c5 h.c6 h.mp h.faces (rowV_own h.rl) hl hx h.max
theorem CS.procedure (h:CS w0 w D Kb kn kf vs u a) {x:ByteArray} (hx:LongN x) (at_:Int) :
  Calls Tryz.prog 203 #[.pointer (some ⟨D,0,none⟩),.string x,.int .i64 at_] w fun e w'=>PP (procP kf x) at_ w e w' :=
 oProcedure D Kb kn kf.f x at_ w h.c5 h.mp h.faces hx h.max
theorem CS.begin (h:CS w0 w D Kb kn kf vs u a) (h0:0≤a) (h1:a≤1000000) :
  Calls Tryz.prog 81 #[.pointer (some ⟨D,0,none⟩)] w fun e w'=>e=.returned (.int .i64 a)∧w'=w.setCell ⟨D,7,none⟩ (.int .i64 (a+1)) :=
 oBegin D a w h.c7 (h.fz 7) h0 h1
end
theorem fr_put {r b o:Nat} {w w1:World} (h:Fr r w w1) (hb:w.heap.size≤b) (v:Value):Fr r w (w1.setCell ⟨b,o,none⟩ v) :=
 World.grownBy.andThen h (Go.Lib.grownBy_setCell w1 b o v) (fun j e=>by cases e;exact .inl hb)
theorem fr_put4 {r b:Nat} {w w1:World} (h:Fr r w w1) (hb:w.heap.size≤b) (x0 x1 x2 x3:Value):Fr r w ((((w1.setCell ⟨b,0,none⟩ x0).setCell ⟨b,1,none⟩ x1).setCell ⟨b,2,none⟩ x2).setCell ⟨b,3,none⟩ x3) :=
 fr_put (fr_put (fr_put (fr_put h hb _) hb _) hb _) hb _
def EX (w0:World) (D Kb kn:Nat) (kf:KF) (vs:List VarD) (u:Value) (w:World) (r:Res (Int × Int)) (e:Ending) (w':World):Prop:=match r with
 | .bad c b=>e=.panicked (Thrown c b)∧Below w0.heap.size w0 w'
 | .ok q=>e=.returned (.int .i64 q.1)∧CS w0 w' D Kb kn kf vs u q.2∧Fr D w w'
end chk
end Go.Proofs.YtfopddgjdaoidaaGreatDoor
