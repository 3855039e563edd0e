/- What the program's varOf answers: a contract. -/
import Derived.Test.YtfopddgjdaoidaaGreatDoorNM23
set_option linter.unusedVariables false
set_option linter.unusedSimpArgs false
set_option maxRecDepth 100000
namespace Go.Proofs.YtfopddgjdaoidaaGreatDoor.chk
open syn face
theorem ExT.kids {k:Int} {x:ByteArray} {m:Int} {ks:List Tree} (h:ExT (.node k x m ks)):(∀ t ∈ ks,ExT t)∧((k=16∨k=17∨k=18)→LongN x)∧(k=15∨k=16∨k=17∨k=18∨k=19∨k=20∨k=21):=by
  cases h with
  | num n=>exact ⟨fun t ht=>(by cases ht),fun h=>by omega,by omega⟩
  | nam h=>exact ⟨fun t ht=>(by cases ht),fun _=>h,by omega⟩
  | item h e=>exact ⟨fun t ht=>(by simp only [List.mem_singleton] at ht;subst ht;exact e),fun _=>h,by omega⟩
  | call h e=>exact ⟨e,fun _=>h,by omega⟩
  | op a b=>exact ⟨fun t ht=>(by
      simp only [List.mem_cons,List.not_mem_nil,or_false] at ht
      rcases ht with rfl | rfl
      · exact a
      · exact b),fun h=>by omega,by omega⟩
  | neg a=>exact ⟨fun t ht=>(by simp only [List.mem_singleton] at ht;subst ht;exact a),fun h=>by omega,by omega⟩
  | nott a=>exact ⟨fun t ht=>(by simp only [List.mem_singleton] at ht;subst ht;exact a),fun h=>by omega,by omega⟩
section
variable (E:Env) (L:List Loc) (ctx:Int)
mutual
theorem exF_at:∀ (t:Tree) (alone:Bool) (a:Int) (q:Int × Int),exF E L ctx alone t a=.ok q→q.2=a+cntT t
  | .node k x m ks,alone,a,q,h=>by
    unfold exF at h
    cases hL:exL E L ctx ks (a+1) with
    | bad c b=>rw [hL] at h;simp at h
    | ok s =>
      rw [hL] at h
      dsimp only at h
      have:=exL_at ks (a+1) s hL
      cases hO:ownF E L ctx alone k x s.1 a with
      | bad c b=>rw [hO] at h;simp at h
      | ok l =>
        rw [hO] at h
        simp only [Res.ok.injEq] at h
        rw [← h]
        show s.2=_
        rw [show cntT (.node k x m ks)=cntL ks+1 by unfold cntT;rfl]
        omega
theorem exL_at:∀ (ks:List Tree) (a:Int) (q:List Int × Int),exL E L ctx ks a=.ok q→q.2=a+cntL ks∧q.1.length=ks.length
  | [],a,q,h=>by
    unfold exL at h
    simp only [Res.ok.injEq] at h
    rw [← h]
    simp [cntL]
  | t :: r,a,q,h=>by
    unfold exL at h
    cases h1:exF E L ctx false t a with
    | bad c b=>rw [h1] at h;simp at h
    | ok s =>
      rw [h1] at h
      dsimp only at h
      cases h2:exL E L ctx r s.2 with
      | bad c b=>rw [h2] at h;simp at h
      | ok u =>
        rw [h2] at h
        simp only [Res.ok.injEq] at h
        have e1:=exF_at t false a s h1
        have e2:=exL_at r s.2 u h2
        rw [← h]
        show u.2=_∧(s.1 :: u.1).length=_
        rw [show cntL (t :: r)=cntT t+cntL r by rfl]
        refine ⟨by omega,by simp [e2.2]⟩
end
def preR (ls:List Int):Res (List Int × Int)→Res (List Int × Int)
  | .bad c b=>.bad c b
  | .ok q=>.ok (ls++q.1,q.2)
theorem preR_step (ks:List Tree) (j:Nat) (hj:j<ks.length) (ls:List Int) (a:Int):preR ls (exL E L ctx (ks.drop j) a)=match exF E L ctx false ks[j] a with
    | .bad c b=>.bad c b
    | .ok q=>preR (ls++[q.1]) (exL E L ctx (ks.drop (j+1)) q.2):=by
  rw [List.drop_eq_getElem_cons hj]
  generalize ks.drop (j+1)=rest
  rw [show exL E L ctx (ks[j] :: rest) a=(match exF E L ctx false ks[j] a with
    | .bad c b=>.bad c b
    | .ok q=>match exL E L ctx rest q.2 with
      | .bad c b=>.bad c b
      | .ok s=>.ok (q.1 :: s.1,s.2)) from by simp only [exL];rfl]
  cases exF E L ctx false ks[j] a with
  | bad c b=>rfl
  | ok q =>
    dsimp only
    cases exL E L ctx rest q.2 with
    | bad c b=>rfl
    | ok u=>simp [preR]
end
theorem joinL_snoc:∀ (ls:List Int) (y l:Int),joinL (ls++[y]) l=jn (joinL ls l) y
  | [],y,l=>rfl
  | x :: r,y,l=>joinL_snoc r y (jn l x)
end Go.Proofs.YtfopddgjdaoidaaGreatDoor.chk
namespace Go.Proofs.YtfopddgjdaoidaaGreatDoor.face
open Go.RowKit
open syn
section
variable {w w':World} {N M:Nat} {x0 x1 x2 x3:Value}
theorem F4.other (h:F4 w N x0 x1 x2 x3) {o:Nat} (hne:M≠N) (v:Value):F4 (w.setCell ⟨M,o,none⟩ v) N x0 x1 x2 x3:=h.block (Below.heap_setCell _ _ _ _ (fun e=>hne (by rw [e])))
theorem F4.other4 (h:F4 w N x0 x1 x2 x3) (hne:M≠N) (a b c d:Value):F4 ((((w.setCell ⟨M,0,none⟩ a).setCell ⟨M,1,none⟩ b).setCell ⟨M,2,none⟩ c).setCell ⟨M,3,none⟩ d) N x0 x1 x2 x3:=(((h.other hne a).other hne b).other hne c).other hne d
theorem F4.set0 (h:F4 w N x0 x1 x2 x3) (v:Value):F4 (w.setCell ⟨N,0,none⟩ v) N v x1 x2 x3 :=
  ⟨World.cell?_setCell_same _ _ _ h.c0,by rw [jD _ _ _ _ (by simp)];exact h.c1,by rw [jD _ _ _ _ (by simp)];exact h.c2,by rw [jD _ _ _ _ (by simp)];exact h.c3,by simp [h.f0],by simp [h.f1],by simp [h.f2],by simp [h.f3]⟩
theorem F4.set1 (h:F4 w N x0 x1 x2 x3) (v:Value):F4 (w.setCell ⟨N,1,none⟩ v) N x0 v x2 x3 :=
  ⟨by rw [jD _ _ _ _ (by simp)];exact h.c0,World.cell?_setCell_same _ _ _ h.c1,by rw [jD _ _ _ _ (by simp)];exact h.c2,by rw [jD _ _ _ _ (by simp)];exact h.c3,by simp [h.f0],by simp [h.f1],by simp [h.f2],by simp [h.f3]⟩
theorem F4.set2 (h:F4 w N x0 x1 x2 x3) (v:Value):F4 (w.setCell ⟨N,2,none⟩ v) N x0 x1 v x3 :=
  ⟨by rw [jD _ _ _ _ (by simp)];exact h.c0,by rw [jD _ _ _ _ (by simp)];exact h.c1,World.cell?_setCell_same _ _ _ h.c2,by rw [jD _ _ _ _ (by simp)];exact h.c3,by simp [h.f0],by simp [h.f1],by simp [h.f2],by simp [h.f3]⟩
theorem F4.set3 (h:F4 w N x0 x1 x2 x3) (v:Value):F4 (w.setCell ⟨N,3,none⟩ v) N x0 x1 x2 v :=
  ⟨by rw [jD _ _ _ _ (by simp)];exact h.c0,by rw [jD _ _ _ _ (by simp)];exact h.c1,by rw [jD _ _ _ _ (by simp)];exact h.c2,World.cell?_setCell_same _ _ _ h.c3,by simp [h.f0],by simp [h.f1],by simp [h.f2],by simp [h.f3]⟩
theorem F4.set4 (h:F4 w N x0 x1 x2 x3) (a b c d:Value):F4 ((((w.setCell ⟨N,0,none⟩ a).setCell ⟨N,1,none⟩ b).setCell ⟨N,2,none⟩ c).setCell ⟨N,3,none⟩ d) N a b c d:=(((h.set0 a).set1 b).set2 c).set3 d
theorem F4.alloc (h:F4 w N x0 x1 x2 x3) (o:Obj):F4 (w.alloc o) N x0 x1 x2 x3:=h.below ((Below.refl _ _).alloc (jE _) o)
theorem below_set4 {B:Nat} {a:World} (h:Below B a w) (hM:B≤M) (x0 x1 x2 x3:Value):Below B a ((((w.setCell ⟨M,0,none⟩ x0).setCell ⟨M,1,none⟩ x1).setCell ⟨M,2,none⟩ x2).setCell ⟨M,3,none⟩ x3):=(((h.setCell hM _).setCell hM _).setCell hM _).setCell hM _
end
set_option maxHeartbeats 4000000 in
theorem oVarOf (x:ByteArray) (p l:Bool) (n:Option Int) (v:Value) (w:World) (hv:Lies (·<w.heap.size) w (Kid.var x p l n).tree v) :
    Calls Tryz.prog 129 #[v] w fun e w'=>e=.returned (varV (varD x p l n))∧Below w.heap.size w w':=by
  have c24:Tryz.prog.cellsOf 25=4:=by kernel_rfl
  have c4:Tryz.prog.cellsOf 76=4:=cell4
  have HP:(bits BinOp.and IntKind.i64 (2 * bI p+bI l) 2 != 0)=p:=by have:=bits_pub p l none;rw [show gI none=0 from rfl,Int.add_zero] at this;exact this
  have HL:bits BinOp.and IntKind.i64 (2 * bI p+bI l) 1=bI l:=by have:=bits_low p l none;rw [show gI none=0 from rfl,Int.add_zero] at this;exact this
  rw [Kid.tree_is] at hv
  unfold Lies at hv
  obtain ⟨a,c,rfl,hl,hk⟩:=hv
  simp only [Kid.kind,Kid.text,Kid.num] at *
  generalize 2 * bI p+bI l=m at HP HL
  generalize hkl:(Kid.var x p l n).kids.length=kl
  have hkids:0<kl→∃ (g o:Nat) (k:Int) (ak:Option Addr) (ck:Nat),a=some ⟨g,o,none⟩∧kl=1∧n=some k∧g<w.heap.size∧w.cell? ⟨g,o,none⟩=some (.int .i64 15)∧w.cell? ⟨g,o+1,none⟩=some (.string empty)∧w.cell? ⟨g,o+2,none⟩=some (.int .i64 k)∧w.cell? ⟨g,o+3,none⟩=some (.slice ak 0 ck):=by
    intro h0
    cases n with
    | none=>simp [Kid.kids] at hkl;omega
    | some k =>
      obtain ⟨g,o,rfl,hg,hat⟩:=hk (by simp [Kid.kids])
      unfold Kid.kids at hat
      obtain ⟨⟨v1,⟨x0,x1,x2,x3,rfl,c0,c1,c2,c3⟩,hv1⟩,_⟩:=hat
      unfold Lies at hv1
      obtain ⟨a1,d1,e1,_,_⟩:=hv1
      cases e1
      simp [Kid.kids] at hkl
      exact ⟨g,o,k,a1,d1,rfl,hkl.symm,rfl,hg,c0,c1,c2,c3⟩
  have hzero:kl=0→n.getD 0=0:=by
    intro h0
    cases n with
    | none=>rfl
    | some k=>simp [Kid.kids] at hkl;omega
  have hle:kl≤1:=by
    cases n with
    | none=>simp [Kid.kids] at hkl;omega
    | some k=>simp [Kid.kids] at hkl;omega
  clear hk hl hkl
  have hPub:∀ W,Calls Tryz.prog 155 #[.agg #[.int .i64 3,.string x,.int .i64 m,.slice a kl c]] W fun e w'=>e=.returned (.bool p)∧Below W.heap.size W w':=fun W=>by have:=oIsPub 3 x m a kl c W;rw [HP] at this;exact this
  have hLab:∀ W,Calls Tryz.prog 156 #[.agg #[.int .i64 3,.string x,.int .i64 m,.slice a kl c]] W fun e w'=>e=.returned (.int .i64 (bI l))∧Below W.heap.size W w':=fun W=>by have:=oLabelOf 3 x m a kl c W;rw [HL] at this;exact this
  clear HP HL
  have hQ:Q4 w.heap.size (.int .i64 3) (.string x) (.int .i64 m) (.slice a kl c) ((w.alloc (.cells #[.int .i64 3,.string x,.int .i64 m,.slice a kl c] 25)).alloc (.cells #[.string ⟨#[]⟩,.bool false,.int .i64 0,.int .i64 0] 76)).drew:=⟨by simp,by simp,by simp,by simp⟩
  have hB:Below w.heap.size w ((w.alloc (.cells #[.int .i64 3,.string x,.int .i64 m,.slice a kl c] 25)).alloc (.cells #[.string ⟨#[]⟩,.bool false,.int .i64 0,.int .i64 0] 76)).drew:=(Joins.below_alloc2 w (.cells #[.int .i64 3,.string x,.int .i64 m,.slice a kl c] 25) (.cells #[.string ⟨#[]⟩,.bool false,.int .i64 0,.int .i64 0] 76)).drew
  have hR:F4 ((w.alloc (.cells #[.int .i64 3,.string x,.int .i64 m,.slice a kl c] 25)).alloc (.cells #[.string ⟨#[]⟩,.bool false,.int .i64 0,.int .i64 0] 76)).drew (w.heap.size+1) (.string ⟨#[]⟩) (.bool false) (.int .i64 0) (.int .i64 0):=by constructor <;> simp
  go_enter Tryz.func129,Tryz.ntmps129
  go_wp2
  refine wp_region_held_drew (S:=fun W=>Q4 w.heap.size (.int .i64 3) (.string x) (.int .i64 m) (.slice a kl c) W) (by kernel_rfl) hQ (fun hHeld=>?_)
  clear hHeld
  generalize ((w.alloc (.cells #[.int .i64 3,.string x,.int .i64 m,.slice a kl c] 25)).alloc (.cells #[.string ⟨#[]⟩,.bool false,.int .i64 0,.int .i64 0] 76)).drew=W at *
  refine tkH (i:=0) (v:=.pointer (some ⟨w.heap.size,1,none⟩)) rfl (Or.inl ⟨by rfl,fun w hSw=>by obtain ⟨z0,z1,z2,z3⟩:=hSw;go_simp⟩) hQ ?_
  simp only [Act.put,jA,jB,jC]
  refine tkH (i:=1) (v:=.string x) rfl (Or.inl ⟨by rfl,fun w hSw=>by obtain ⟨z0,z1,z2,z3⟩:=hSw;go_simp⟩) hQ ?_
  simp only [Act.put,jA,jB,jC]
  refine tkH (i:=2) (v:=.agg #[.int .i64 3,.string x,.int .i64 m,.slice a kl c] ) rfl (Or.inl ⟨by rfl,fun w hSw=>by obtain ⟨z0,z1,z2,z3⟩:=hSw;go_simp⟩) hQ ?_
  simp only [Act.put,jA,jB,jC]
  refine tkH (i:=4) (v:=.agg #[.int .i64 3,.string x,.int .i64 m,.slice a kl c] ) rfl (Or.inl ⟨by rfl,fun w hSw=>by obtain ⟨z0,z1,z2,z3⟩:=hSw;go_simp⟩) hQ ?_
  simp only [Act.put,jA,jB,jC]
  refine wpAnyH_ready (rs:=[3,7]) (by kernel_rfl) (by simp) ?_
  refine AllReadyH.cons rfl (fun K hK=>?_) ?_
  · skip
    go_simp
    go_at_call 155
    refine (hPub _).mono ?_
    rintro e W1 ⟨rfl,hb⟩
    go_wp2
    replace hQ:=Q4.below hQ hb
    replace hB:=hB.trans (hb.mono hB.size)
    replace hR:=hR.below hb
    skip
    refine hK.out _ _ hQ (fun hHeld=>?_)
    clear hK K hHeld hb
    refine wpAnyH_ready (rs:=[5,7]) (by kernel_rfl) (by simp) ?_
    refine AllReadyH.cons rfl (fun K hK=>?_) ?_
    · skip
      go_simp
      go_at_call 156
      refine (hLab _).mono ?_
      rintro e W2 ⟨rfl,hb⟩
      go_wp2
      replace hQ:=Q4.below hQ hb
      replace hB:=hB.trans (hb.mono hB.size)
      replace hR:=hR.below hb
      skip
      refine hK.out _ _ hQ (fun hHeld=>?_)
      clear hK K hHeld hb
      refine tkH (i:=6) (v:=.agg #[.string x,.bool p,.int .i64 (bI l),.int .i64 0] ) rfl (Or.inl ⟨by rfl,fun w hSw=>by obtain ⟨z0,z1,z2,z3⟩:=hSw;go_simp⟩) hQ ?_
      simp only [Act.put,jA,jB,jC]
      refine wpAnyH_ready (rs:=[7]) (by kernel_rfl) (by simp) ?_
      refine AllReadyH.cons rfl (fun K hK=>?_) AllReadyH.nil
      go_simp
      have hN:=F4.new W2 (.string ⟨#[]⟩) (.bool false) (.int .i64 0) (.int .i64 0) 76
      have hgt:w.heap.size+1<W2.heap.size:=hR.lt
      replace hQ:=Q4.alloc hQ (.cells #[.string ⟨#[]⟩,.bool false,.int .i64 0,.int .i64 0] 76)
      replace hB:=hB.alloc hB.size (.cells #[.string ⟨#[]⟩,.bool false,.int .i64 0,.int .i64 0] 76)
      replace hR:=hR.alloc (.cells #[.string ⟨#[]⟩,.bool false,.int .i64 0,.int .i64 0] 76)
      refine hK.out _ _ hQ (fun hHeld=>?_)
      clear hK K hHeld
      generalize W2.alloc (.cells #[.string ⟨#[]⟩,.bool false,.int .i64 0,.int .i64 0] 76)=Wa at *
      generalize W2.heap.size=N at *
      refine wpAnyH_ready (rs:=[8]) (by kernel_rfl) (by simp) ?_
      refine AllReadyH.cons rfl (fun K hK=>?_) AllReadyH.nil
      obtain ⟨n0,n1,n2,n3,g0,g1,g2,g3⟩:=id hN
      go_simp
      replace hN:=hN.set4 (.string x) (.bool p) (.int .i64 (bI l)) (.int .i64 0)
      replace hQ:=Q4.set4 (M:=N) (by omega) hQ (.string x) (.bool p) (.int .i64 (bI l)) (.int .i64 0)
      replace hB:=below_set4 (M:=N) hB (by omega) (.string x) (.bool p) (.int .i64 (bI l)) (.int .i64 0)
      replace hR:=hR.other4 (M:=N) (by omega) (.string x) (.bool p) (.int .i64 (bI l)) (.int .i64 0)
      refine hK.out _ _ hQ (fun hHeld=>?_)
      clear hK K hHeld n0 n1 n2 n3 g0 g1 g2 g3
      generalize (World.setCell _ ⟨N,3,none⟩ _)=Wz at *
      refine wpAnyH_done (by kernel_rfl) ?_ _
      obtain ⟨q0,q1,q2,q3⟩:=id hQ
      go_wp2
      go_loopw [16] (fun t wr=>∃ (j:Nat) (y:Int),j≤kl∧Hid (j=kl→y=n.getD 0)∧t=.int .i64 j∧Below w.heap.size w wr∧F4 wr N (.string x) (.bool p) (.int .i64 (bI l)) (.int .i64 y)∧F4 wr (w.heap.size+1) (.string ⟨#[]⟩) (.bool false) (.int .i64 0) (.int .i64 0)) (fun t _=>kl - (intOf t).toNat)
      case atStart=>exact ⟨0,0,Nat.zero_le _,fun e=>(hzero e.symm).symm,rfl,hB,hN,hR⟩
      case round =>
        clear hB hN hR q0 q1 q2 q3 hQ
        obtain ⟨j,y,hj,HY,rfl,hbw,b3,b1⟩:=hrel
        have hs3:=b3.lt
        have hs1:=b1.lt
        obtain ⟨a0,a1,a2,a3,f0,f1,f2,f3⟩:=id b3
        obtain ⟨d0,d1,d2,d3,e0,e1,e2,e3⟩:=id b1
        by_cases hlt:j<kl
        · obtain ⟨g,o,k,ak,ck,rfl,rfl,rfl,hg,c0,c1,c2,c3⟩:=hkids (by omega)
          have hj0:j=0:=by omega
          subst hj0
          have k0:=keep c0 hbw
          have k1:=keep c1 hbw
          have k2:=keep c2 hbw
          have k3:=keep c3 hbw
          go_wp2
          go_roundw
          case rel=>exact ⟨1,k,by omega,fun _=>rfl,by go_num,(hbw.setCell (by show w.heap.size≤N;omega) _).alloc (by rw [World.size_setCell];exact hbw.size) _,(b3.set3 _).alloc _,(b1.other (by omega) _).alloc _⟩
          case measure=>simp [intOf]
        · have hj0:j=kl:=by omega
          subst hj0
          have HZ:Hid (y=n.getD 0):=HY.out rfl
          clear HY
          go_wp2
          refine bodyPost_ret (v:=.agg #[.string x,.bool p,.int .i64 (bI l),.int .i64 y]) (by simp [results,Tryz.results129,go_sem,d0,d1,d2,d3]) rfl ⟨by rw [HZ.out];rfl,below_set4 hbw (by omega) _ _ _ _⟩
    refine AllReadyH.cons rfl (fun K hK=>?_) AllReadyH.nil
    go_simp
    have hN:=F4.new W1 (.string ⟨#[]⟩) (.bool false) (.int .i64 0) (.int .i64 0) 76
    have hgt:w.heap.size+1<W1.heap.size:=hR.lt
    replace hQ:=Q4.alloc hQ (.cells #[.string ⟨#[]⟩,.bool false,.int .i64 0,.int .i64 0] 76)
    replace hB:=hB.alloc hB.size (.cells #[.string ⟨#[]⟩,.bool false,.int .i64 0,.int .i64 0] 76)
    replace hR:=hR.alloc (.cells #[.string ⟨#[]⟩,.bool false,.int .i64 0,.int .i64 0] 76)
    refine hK.out _ _ hQ (fun hHeld=>?_)
    clear hK K hHeld
    generalize W1.alloc (.cells #[.string ⟨#[]⟩,.bool false,.int .i64 0,.int .i64 0] 76)=Wa at *
    generalize W1.heap.size=N at *
    refine wpAnyH_ready (rs:=[5]) (by kernel_rfl) (by simp) ?_
    refine AllReadyH.cons rfl (fun K hK=>?_) AllReadyH.nil
    go_simp
    go_at_call 156
    refine (hLab _).mono ?_
    rintro e W2 ⟨rfl,hb⟩
    go_wp2
    replace hQ:=Q4.below hQ hb
    replace hB:=hB.trans (hb.mono hB.size)
    replace hR:=hR.below hb
    replace hN:=hN.below hb
    refine hK.out _ _ hQ (fun hHeld=>?_)
    clear hK K hHeld hb
    refine tkH (i:=6) (v:=.agg #[.string x,.bool p,.int .i64 (bI l),.int .i64 0] ) rfl (Or.inl ⟨by rfl,fun w hSw=>by obtain ⟨z0,z1,z2,z3⟩:=hSw;go_simp⟩) hQ ?_
    simp only [Act.put,jA,jB,jC]
    refine wpAnyH_ready (rs:=[8]) (by kernel_rfl) (by simp) ?_
    refine AllReadyH.cons rfl (fun K hK=>?_) AllReadyH.nil
    obtain ⟨n0,n1,n2,n3,g0,g1,g2,g3⟩:=id hN
    go_simp
    replace hN:=hN.set4 (.string x) (.bool p) (.int .i64 (bI l)) (.int .i64 0)
    replace hQ:=Q4.set4 (M:=N) (by omega) hQ (.string x) (.bool p) (.int .i64 (bI l)) (.int .i64 0)
    replace hB:=below_set4 (M:=N) hB (by omega) (.string x) (.bool p) (.int .i64 (bI l)) (.int .i64 0)
    replace hR:=hR.other4 (M:=N) (by omega) (.string x) (.bool p) (.int .i64 (bI l)) (.int .i64 0)
    refine hK.out _ _ hQ (fun hHeld=>?_)
    clear hK K hHeld n0 n1 n2 n3 g0 g1 g2 g3
    generalize (World.setCell _ ⟨N,3,none⟩ _)=Wz at *
    refine wpAnyH_done (by kernel_rfl) ?_ _
    obtain ⟨q0,q1,q2,q3⟩:=id hQ
    go_wp2
    go_loopw [16] (fun t wr=>∃ (j:Nat) (y:Int),j≤kl∧Hid (j=kl→y=n.getD 0)∧t=.int .i64 j∧Below w.heap.size w wr∧F4 wr N (.string x) (.bool p) (.int .i64 (bI l)) (.int .i64 y)∧F4 wr (w.heap.size+1) (.string ⟨#[]⟩) (.bool false) (.int .i64 0) (.int .i64 0)) (fun t _=>kl - (intOf t).toNat)
    case atStart=>exact ⟨0,0,Nat.zero_le _,fun e=>(hzero e.symm).symm,rfl,hB,hN,hR⟩
    case round =>
      clear hB hN hR q0 q1 q2 q3 hQ
      obtain ⟨j,y,hj,HY,rfl,hbw,b3,b1⟩:=hrel
      have hs3:=b3.lt
      have hs1:=b1.lt
      obtain ⟨a0,a1,a2,a3,f0,f1,f2,f3⟩:=id b3
      obtain ⟨d0,d1,d2,d3,e0,e1,e2,e3⟩:=id b1
      by_cases hlt:j<kl
      · obtain ⟨g,o,k,ak,ck,rfl,rfl,rfl,hg,c0,c1,c2,c3⟩:=hkids (by omega)
        have hj0:j=0:=by omega
        subst hj0
        have k0:=keep c0 hbw
        have k1:=keep c1 hbw
        have k2:=keep c2 hbw
        have k3:=keep c3 hbw
        go_wp2
        go_roundw
        case rel=>exact ⟨1,k,by omega,fun _=>rfl,by go_num,(hbw.setCell (by show w.heap.size≤N;omega) _).alloc (by rw [World.size_setCell];exact hbw.size) _,(b3.set3 _).alloc _,(b1.other (by omega) _).alloc _⟩
        case measure=>simp [intOf]
      · have hj0:j=kl:=by omega
        subst hj0
        have HZ:Hid (y=n.getD 0):=HY.out rfl
        clear HY
        go_wp2
        refine bodyPost_ret (v:=.agg #[.string x,.bool p,.int .i64 (bI l),.int .i64 y]) (by simp [results,Tryz.results129,go_sem,d0,d1,d2,d3]) rfl ⟨by rw [HZ.out];rfl,below_set4 hbw (by omega) _ _ _ _⟩
  refine AllReadyH.cons rfl (fun K hK=>?_) AllReadyH.nil
  go_simp
  have hN:=F4.new W (.string ⟨#[]⟩) (.bool false) (.int .i64 0) (.int .i64 0) 76
  have hgt:w.heap.size+1<W.heap.size:=hR.lt
  replace hQ:=Q4.alloc hQ (.cells #[.string ⟨#[]⟩,.bool false,.int .i64 0,.int .i64 0] 76)
  replace hB:=hB.alloc hB.size (.cells #[.string ⟨#[]⟩,.bool false,.int .i64 0,.int .i64 0] 76)
  replace hR:=hR.alloc (.cells #[.string ⟨#[]⟩,.bool false,.int .i64 0,.int .i64 0] 76)
  refine hK.out _ _ hQ (fun hHeld=>?_)
  clear hK K hHeld
  generalize W.alloc (.cells #[.string ⟨#[]⟩,.bool false,.int .i64 0,.int .i64 0] 76)=Wa at *
  generalize W.heap.size=N at *
  refine wpAnyH_ready (rs:=[3]) (by kernel_rfl) (by simp) ?_
  refine AllReadyH.cons rfl (fun K hK=>?_) AllReadyH.nil
  go_simp
  go_at_call 155
  refine (hPub _).mono ?_
  rintro e W1 ⟨rfl,hb⟩
  go_wp2
  replace hQ:=Q4.below hQ hb
  replace hB:=hB.trans (hb.mono hB.size)
  replace hR:=hR.below hb
  replace hN:=hN.below hb
  refine hK.out _ _ hQ (fun hHeld=>?_)
  clear hK K hHeld hb
  refine wpAnyH_ready (rs:=[5]) (by kernel_rfl) (by simp) ?_
  refine AllReadyH.cons rfl (fun K hK=>?_) AllReadyH.nil
  go_simp
  go_at_call 156
  refine (hLab _).mono ?_
  rintro e W2 ⟨rfl,hb⟩
  go_wp2
  replace hQ:=Q4.below hQ hb
  replace hB:=hB.trans (hb.mono hB.size)
  replace hR:=hR.below hb
  replace hN:=hN.below hb
  refine hK.out _ _ hQ (fun hHeld=>?_)
  clear hK K hHeld hb
  refine tkH (i:=6) (v:=.agg #[.string x,.bool p,.int .i64 (bI l),.int .i64 0] ) rfl (Or.inl ⟨by rfl,fun w hSw=>by obtain ⟨z0,z1,z2,z3⟩:=hSw;go_simp⟩) hQ ?_
  simp only [Act.put,jA,jB,jC]
  refine wpAnyH_ready (rs:=[8]) (by kernel_rfl) (by simp) ?_
  refine AllReadyH.cons rfl (fun K hK=>?_) AllReadyH.nil
  obtain ⟨n0,n1,n2,n3,g0,g1,g2,g3⟩:=id hN
  go_simp
  replace hN:=hN.set4 (.string x) (.bool p) (.int .i64 (bI l)) (.int .i64 0)
  replace hQ:=Q4.set4 (M:=N) (by omega) hQ (.string x) (.bool p) (.int .i64 (bI l)) (.int .i64 0)
  replace hB:=below_set4 (M:=N) hB (by omega) (.string x) (.bool p) (.int .i64 (bI l)) (.int .i64 0)
  replace hR:=hR.other4 (M:=N) (by omega) (.string x) (.bool p) (.int .i64 (bI l)) (.int .i64 0)
  refine hK.out _ _ hQ (fun hHeld=>?_)
  clear hK K hHeld n0 n1 n2 n3 g0 g1 g2 g3
  generalize (World.setCell _ ⟨N,3,none⟩ _)=Wz at *
  refine wpAnyH_done (by kernel_rfl) ?_ _
  obtain ⟨q0,q1,q2,q3⟩:=id hQ
  go_wp2
  go_loopw [16] (fun t wr=>∃ (j:Nat) (y:Int),j≤kl∧Hid (j=kl→y=n.getD 0)∧t=.int .i64 j∧Below w.heap.size w wr∧F4 wr N (.string x) (.bool p) (.int .i64 (bI l)) (.int .i64 y)∧F4 wr (w.heap.size+1) (.string ⟨#[]⟩) (.bool false) (.int .i64 0) (.int .i64 0)) (fun t _=>kl - (intOf t).toNat)
  case atStart=>exact ⟨0,0,Nat.zero_le _,fun e=>(hzero e.symm).symm,rfl,hB,hN,hR⟩
  case round =>
    clear hB hN hR q0 q1 q2 q3 hQ
    obtain ⟨j,y,hj,HY,rfl,hbw,b3,b1⟩:=hrel
    have hs3:=b3.lt
    have hs1:=b1.lt
    obtain ⟨a0,a1,a2,a3,f0,f1,f2,f3⟩:=id b3
    obtain ⟨d0,d1,d2,d3,e0,e1,e2,e3⟩:=id b1
    by_cases hlt:j<kl
    · obtain ⟨g,o,k,ak,ck,rfl,rfl,rfl,hg,c0,c1,c2,c3⟩:=hkids (by omega)
      have hj0:j=0:=by omega
      subst hj0
      have k0:=keep c0 hbw
      have k1:=keep c1 hbw
      have k2:=keep c2 hbw
      have k3:=keep c3 hbw
      go_wp2
      go_roundw
      case rel=>exact ⟨1,k,by omega,fun _=>rfl,by go_num,(hbw.setCell (by show w.heap.size≤N;omega) _).alloc (by rw [World.size_setCell];exact hbw.size) _,(b3.set3 _).alloc _,(b1.other (by omega) _).alloc _⟩
      case measure=>simp [intOf]
    · have hj0:j=kl:=by omega
      subst hj0
      have HZ:Hid (y=n.getD 0):=HY.out rfl
      clear HY
      go_wp2
      refine bodyPost_ret (v:=.agg #[.string x,.bool p,.int .i64 (bI l),.int .i64 y]) (by simp [results,Tryz.results129,go_sem,d0,d1,d2,d3]) rfl ⟨by rw [HZ.out];rfl,below_set4 hbw (by omega) _ _ _ _⟩
end Go.Proofs.YtfopddgjdaoidaaGreatDoor.face
