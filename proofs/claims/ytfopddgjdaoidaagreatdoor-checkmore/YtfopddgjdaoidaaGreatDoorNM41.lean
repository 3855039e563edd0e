/- What the program's declared answers. -/
import Derived.Test.YtfopddgjdaoidaaGreatDoorNM38
import Derived.Test.YtfopddgjdaoidaaGreatDoorNM40
set_option linter.unusedVariables false
set_option linter.unusedSimpArgs false
set_option maxRecDepth 100000
namespace Go.Proofs.YtfopddgjdaoidaaGreatDoor.chk
open Go.RowKit Go.Shelf
open syn face
def DE (X:Nat→Prop) (m:ByteArray) (K:List Kid) (w:World) (e:Ending) (w':World):Prop:=∃ (vv pv:Value) (V:List VarD) (P:List (ProcD × Value)),e=.returned (.agg #[.string m,vv,pv])∧FR X (w.heap.size+1+1) w' vv pv V P∧V=varsK true K∧P.map (·.1)=procsK true K∧Below w.heap.size w w'
theorem declRes {W:World} {m:ByteArray} {vv pv a0 a1:Value} (tl:List Value) (B:Nat) (h:BoxC W B #[.string m,vv,pv] 44):(results Tryz.f82 (List.toArray (a0 :: a1 :: .pointer (some ⟨B,0,none⟩) :: tl))).run Tryz.prog W=.ok (.agg #[.string m,vv,pv]) W:=by
  have c3:Tryz.prog.cellsOf 44=3:=cell3
  have z0:=h.cell 0 rfl
  have z1:=h.cell 1 rfl
  have z2:=h.cell 2 rfl
  simp [results,Tryz.f82,go_sem,z0,z1,z2]
set_option maxHeartbeats 8000000 in
theorem oDeclared (X:Nat→Prop) (w0:World) (D:Nat) (m:ByteArray) (K:List Kid) (a:Option Addr) (c:Nat) (w:World) (hbs:Below w0.heap.size w0 w) (hd:D<w.heap.size) (hX0:∀ b,X b→b<w.heap.size) (c1:w.cell? ⟨D,1,none⟩=some (.string m)) (c3':w.cell? ⟨D,3,none⟩=some (.slice a K.length c))
    (hK:K≠[]→∃ g o,a=some ⟨g,o,none⟩∧g<w0.heap.size∧LiesAt (·<w0.heap.size) w0 (K.map Kid.tree) g o) (hKl:K.length≤1000) (hgood:∀ k ∈ K,k.good) (hps:∀ k ∈ K,k.kids.length≤1000) :
    Calls Tryz.prog 82 #[.pointer (some ⟨D,0,none⟩)] w (DE X m K w):=by
  have c24:Tryz.prog.cellsOf 25=4:=by kernel_rfl
  have c4:Tryz.prog.cellsOf 76=4:=cell4
  have c6:Tryz.prog.cellsOf 80=6:=cell6
  have c3:Tryz.prog.cellsOf 44=3:=cell3
  have d1:=cell_new c1 (.cells #[.string ⟨#[]⟩,.slice none 0 0,.slice none 0 0] 44)
  have d3:=cell_new (cell_new c3' (.cells #[.string ⟨#[]⟩,.slice none 0 0,.slice none 0 0] 44)) (.cells #[.string m,.slice none 0 0,.slice none 0 0] 44)
  have hb0:Below w.heap.size w ((w.alloc (.cells #[.string ⟨#[]⟩,.slice none 0 0,.slice none 0 0] 44)).alloc (.cells #[.string m,.slice none 0 0,.slice none 0 0] 44)):=((Below.refl _ _).alloc (jE _) _).alloc (by simp) _
  have hZ0:BoxC ((w.alloc (.cells #[.string ⟨#[]⟩,.slice none 0 0,.slice none 0 0] 44)).alloc (.cells #[.string m,.slice none 0 0,.slice none 0 0] 44)) w.heap.size #[.string ⟨#[]⟩,.slice none 0 0,.slice none 0 0] 44:=(BoxC.new w _ _).alloc _
  have hF0:BoxC ((w.alloc (.cells #[.string ⟨#[]⟩,.slice none 0 0,.slice none 0 0] 44)).alloc (.cells #[.string m,.slice none 0 0,.slice none 0 0] 44)) (w.heap.size+1) #[.string m,.slice none 0 0,.slice none 0 0] 44:=by
    have:=BoxC.new (w.alloc (.cells #[.string ⟨#[]⟩,.slice none 0 0,.slice none 0 0] 44)) #[.string m,.slice none 0 0,.slice none 0 0] 44
    rw [World.size_alloc] at this
    exact this
  go_enter Tryz.func82,Tryz.ntmps82
  go_wp2
  clear d1 d3
  generalize ((w.alloc (.cells #[.string ⟨#[]⟩,.slice none 0 0,.slice none 0 0] 44)).alloc (.cells #[.string m,.slice none 0 0,.slice none 0 0] 44))=W1 at *
  go_loopw [18] (fun t wr=>∃ (j:Nat) (vv pv:Value) (V:List VarD) (P:List (ProcD × Value)),j≤K.length∧t=.int .i64 j∧FR X (w.heap.size+1+1) wr vv pv V P∧BoxC wr (w.heap.size+1) #[.string m,vv,pv] 44∧BoxC wr w.heap.size #[.string ⟨#[]⟩,.slice none 0 0,.slice none 0 0] 44∧Below w.heap.size w wr∧Hid (V=varsK true (K.take j))∧Hid (P.map (·.1)=procsK true (K.take j))) (fun t _=>K.length - (intOf t).toNat)
  case atStart=>exact ⟨0,_,_,[],[],Nat.zero_le _,rfl,FR.nil _ _ _,hF0,hZ0,hb0,rfl,rfl⟩
  case round =>
    clear hF0 hZ0 hb0
    obtain ⟨j,vv,pv,V,P,hj,rfl,hR,hF,hZ,hb,HV,HP⟩:=hrel
    obtain ⟨av,cv,rfl⟩:=hR.shapeV
    obtain ⟨ap,cp,rfl⟩:=hR.shapeP
    have holdV:∀ b,(Value.slice av V.length cv).ownBlock=some b→b<wr.heap.size:=fun b e=>(hR.ov.lt _ e).2
    have holdP:∀ b,(Value.slice ap P.length cp).ownBlock=some b→b<wr.heap.size:=fun b e=>(hR.op.lt _ e).2
    have hsz:=hF.lt
    have hVl:V.length≤1000:=by rw [HV.out];exact Nat.le_trans (varsK_len true _) (by rw [List.length_take];omega)
    have hPl:P.length≤1000:=by
      have h1:(P.map (·.1)).length=(procsK true (K.take j)).length:=by rw [HP.out]
      rw [List.length_map] at h1
      rw [h1]
      exact Nat.le_trans (procsK_len true _) (by rw [List.length_take];omega)
    by_cases hlt:j<K.length
    · obtain ⟨g,o,rfl,hg,hat⟩:=hK (by intro e;rw [e] at hlt;simp at hlt)
      have hbw:=hbs.trans (hb.mono hbs.size)
      obtain ⟨ka0,kc0,k0,k1,k2,k3,hly⟩:=kid_cells hg hat hbw hlt
      obtain ⟨ka,kc,j0,j1,j2,j3,hl0⟩:=kid_cells hg hat (Below.refl _ _) hlt
      have hj3:=(hbw.cell (p:=⟨g,o+j * 4+3,none⟩) hg).trans j3
      rw [hj3] at k3
      injection k3 with k3
      injection k3 with e1 _ e2
      subst e1 e2
      have k3:=hj3
      clear j0 j1 j2 j3 hj3
      have hgk:=hgood _ (List.getElem_mem hlt)
      have hpk:=hps _ (List.getElem_mem hlt)
      have HV1:Hid (K.take (j+1)=K.take j++[K[j]]):=take_succ_kid K j hlt
      clear hat hK
      generalize hkj:K[j]=kid at *
      clear hkj
      cases kid with
      | imp x =>
        have HV2:Hid (varsK true (K.take j++[.imp x])=V):=by show _=_;rw [varsK_append,HV.out];simp [varsK]
        have HV3:Hid (procsK true (K.take j++[.imp x])=P.map (·.1)):=by show _=_;rw [procsK_append,HP.out];simp [procsK]
        clear hly hgk
        simp only [Kid.kind,Kid.text,Kid.num] at k0 k1 k2
        generalize (Kid.imp x).kids.length=kl at *
        go_wp2
        exact ⟨⟨j+1,_,_,V,P,by omega,by simp,hR.alloc _,hF.alloc _,hZ.alloc _,hb.alloc (by omega) _,by show _=_;rw [HV1.out,HV2.out],by show _=_;rw [HV1.out,HV3.out]⟩,by simp [intOf];omega⟩
      | var x p l n =>
        have HV2:Hid (varsK true (K.take j++[.var x p l n])=V++[varD x p l n]):=by show _=_;rw [varsK_append,HV.out];simp [varsK]
        have HV3:Hid (procsK true (K.take j++[.var x p l n])=P.map (·.1)):=by show _=_;rw [procsK_append,HP.out];simp [procsK]
        have hC:=fun W (hW:Below w.heap.size w W)=>oVarOf x p l n _ W (hl0.to (fun b hb=>Nat.lt_of_lt_of_le hb (Nat.le_trans hbs.size hW.size)) (fun b hb o=>(hbs.trans (hW.mono hbs.size)).cell (p:=⟨b,o,none⟩) hb))
        simp only [Kid.kind,Kid.text,Kid.num] at k0 k1 k2 hC
        clear hly hgk
        generalize varD x p l n=vd at *
        generalize (Kid.var x p l n).kids.length=kl at *
        generalize 2 * bI p+bI l=km at *
        obtain ⟨i0,hi,hz0,hz1,hz2⟩:=info_parts infoV
        have hS2:Q4 wr.heap.size (.int .i64 3) (.string x) (.int .i64 km) (.slice ka kl kc) (wr.alloc (.cells #[.int .i64 3,.string x,.int .i64 km,.slice ka kl kc] 25)).drew:=⟨by simp,by simp,by simp,by simp⟩
        go_wp2
        refine wp_region_held_drew (S:=fun W=>Q4 wr.heap.size (.int .i64 3) (.string x) (.int .i64 km) (.slice ka kl kc) W) (by kernel_rfl) hS2 (fun hHeld=>?_)
        clear hHeld k0 k1 k2 k3
        have hR2:=(hR.alloc (.cells #[.int .i64 3,.string x,.int .i64 km,.slice ka kl kc] 25)).drew
        have hF2:BoxC (wr.alloc (.cells #[.int .i64 3,.string x,.int .i64 km,.slice ka kl kc] 25)).drew (w.heap.size+1) #[.string m,.slice av V.length cv,.slice ap P.length cp] 44:=hF.alloc _
        have hZ2:BoxC (wr.alloc (.cells #[.int .i64 3,.string x,.int .i64 km,.slice ka kl kc] 25)).drew w.heap.size #[.string ⟨#[]⟩,.slice none 0 0,.slice none 0 0] 44:=hZ.alloc _
        have hb2:=(hb.alloc (by omega) (.cells #[.int .i64 3,.string x,.int .i64 km,.slice ka kl kc] 25)).drew
        have hs2:wr.heap.size+1≤(wr.alloc (.cells #[.int .i64 3,.string x,.int .i64 km,.slice ka kl kc] 25)).drew.heap.size:=by show _≤(wr.alloc (.cells #[.int .i64 3,.string x,.int .i64 km,.slice ka kl kc] 25)).heap.size;simp
        clear hR hF hZ hb
        generalize (wr.alloc (.cells #[.int .i64 3,.string x,.int .i64 km,.slice ka kl kc] 25)).drew=W2 at *
        refine tkH (i:=0) (v:=.pointer (some ⟨w.heap.size+1,1,none⟩)) rfl (Or.inl ⟨by rfl,fun w hSw=>by obtain ⟨z0,z1,z2,z3⟩:=hSw;go_simp⟩) hS2 ?_
        simp only [Act.put,jA,jB,jC]
        refine tkH (i:=2) (v:=.agg #[.int .i64 3,.string x,.int .i64 km,.slice ka kl kc]) rfl (Or.inl ⟨by rfl,fun w hSw=>by obtain ⟨z0,z1,z2,z3⟩:=hSw;go_simp⟩) hS2 ?_
        simp only [Act.put,jA,jB,jC]
        refine wpAnyH_ready (rs:=[1,3]) (by kernel_rfl) (by simp) ?_
        refine AllReadyH.cons rfl (fun K hK=>?_) ?_
        · skip
          have m6:=hF2.cell 1 rfl
          go_simp
          refine hK.out _ _ hS2 (fun hHeld=>?_)
          clear hK K hHeld m6
          refine wpAnyH_ready (rs:=[3]) (by kernel_rfl) (by simp) ?_
          refine AllReadyH.cons rfl (fun K hK=>?_) AllReadyH.nil
          go_simp
          go_at_call 129
          refine (hC W2 hb2).mono ?_
          rintro e w3 ⟨rfl,hb3⟩
          unfold varV
          have hw3:=hb3.size
          replace hR2:=hR2.below hb3
          replace hS2:=Q4.below hS2 hb3
          replace hF2:=hF2.below hb3
          replace hZ2:=hZ2.below hb3
          have hb2':=hb2.trans (hb3.mono hb2.size)
          go_wp2
          refine hK.out _ _ hS2 (fun hHeld=>?_)
          clear hK K hHeld hC
          replace hb2:=hb2'
          clear hb2'
          refine wpAnyH_ready (rs:=[4]) (by kernel_rfl) (by simp) ?_
          refine AllReadyH.cons rfl (fun K hK=>?_) AllReadyH.nil
          go_simp
          have hsl:∀ j u,([.string vd.name,.bool vd.pub,.int .i64 vd.label,.int .i64 vd.size]:List Value)[j]?=some u→(w3.alloc (.cells #[.string vd.name,.bool vd.pub,.int .i64 vd.label,.int .i64 vd.size] 76)).cell? ((⟨w3.heap.size,0,none⟩:Addr).add j)=some u:=news_new _ #[.string vd.name,.bool vd.pub,.int .i64 vd.label,.int .i64 vd.size] _ _ rfl
          have hss:w3.heap.size+1=(w3.alloc (.cells #[.string vd.name,.bool vd.pub,.int .i64 vd.label,.int .i64 vd.size] 76)).heap.size:=by simp
          have hs0:wr.heap.size+1≤w3.heap.size:=by omega
          have hbe:=(Below.refl w3.heap.size w3).alloc (jE _) (.cells #[.string vd.name,.bool vd.pub,.int .i64 vd.label,.int .i64 vd.size] 76)
          replace hb2:=hb2.alloc (Nat.le_trans (by omega) hs0) (.cells #[.string vd.name,.bool vd.pub,.int .i64 vd.label,.int .i64 vd.size] 76)
          replace hR2:=hR2.alloc (.cells #[.string vd.name,.bool vd.pub,.int .i64 vd.label,.int .i64 vd.size] 76)
          replace hS2:=Q4.alloc hS2 (.cells #[.string vd.name,.bool vd.pub,.int .i64 vd.label,.int .i64 vd.size] 76)
          replace hF2:=hF2.alloc (.cells #[.string vd.name,.bool vd.pub,.int .i64 vd.label,.int .i64 vd.size] 76)
          replace hZ2:=hZ2.alloc (.cells #[.string vd.name,.bool vd.pub,.int .i64 vd.label,.int .i64 vd.size] 76)
          clear hbe
          refine hK.out _ _ hS2 (fun hHeld=>?_)
          clear hK K hHeld
          generalize w3.alloc (.cells #[.string vd.name,.bool vd.pub,.int .i64 vd.label,.int .i64 vd.size] 76)=W3 at *
          generalize w3.heap.size=s0 at *
          refine wpAnyH_ready (rs:=[5]) (by kernel_rfl) (by simp) ?_
          refine AllReadyH.cons rfl (fun K hK=>?_) AllReadyH.nil
          refine step_append_lies _ (by rfl) (.tmp 27) (.tmp 30) 41 (by rfl) (w.heap.size+1+1) 76 i0 (.agg #[.string ⟨#[]⟩,.bool false,.int .i64 0,.int .i64 0]) 4 40 Tryz.underlying41 hi hz0 hz1 hz2 rfl (by decide) (.slice av V.length cv) V.length (varCells V) (by simp [Act.eval,Act.put]) hR2.ov ⟨s0,0,none⟩ 1 1 [.string vd.name,.bool vd.pub,.int .i64 vd.label,.int .i64 vd.size] (by simp [Act.eval,Act.put]) rfl hsl (by intro u hu;simp at hu;rcases hu with rfl | rfl | rfl | rfl <;> rfl) (by omega) (by unfold maxLen;omega) (by omega) (by omega) (s0+1) hss.symm ?_
          intro g5 cap5 w5 hown5 hgrow5 hat5 hlt5
          have hlo:∀ b,(Value.slice av V.length cv).ownBlock=some b→w.heap.size+1+1≤b∧b<wr.heap.size:=fun b e=>⟨(hR2.ov.lt _ e).1,holdV b e⟩
          have hrN:(Value.slice av V.length cv).ownBlock≠some wr.heap.size:=fun e=>by have:=hlo _ e;omega
          have hrF:(Value.slice av V.length cv).ownBlock≠some (w.heap.size+1):=fun e=>by have:=hlo _ e;omega
          have hrZ:(Value.slice av V.length cv).ownBlock≠some w.heap.size:=fun e=>by have:=hlo _ e;omega
          have hX:∀ b,W3.heap.size≤b→¬ X b:=fun b hb e=>by have:=hX0 b e;omega
          have hfin:=(hR2.pushV (v:=vd) hown5 hgrow5 (hat5.imp id (fun e=>e.trans hss)) hX).set (M:=w.heap.size+1) (o:=1) (by omega) (.slice (some ⟨g5,0,none⟩) (V.length+1) cap5)
          have hF5:=hF2.grown hgrow5 hrF
          have m6:=hF5.cell 1 rfl
          have mf:=hF5.fz 1
          have hF6:=hF5.set 1 (.slice (some ⟨g5,0,none⟩) (V.length+1) cap5)
          have hZ6:=(hZ2.grown hgrow5 hrZ).other (b:=w.heap.size+1) (o:=1) (by omega) (.slice (some ⟨g5,0,none⟩) (V.length+1) cap5)
          have hb6:=(hb2.grown hgrow5 (by omega) (fun k e=>by have:=hlo k e;omega)).setCell (p:=⟨w.heap.size+1,1,none⟩) (Nat.le_succ _) (.slice (some ⟨g5,0,none⟩) (V.length+1) cap5)
          have hs6:=hgrow5.size
          replace hS2:=Q4.grown hS2 hgrow5 hrN
          clear hR2 hF2 hZ2 hb2 hF5
          refine hK.out _ _ hS2 (fun hHeld=>?_)
          clear hK K hHeld
          simp only [Act.put,jA,jB,jC]
          refine tkH (i:=6) (v:=.pointer (some ⟨w.heap.size+1,1,none⟩)) rfl (Or.inl ⟨by rfl,fun w hSw=>by obtain ⟨z0,z1,z2,z3⟩:=hSw;go_simp⟩) hS2 ?_
          simp only [Act.put,jA,jB,jC]
          refine wpAnyH_ready (rs:=[7]) (by kernel_rfl) (by simp) ?_
          refine AllReadyH.cons rfl (fun K hK=>?_) AllReadyH.nil
          go_simp
          refine hK.out _ _ (Q4.other (by omega) hS2 _ _) (fun hHeld=>?_)
          clear hK K hHeld m6 mf
          refine wpAnyH_done (by kernel_rfl) ?_ _
          go_wp2
          exact ⟨⟨j+1,.slice (some ⟨g5,0,none⟩) (V.length+1) cap5,.slice ap P.length cp,V++[vd],P,by omega,by simp,hfin,hF6,hZ6,hb6,by show _=_;rw [HV1.out,HV2.out],by show _=_;rw [HV1.out,HV3.out]⟩,by simp [intOf];omega⟩
        refine AllReadyH.cons rfl (fun K hK=>?_) AllReadyH.nil
        go_simp
        go_at_call 129
        refine (hC W2 hb2).mono ?_
        rintro e w3 ⟨rfl,hb3⟩
        unfold varV
        have hw3:=hb3.size
        replace hR2:=hR2.below hb3
        replace hS2:=Q4.below hS2 hb3
        replace hF2:=hF2.below hb3
        replace hZ2:=hZ2.below hb3
        have hb2':=hb2.trans (hb3.mono hb2.size)
        go_wp2
        refine hK.out _ _ hS2 (fun hHeld=>?_)
        clear hK K hHeld hC
        replace hb2:=hb2'
        clear hb2'
        refine wpAnyH_ready (rs:=[1,4]) (by kernel_rfl) (by simp) ?_
        refine AllReadyH.cons rfl (fun K hK=>?_) ?_
        · skip
          have m6:=hF2.cell 1 rfl
          go_simp
          refine hK.out _ _ hS2 (fun hHeld=>?_)
          clear hK K hHeld m6
          refine wpAnyH_ready (rs:=[4]) (by kernel_rfl) (by simp) ?_
          refine AllReadyH.cons rfl (fun K hK=>?_) AllReadyH.nil
          go_simp
          have hsl:∀ j u,([.string vd.name,.bool vd.pub,.int .i64 vd.label,.int .i64 vd.size]:List Value)[j]?=some u→(w3.alloc (.cells #[.string vd.name,.bool vd.pub,.int .i64 vd.label,.int .i64 vd.size] 76)).cell? ((⟨w3.heap.size,0,none⟩:Addr).add j)=some u:=news_new _ #[.string vd.name,.bool vd.pub,.int .i64 vd.label,.int .i64 vd.size] _ _ rfl
          have hss:w3.heap.size+1=(w3.alloc (.cells #[.string vd.name,.bool vd.pub,.int .i64 vd.label,.int .i64 vd.size] 76)).heap.size:=by simp
          have hs0:wr.heap.size+1≤w3.heap.size:=by omega
          have hbe:=(Below.refl w3.heap.size w3).alloc (jE _) (.cells #[.string vd.name,.bool vd.pub,.int .i64 vd.label,.int .i64 vd.size] 76)
          replace hb2:=hb2.alloc (Nat.le_trans (by omega) hs0) (.cells #[.string vd.name,.bool vd.pub,.int .i64 vd.label,.int .i64 vd.size] 76)
          replace hR2:=hR2.alloc (.cells #[.string vd.name,.bool vd.pub,.int .i64 vd.label,.int .i64 vd.size] 76)
          replace hS2:=Q4.alloc hS2 (.cells #[.string vd.name,.bool vd.pub,.int .i64 vd.label,.int .i64 vd.size] 76)
          replace hF2:=hF2.alloc (.cells #[.string vd.name,.bool vd.pub,.int .i64 vd.label,.int .i64 vd.size] 76)
          replace hZ2:=hZ2.alloc (.cells #[.string vd.name,.bool vd.pub,.int .i64 vd.label,.int .i64 vd.size] 76)
          clear hbe
          refine hK.out _ _ hS2 (fun hHeld=>?_)
          clear hK K hHeld
          generalize w3.alloc (.cells #[.string vd.name,.bool vd.pub,.int .i64 vd.label,.int .i64 vd.size] 76)=W3 at *
          generalize w3.heap.size=s0 at *
          refine wpAnyH_ready (rs:=[5]) (by kernel_rfl) (by simp) ?_
          refine AllReadyH.cons rfl (fun K hK=>?_) AllReadyH.nil
          refine step_append_lies _ (by rfl) (.tmp 27) (.tmp 30) 41 (by rfl) (w.heap.size+1+1) 76 i0 (.agg #[.string ⟨#[]⟩,.bool false,.int .i64 0,.int .i64 0]) 4 40 Tryz.underlying41 hi hz0 hz1 hz2 rfl (by decide) (.slice av V.length cv) V.length (varCells V) (by simp [Act.eval,Act.put]) hR2.ov ⟨s0,0,none⟩ 1 1 [.string vd.name,.bool vd.pub,.int .i64 vd.label,.int .i64 vd.size] (by simp [Act.eval,Act.put]) rfl hsl (by intro u hu;simp at hu;rcases hu with rfl | rfl | rfl | rfl <;> rfl) (by omega) (by unfold maxLen;omega) (by omega) (by omega) (s0+1) hss.symm ?_
          intro g5 cap5 w5 hown5 hgrow5 hat5 hlt5
          have hlo:∀ b,(Value.slice av V.length cv).ownBlock=some b→w.heap.size+1+1≤b∧b<wr.heap.size:=fun b e=>⟨(hR2.ov.lt _ e).1,holdV b e⟩
          have hrN:(Value.slice av V.length cv).ownBlock≠some wr.heap.size:=fun e=>by have:=hlo _ e;omega
          have hrF:(Value.slice av V.length cv).ownBlock≠some (w.heap.size+1):=fun e=>by have:=hlo _ e;omega
          have hrZ:(Value.slice av V.length cv).ownBlock≠some w.heap.size:=fun e=>by have:=hlo _ e;omega
          have hX:∀ b,W3.heap.size≤b→¬ X b:=fun b hb e=>by have:=hX0 b e;omega
          have hfin:=(hR2.pushV (v:=vd) hown5 hgrow5 (hat5.imp id (fun e=>e.trans hss)) hX).set (M:=w.heap.size+1) (o:=1) (by omega) (.slice (some ⟨g5,0,none⟩) (V.length+1) cap5)
          have hF5:=hF2.grown hgrow5 hrF
          have m6:=hF5.cell 1 rfl
          have mf:=hF5.fz 1
          have hF6:=hF5.set 1 (.slice (some ⟨g5,0,none⟩) (V.length+1) cap5)
          have hZ6:=(hZ2.grown hgrow5 hrZ).other (b:=w.heap.size+1) (o:=1) (by omega) (.slice (some ⟨g5,0,none⟩) (V.length+1) cap5)
          have hb6:=(hb2.grown hgrow5 (by omega) (fun k e=>by have:=hlo k e;omega)).setCell (p:=⟨w.heap.size+1,1,none⟩) (Nat.le_succ _) (.slice (some ⟨g5,0,none⟩) (V.length+1) cap5)
          have hs6:=hgrow5.size
          replace hS2:=Q4.grown hS2 hgrow5 hrN
          clear hR2 hF2 hZ2 hb2 hF5
          refine hK.out _ _ hS2 (fun hHeld=>?_)
          clear hK K hHeld
          simp only [Act.put,jA,jB,jC]
          refine tkH (i:=6) (v:=.pointer (some ⟨w.heap.size+1,1,none⟩)) rfl (Or.inl ⟨by rfl,fun w hSw=>by obtain ⟨z0,z1,z2,z3⟩:=hSw;go_simp⟩) hS2 ?_
          simp only [Act.put,jA,jB,jC]
          refine wpAnyH_ready (rs:=[7]) (by kernel_rfl) (by simp) ?_
          refine AllReadyH.cons rfl (fun K hK=>?_) AllReadyH.nil
          go_simp
          refine hK.out _ _ (Q4.other (by omega) hS2 _ _) (fun hHeld=>?_)
          clear hK K hHeld m6 mf
          refine wpAnyH_done (by kernel_rfl) ?_ _
          go_wp2
          exact ⟨⟨j+1,.slice (some ⟨g5,0,none⟩) (V.length+1) cap5,.slice ap P.length cp,V++[vd],P,by omega,by simp,hfin,hF6,hZ6,hb6,by show _=_;rw [HV1.out,HV2.out],by show _=_;rw [HV1.out,HV3.out]⟩,by simp [intOf];omega⟩
        refine AllReadyH.cons rfl (fun K hK=>?_) AllReadyH.nil
        go_simp
        have hsl:∀ j u,([.string vd.name,.bool vd.pub,.int .i64 vd.label,.int .i64 vd.size]:List Value)[j]?=some u→(w3.alloc (.cells #[.string vd.name,.bool vd.pub,.int .i64 vd.label,.int .i64 vd.size] 76)).cell? ((⟨w3.heap.size,0,none⟩:Addr).add j)=some u:=news_new _ #[.string vd.name,.bool vd.pub,.int .i64 vd.label,.int .i64 vd.size] _ _ rfl
        have hss:w3.heap.size+1=(w3.alloc (.cells #[.string vd.name,.bool vd.pub,.int .i64 vd.label,.int .i64 vd.size] 76)).heap.size:=by simp
        have hs0:wr.heap.size+1≤w3.heap.size:=by omega
        have hbe:=(Below.refl w3.heap.size w3).alloc (jE _) (.cells #[.string vd.name,.bool vd.pub,.int .i64 vd.label,.int .i64 vd.size] 76)
        replace hb2:=hb2.alloc (Nat.le_trans (by omega) hs0) (.cells #[.string vd.name,.bool vd.pub,.int .i64 vd.label,.int .i64 vd.size] 76)
        replace hR2:=hR2.alloc (.cells #[.string vd.name,.bool vd.pub,.int .i64 vd.label,.int .i64 vd.size] 76)
        replace hS2:=Q4.alloc hS2 (.cells #[.string vd.name,.bool vd.pub,.int .i64 vd.label,.int .i64 vd.size] 76)
        replace hF2:=hF2.alloc (.cells #[.string vd.name,.bool vd.pub,.int .i64 vd.label,.int .i64 vd.size] 76)
        replace hZ2:=hZ2.alloc (.cells #[.string vd.name,.bool vd.pub,.int .i64 vd.label,.int .i64 vd.size] 76)
        clear hbe
        refine hK.out _ _ hS2 (fun hHeld=>?_)
        clear hK K hHeld
        generalize w3.alloc (.cells #[.string vd.name,.bool vd.pub,.int .i64 vd.label,.int .i64 vd.size] 76)=W3 at *
        generalize w3.heap.size=s0 at *
        refine wpAnyH_ready (rs:=[1]) (by kernel_rfl) (by simp) ?_
        refine AllReadyH.cons rfl (fun K hK=>?_) AllReadyH.nil
        have m6:=hF2.cell 1 rfl
        go_simp
        refine hK.out _ _ hS2 (fun hHeld=>?_)
        clear hK K hHeld m6
        refine wpAnyH_ready (rs:=[5]) (by kernel_rfl) (by simp) ?_
        refine AllReadyH.cons rfl (fun K hK=>?_) AllReadyH.nil
        refine step_append_lies _ (by rfl) (.tmp 27) (.tmp 30) 41 (by rfl) (w.heap.size+1+1) 76 i0 (.agg #[.string ⟨#[]⟩,.bool false,.int .i64 0,.int .i64 0]) 4 40 Tryz.underlying41 hi hz0 hz1 hz2 rfl (by decide) (.slice av V.length cv) V.length (varCells V) (by simp [Act.eval,Act.put]) hR2.ov ⟨s0,0,none⟩ 1 1 [.string vd.name,.bool vd.pub,.int .i64 vd.label,.int .i64 vd.size] (by simp [Act.eval,Act.put]) rfl hsl (by intro u hu;simp at hu;rcases hu with rfl | rfl | rfl | rfl <;> rfl) (by omega) (by unfold maxLen;omega) (by omega) (by omega) (s0+1) hss.symm ?_
        intro g5 cap5 w5 hown5 hgrow5 hat5 hlt5
        have hlo:∀ b,(Value.slice av V.length cv).ownBlock=some b→w.heap.size+1+1≤b∧b<wr.heap.size:=fun b e=>⟨(hR2.ov.lt _ e).1,holdV b e⟩
        have hrN:(Value.slice av V.length cv).ownBlock≠some wr.heap.size:=fun e=>by have:=hlo _ e;omega
        have hrF:(Value.slice av V.length cv).ownBlock≠some (w.heap.size+1):=fun e=>by have:=hlo _ e;omega
        have hrZ:(Value.slice av V.length cv).ownBlock≠some w.heap.size:=fun e=>by have:=hlo _ e;omega
        have hX:∀ b,W3.heap.size≤b→¬ X b:=fun b hb e=>by have:=hX0 b e;omega
        have hfin:=(hR2.pushV (v:=vd) hown5 hgrow5 (hat5.imp id (fun e=>e.trans hss)) hX).set (M:=w.heap.size+1) (o:=1) (by omega) (.slice (some ⟨g5,0,none⟩) (V.length+1) cap5)
        have hF5:=hF2.grown hgrow5 hrF
        have m6:=hF5.cell 1 rfl
        have mf:=hF5.fz 1
        have hF6:=hF5.set 1 (.slice (some ⟨g5,0,none⟩) (V.length+1) cap5)
        have hZ6:=(hZ2.grown hgrow5 hrZ).other (b:=w.heap.size+1) (o:=1) (by omega) (.slice (some ⟨g5,0,none⟩) (V.length+1) cap5)
        have hb6:=(hb2.grown hgrow5 (by omega) (fun k e=>by have:=hlo k e;omega)).setCell (p:=⟨w.heap.size+1,1,none⟩) (Nat.le_succ _) (.slice (some ⟨g5,0,none⟩) (V.length+1) cap5)
        have hs6:=hgrow5.size
        replace hS2:=Q4.grown hS2 hgrow5 hrN
        clear hR2 hF2 hZ2 hb2 hF5
        refine hK.out _ _ hS2 (fun hHeld=>?_)
        clear hK K hHeld
        simp only [Act.put,jA,jB,jC]
        refine tkH (i:=6) (v:=.pointer (some ⟨w.heap.size+1,1,none⟩)) rfl (Or.inl ⟨by rfl,fun w hSw=>by obtain ⟨z0,z1,z2,z3⟩:=hSw;go_simp⟩) hS2 ?_
        simp only [Act.put,jA,jB,jC]
        refine wpAnyH_ready (rs:=[7]) (by kernel_rfl) (by simp) ?_
        refine AllReadyH.cons rfl (fun K hK=>?_) AllReadyH.nil
        go_simp
        refine hK.out _ _ (Q4.other (by omega) hS2 _ _) (fun hHeld=>?_)
        clear hK K hHeld m6 mf
        refine wpAnyH_done (by kernel_rfl) ?_ _
        go_wp2
        exact ⟨⟨j+1,.slice (some ⟨g5,0,none⟩) (V.length+1) cap5,.slice ap P.length cp,V++[vd],P,by omega,by simp,hfin,hF6,hZ6,hb6,by show _=_;rw [HV1.out,HV2.out],by show _=_;rw [HV1.out,HV3.out]⟩,by simp [intOf];omega⟩
      | proc x p l gv ps b =>
        have HV2:Hid (varsK true (K.take j++[.proc x p l gv ps b])=V):=by show _=_;rw [varsK_append,HV.out];simp [varsK]
        have HV3:Hid (procsK true (K.take j++[.proc x p l gv ps b])=P.map (·.1)++[procD x p l gv ps]):=by show _=_;rw [procsK_append,HP.out];simp [procsK]
        have HPL:Hid ((procD x p l gv ps).params.length=ps.length):=by show _=_;simp [procD]
        have hpl:ps.length≤1000:=by simp [Kid.kids] at hpk;omega
        have hC:∀ W (hW:Below w.heap.size w W),Calls Tryz.prog 130 #[_] W fun e w'=>∃ u,e=.returned (procV (procD x p l gv ps) u)∧w'.ownsRow W.heap.size 3 1 u ps.length (intV (procD x p l gv ps).params)∧Below W.heap.size W w':=fun W hW=>oProcOf x p l gv ps b _ W (hl0.to (fun b hb=>Nat.lt_of_lt_of_le hb (Nat.le_trans hbs.size hW.size)) (fun b hb o=>(hbs.trans (hW.mono hbs.size)).cell (p:=⟨b,o,none⟩) hb)) hpl hgk.2.2
        simp only [Kid.kind,Kid.text,Kid.num] at k0 k1 k2 hC
        clear hly hgk hpk
        generalize procD x p l gv ps=pd at *
        generalize (Kid.proc x p l gv ps b).kids.length=kl at *
        generalize 2 * bI p+bI l+gI gv=km at *
        obtain ⟨i0,hi,hz0,hz1,hz2⟩:=info_parts infoP
        have hS2:Q4 wr.heap.size (.int .i64 4) (.string x) (.int .i64 km) (.slice ka kl kc) (wr.alloc (.cells #[.int .i64 4,.string x,.int .i64 km,.slice ka kl kc] 25)).drew:=⟨by simp,by simp,by simp,by simp⟩
        go_wp2
        refine wp_region_held_drew (S:=fun W=>Q4 wr.heap.size (.int .i64 4) (.string x) (.int .i64 km) (.slice ka kl kc) W) (by kernel_rfl) hS2 (fun hHeld=>?_)
        clear hHeld k0 k1 k2 k3
        have hR2:=(hR.alloc (.cells #[.int .i64 4,.string x,.int .i64 km,.slice ka kl kc] 25)).drew
        have hF2:BoxC (wr.alloc (.cells #[.int .i64 4,.string x,.int .i64 km,.slice ka kl kc] 25)).drew (w.heap.size+1) #[.string m,.slice av V.length cv,.slice ap P.length cp] 44:=hF.alloc _
        have hZ2:BoxC (wr.alloc (.cells #[.int .i64 4,.string x,.int .i64 km,.slice ka kl kc] 25)).drew w.heap.size #[.string ⟨#[]⟩,.slice none 0 0,.slice none 0 0] 44:=hZ.alloc _
        have hb2:=(hb.alloc (by omega) (.cells #[.int .i64 4,.string x,.int .i64 km,.slice ka kl kc] 25)).drew
        have hs2:wr.heap.size+1≤(wr.alloc (.cells #[.int .i64 4,.string x,.int .i64 km,.slice ka kl kc] 25)).drew.heap.size:=by show _≤(wr.alloc (.cells #[.int .i64 4,.string x,.int .i64 km,.slice ka kl kc] 25)).heap.size;simp
        clear hR hF hZ hb
        generalize (wr.alloc (.cells #[.int .i64 4,.string x,.int .i64 km,.slice ka kl kc] 25)).drew=W2 at *
        refine tkH (i:=0) (v:=.pointer (some ⟨w.heap.size+1,2,none⟩)) rfl (Or.inl ⟨by rfl,fun w hSw=>by obtain ⟨z0,z1,z2,z3⟩:=hSw;go_simp⟩) hS2 ?_
        simp only [Act.put,jA,jB,jC]
        refine tkH (i:=2) (v:=.agg #[.int .i64 4,.string x,.int .i64 km,.slice ka kl kc]) rfl (Or.inl ⟨by rfl,fun w hSw=>by obtain ⟨z0,z1,z2,z3⟩:=hSw;go_simp⟩) hS2 ?_
        simp only [Act.put,jA,jB,jC]
        refine wpAnyH_ready (rs:=[1,3]) (by kernel_rfl) (by simp) ?_
        refine AllReadyH.cons rfl (fun K hK=>?_) ?_
        · skip
          have m6:=hF2.cell 2 rfl
          go_simp
          refine hK.out _ _ hS2 (fun hHeld=>?_)
          clear hK K hHeld m6
          refine wpAnyH_ready (rs:=[3]) (by kernel_rfl) (by simp) ?_
          refine AllReadyH.cons rfl (fun K hK=>?_) AllReadyH.nil
          go_simp
          go_at_call 130
          refine (hC W2 hb2).mono ?_
          rintro e w3 ⟨zu,rfl,hzu,hb3⟩
          obtain ⟨za,zc,rfl,_,_⟩:=lexs.own_shape hzu
          have hpar:ParIn (fun b=>W2.heap.size≤b∧b<w3.heap.size) w3 (.slice za pd.params.length zc) pd.params:=ParIn.own (by rw [HPL.out];exact hzu)
          rw [HPL.out] at hpar
          generalize hzn:ps.length=zn at hzu hpar ⊢
          unfold procV
          have hw3:=hb3.size
          replace hR2:=hR2.below hb3
          replace hS2:=Q4.below hS2 hb3
          replace hF2:=hF2.below hb3
          replace hZ2:=hZ2.below hb3
          have hb2':=hb2.trans (hb3.mono hb2.size)
          have hold:W2.heap.size≤W2.heap.size:=jE _
          generalize hpb:W2.heap.size=pb at hpar
          go_wp2
          refine hK.out _ _ hS2 (fun hHeld=>?_)
          clear hK K hHeld hC
          replace hb2:=hb2'
          clear hb2'
          refine wpAnyH_ready (rs:=[4]) (by kernel_rfl) (by simp) ?_
          refine AllReadyH.cons rfl (fun K hK=>?_) AllReadyH.nil
          go_simp
          have hsl:∀ j u,([.string pd.name,.bool pd.pub,.slice za zn zc,.int .i64 pd.writes,.bool pd.gives,.int .i64 pd.given]:List Value)[j]?=some u→(w3.alloc (.cells #[.string pd.name,.bool pd.pub,.slice za zn zc,.int .i64 pd.writes,.bool pd.gives,.int .i64 pd.given] 80)).cell? ((⟨w3.heap.size,0,none⟩:Addr).add j)=some u:=news_new _ #[.string pd.name,.bool pd.pub,.slice za zn zc,.int .i64 pd.writes,.bool pd.gives,.int .i64 pd.given] _ _ rfl
          have hss:w3.heap.size+1=(w3.alloc (.cells #[.string pd.name,.bool pd.pub,.slice za zn zc,.int .i64 pd.writes,.bool pd.gives,.int .i64 pd.given] 80)).heap.size:=by simp
          have hs0:wr.heap.size+1≤w3.heap.size:=by omega
          have hbe:=(Below.refl w3.heap.size w3).alloc (jE _) (.cells #[.string pd.name,.bool pd.pub,.slice za zn zc,.int .i64 pd.writes,.bool pd.gives,.int .i64 pd.given] 80)
          replace hb2:=hb2.alloc (Nat.le_trans (by omega) hs0) (.cells #[.string pd.name,.bool pd.pub,.slice za zn zc,.int .i64 pd.writes,.bool pd.gives,.int .i64 pd.given] 80)
          replace hR2:=hR2.alloc (.cells #[.string pd.name,.bool pd.pub,.slice za zn zc,.int .i64 pd.writes,.bool pd.gives,.int .i64 pd.given] 80)
          replace hS2:=Q4.alloc hS2 (.cells #[.string pd.name,.bool pd.pub,.slice za zn zc,.int .i64 pd.writes,.bool pd.gives,.int .i64 pd.given] 80)
          replace hF2:=hF2.alloc (.cells #[.string pd.name,.bool pd.pub,.slice za zn zc,.int .i64 pd.writes,.bool pd.gives,.int .i64 pd.given] 80)
          replace hZ2:=hZ2.alloc (.cells #[.string pd.name,.bool pd.pub,.slice za zn zc,.int .i64 pd.writes,.bool pd.gives,.int .i64 pd.given] 80)
          replace hpar:ParIn (fun b=>pb≤b∧b<w3.heap.size) (w3.alloc (.cells #[.string pd.name,.bool pd.pub,.slice za zn zc,.int .i64 pd.writes,.bool pd.gives,.int .i64 pd.given] 80)) (.slice za zn zc) pd.params:=hpar.to (fun b hb=>⟨hb.1,by omega⟩) (fun b hb o v hc=>(hbe.cell (p:=⟨b,o,none⟩) (by show b<w3.heap.size;omega)).trans hc)
          clear hbe
          refine hK.out _ _ hS2 (fun hHeld=>?_)
          clear hK K hHeld
          generalize w3.alloc (.cells #[.string pd.name,.bool pd.pub,.slice za zn zc,.int .i64 pd.writes,.bool pd.gives,.int .i64 pd.given] 80)=W3 at *
          generalize w3.heap.size=s0 at *
          refine wpAnyH_ready (rs:=[5]) (by kernel_rfl) (by simp) ?_
          refine AllReadyH.cons rfl (fun K hK=>?_) AllReadyH.nil
          refine step_append_lies _ (by rfl) (.tmp 36) (.tmp 39) 42 (by rfl) (w.heap.size+1+1) 80 i0 (.agg #[.string ⟨#[]⟩,.bool false,.slice none 0 0,.int .i64 0,.bool false,.int .i64 0]) 6 72 Tryz.underlying42 hi hz0 hz1 hz2 rfl (by decide) (.slice ap P.length cp) P.length (procCells P) (by simp [Act.eval,Act.put]) hR2.op ⟨s0,0,none⟩ 1 1 [.string pd.name,.bool pd.pub,.slice za zn zc,.int .i64 pd.writes,.bool pd.gives,.int .i64 pd.given] (by simp [Act.eval,Act.put]) rfl hsl (by intro u hu;simp at hu;rcases hu with rfl | rfl | rfl | rfl | rfl | rfl <;> rfl) (by omega) (by unfold maxLen;omega) (by omega) (by omega) (s0+1) hss.symm ?_
          intro g5 cap5 w5 hown5 hgrow5 hat5 hlt5
          have hlo:∀ b,(Value.slice ap P.length cp).ownBlock=some b→w.heap.size+1+1≤b∧b<wr.heap.size:=fun b e=>⟨(hR2.op.lt _ e).1,holdP b e⟩
          have hrN:(Value.slice ap P.length cp).ownBlock≠some wr.heap.size:=fun e=>by have:=hlo _ e;omega
          have hrF:(Value.slice ap P.length cp).ownBlock≠some (w.heap.size+1):=fun e=>by have:=hlo _ e;omega
          have hrZ:(Value.slice ap P.length cp).ownBlock≠some w.heap.size:=fun e=>by have:=hlo _ e;omega
          have hX:∀ b,W3.heap.size≤b→¬ X b:=fun b hb e=>by have:=hX0 b e;omega
          have hq:ParIn (fun b=>w.heap.size+1+1≤b∧b<W3.heap.size∧(Value.slice av V.length cv).ownBlock≠some b∧(Value.slice ap P.length cp).ownBlock≠some b∧¬ X b) W3 (.slice za zn zc) pd.params :=
            hpar.to (fun b hb=>⟨by omega,by omega,fun e=>by have:=holdV _ e;omega,fun e=>by have:=holdP _ e;omega,fun e=>by have:=hX0 b e;omega⟩) (fun b hb o v hc=>hc)
          have hfin:=(hR2.pushP (q:=(pd,.slice za zn zc)) hown5 hgrow5 (hat5.imp id (fun e=>e.trans hss)) hX hq).set (M:=w.heap.size+1) (o:=2) (by omega) (.slice (some ⟨g5,0,none⟩) (P.length+1) cap5)
          have hF5:=hF2.grown hgrow5 hrF
          have m6:=hF5.cell 2 rfl
          have mf:=hF5.fz 2
          have hF6:=hF5.set 2 (.slice (some ⟨g5,0,none⟩) (P.length+1) cap5)
          have hZ6:=(hZ2.grown hgrow5 hrZ).other (b:=w.heap.size+1) (o:=2) (by omega) (.slice (some ⟨g5,0,none⟩) (P.length+1) cap5)
          have hb6:=(hb2.grown hgrow5 (by omega) (fun k e=>by have:=hlo k e;omega)).setCell (p:=⟨w.heap.size+1,2,none⟩) (Nat.le_succ _) (.slice (some ⟨g5,0,none⟩) (P.length+1) cap5)
          have hs6:=hgrow5.size
          replace hS2:=Q4.grown hS2 hgrow5 hrN
          clear hR2 hF2 hZ2 hb2 hF5
          refine hK.out _ _ hS2 (fun hHeld=>?_)
          clear hK K hHeld
          simp only [Act.put,jA,jB,jC]
          refine tkH (i:=6) (v:=.pointer (some ⟨w.heap.size+1,2,none⟩)) rfl (Or.inl ⟨by rfl,fun w hSw=>by obtain ⟨z0,z1,z2,z3⟩:=hSw;go_simp⟩) hS2 ?_
          simp only [Act.put,jA,jB,jC]
          refine wpAnyH_ready (rs:=[7]) (by kernel_rfl) (by simp) ?_
          refine AllReadyH.cons rfl (fun K hK=>?_) AllReadyH.nil
          go_simp
          refine hK.out _ _ (Q4.other (by omega) hS2 _ _) (fun hHeld=>?_)
          clear hK K hHeld m6 mf
          refine wpAnyH_done (by kernel_rfl) ?_ _
          go_wp2
          exact ⟨⟨j+1,.slice av V.length cv,.slice (some ⟨g5,0,none⟩) (P.length+1) cap5,V,P++[(pd,.slice za zn zc)],by omega,by simp,hfin,hF6,hZ6,hb6,by show _=_;rw [HV1.out,HV2.out],by show _=_;rw [HV1.out,HV3.out,List.map_append];rfl⟩,by simp [intOf];omega⟩
        refine AllReadyH.cons rfl (fun K hK=>?_) AllReadyH.nil
        go_simp
        go_at_call 130
        refine (hC W2 hb2).mono ?_
        rintro e w3 ⟨zu,rfl,hzu,hb3⟩
        obtain ⟨za,zc,rfl,_,_⟩:=lexs.own_shape hzu
        have hpar:ParIn (fun b=>W2.heap.size≤b∧b<w3.heap.size) w3 (.slice za pd.params.length zc) pd.params:=ParIn.own (by rw [HPL.out];exact hzu)
        rw [HPL.out] at hpar
        generalize hzn:ps.length=zn at hzu hpar ⊢
        unfold procV
        have hw3:=hb3.size
        replace hR2:=hR2.below hb3
        replace hS2:=Q4.below hS2 hb3
        replace hF2:=hF2.below hb3
        replace hZ2:=hZ2.below hb3
        have hb2':=hb2.trans (hb3.mono hb2.size)
        have hold:W2.heap.size≤W2.heap.size:=jE _
        generalize hpb:W2.heap.size=pb at hpar
        go_wp2
        refine hK.out _ _ hS2 (fun hHeld=>?_)
        clear hK K hHeld hC
        replace hb2:=hb2'
        clear hb2'
        refine wpAnyH_ready (rs:=[1,4]) (by kernel_rfl) (by simp) ?_
        refine AllReadyH.cons rfl (fun K hK=>?_) ?_
        · skip
          have m6:=hF2.cell 2 rfl
          go_simp
          refine hK.out _ _ hS2 (fun hHeld=>?_)
          clear hK K hHeld m6
          refine wpAnyH_ready (rs:=[4]) (by kernel_rfl) (by simp) ?_
          refine AllReadyH.cons rfl (fun K hK=>?_) AllReadyH.nil
          go_simp
          have hsl:∀ j u,([.string pd.name,.bool pd.pub,.slice za zn zc,.int .i64 pd.writes,.bool pd.gives,.int .i64 pd.given]:List Value)[j]?=some u→(w3.alloc (.cells #[.string pd.name,.bool pd.pub,.slice za zn zc,.int .i64 pd.writes,.bool pd.gives,.int .i64 pd.given] 80)).cell? ((⟨w3.heap.size,0,none⟩:Addr).add j)=some u:=news_new _ #[.string pd.name,.bool pd.pub,.slice za zn zc,.int .i64 pd.writes,.bool pd.gives,.int .i64 pd.given] _ _ rfl
          have hss:w3.heap.size+1=(w3.alloc (.cells #[.string pd.name,.bool pd.pub,.slice za zn zc,.int .i64 pd.writes,.bool pd.gives,.int .i64 pd.given] 80)).heap.size:=by simp
          have hs0:wr.heap.size+1≤w3.heap.size:=by omega
          have hbe:=(Below.refl w3.heap.size w3).alloc (jE _) (.cells #[.string pd.name,.bool pd.pub,.slice za zn zc,.int .i64 pd.writes,.bool pd.gives,.int .i64 pd.given] 80)
          replace hb2:=hb2.alloc (Nat.le_trans (by omega) hs0) (.cells #[.string pd.name,.bool pd.pub,.slice za zn zc,.int .i64 pd.writes,.bool pd.gives,.int .i64 pd.given] 80)
          replace hR2:=hR2.alloc (.cells #[.string pd.name,.bool pd.pub,.slice za zn zc,.int .i64 pd.writes,.bool pd.gives,.int .i64 pd.given] 80)
          replace hS2:=Q4.alloc hS2 (.cells #[.string pd.name,.bool pd.pub,.slice za zn zc,.int .i64 pd.writes,.bool pd.gives,.int .i64 pd.given] 80)
          replace hF2:=hF2.alloc (.cells #[.string pd.name,.bool pd.pub,.slice za zn zc,.int .i64 pd.writes,.bool pd.gives,.int .i64 pd.given] 80)
          replace hZ2:=hZ2.alloc (.cells #[.string pd.name,.bool pd.pub,.slice za zn zc,.int .i64 pd.writes,.bool pd.gives,.int .i64 pd.given] 80)
          replace hpar:ParIn (fun b=>pb≤b∧b<w3.heap.size) (w3.alloc (.cells #[.string pd.name,.bool pd.pub,.slice za zn zc,.int .i64 pd.writes,.bool pd.gives,.int .i64 pd.given] 80)) (.slice za zn zc) pd.params:=hpar.to (fun b hb=>⟨hb.1,by omega⟩) (fun b hb o v hc=>(hbe.cell (p:=⟨b,o,none⟩) (by show b<w3.heap.size;omega)).trans hc)
          clear hbe
          refine hK.out _ _ hS2 (fun hHeld=>?_)
          clear hK K hHeld
          generalize w3.alloc (.cells #[.string pd.name,.bool pd.pub,.slice za zn zc,.int .i64 pd.writes,.bool pd.gives,.int .i64 pd.given] 80)=W3 at *
          generalize w3.heap.size=s0 at *
          refine wpAnyH_ready (rs:=[5]) (by kernel_rfl) (by simp) ?_
          refine AllReadyH.cons rfl (fun K hK=>?_) AllReadyH.nil
          refine step_append_lies _ (by rfl) (.tmp 36) (.tmp 39) 42 (by rfl) (w.heap.size+1+1) 80 i0 (.agg #[.string ⟨#[]⟩,.bool false,.slice none 0 0,.int .i64 0,.bool false,.int .i64 0]) 6 72 Tryz.underlying42 hi hz0 hz1 hz2 rfl (by decide) (.slice ap P.length cp) P.length (procCells P) (by simp [Act.eval,Act.put]) hR2.op ⟨s0,0,none⟩ 1 1 [.string pd.name,.bool pd.pub,.slice za zn zc,.int .i64 pd.writes,.bool pd.gives,.int .i64 pd.given] (by simp [Act.eval,Act.put]) rfl hsl (by intro u hu;simp at hu;rcases hu with rfl | rfl | rfl | rfl | rfl | rfl <;> rfl) (by omega) (by unfold maxLen;omega) (by omega) (by omega) (s0+1) hss.symm ?_
          intro g5 cap5 w5 hown5 hgrow5 hat5 hlt5
          have hlo:∀ b,(Value.slice ap P.length cp).ownBlock=some b→w.heap.size+1+1≤b∧b<wr.heap.size:=fun b e=>⟨(hR2.op.lt _ e).1,holdP b e⟩
          have hrN:(Value.slice ap P.length cp).ownBlock≠some wr.heap.size:=fun e=>by have:=hlo _ e;omega
          have hrF:(Value.slice ap P.length cp).ownBlock≠some (w.heap.size+1):=fun e=>by have:=hlo _ e;omega
          have hrZ:(Value.slice ap P.length cp).ownBlock≠some w.heap.size:=fun e=>by have:=hlo _ e;omega
          have hX:∀ b,W3.heap.size≤b→¬ X b:=fun b hb e=>by have:=hX0 b e;omega
          have hq:ParIn (fun b=>w.heap.size+1+1≤b∧b<W3.heap.size∧(Value.slice av V.length cv).ownBlock≠some b∧(Value.slice ap P.length cp).ownBlock≠some b∧¬ X b) W3 (.slice za zn zc) pd.params :=
            hpar.to (fun b hb=>⟨by omega,by omega,fun e=>by have:=holdV _ e;omega,fun e=>by have:=holdP _ e;omega,fun e=>by have:=hX0 b e;omega⟩) (fun b hb o v hc=>hc)
          have hfin:=(hR2.pushP (q:=(pd,.slice za zn zc)) hown5 hgrow5 (hat5.imp id (fun e=>e.trans hss)) hX hq).set (M:=w.heap.size+1) (o:=2) (by omega) (.slice (some ⟨g5,0,none⟩) (P.length+1) cap5)
          have hF5:=hF2.grown hgrow5 hrF
          have m6:=hF5.cell 2 rfl
          have mf:=hF5.fz 2
          have hF6:=hF5.set 2 (.slice (some ⟨g5,0,none⟩) (P.length+1) cap5)
          have hZ6:=(hZ2.grown hgrow5 hrZ).other (b:=w.heap.size+1) (o:=2) (by omega) (.slice (some ⟨g5,0,none⟩) (P.length+1) cap5)
          have hb6:=(hb2.grown hgrow5 (by omega) (fun k e=>by have:=hlo k e;omega)).setCell (p:=⟨w.heap.size+1,2,none⟩) (Nat.le_succ _) (.slice (some ⟨g5,0,none⟩) (P.length+1) cap5)
          have hs6:=hgrow5.size
          replace hS2:=Q4.grown hS2 hgrow5 hrN
          clear hR2 hF2 hZ2 hb2 hF5
          refine hK.out _ _ hS2 (fun hHeld=>?_)
          clear hK K hHeld
          simp only [Act.put,jA,jB,jC]
          refine tkH (i:=6) (v:=.pointer (some ⟨w.heap.size+1,2,none⟩)) rfl (Or.inl ⟨by rfl,fun w hSw=>by obtain ⟨z0,z1,z2,z3⟩:=hSw;go_simp⟩) hS2 ?_
          simp only [Act.put,jA,jB,jC]
          refine wpAnyH_ready (rs:=[7]) (by kernel_rfl) (by simp) ?_
          refine AllReadyH.cons rfl (fun K hK=>?_) AllReadyH.nil
          go_simp
          refine hK.out _ _ (Q4.other (by omega) hS2 _ _) (fun hHeld=>?_)
          clear hK K hHeld m6 mf
          refine wpAnyH_done (by kernel_rfl) ?_ _
          go_wp2
          exact ⟨⟨j+1,.slice av V.length cv,.slice (some ⟨g5,0,none⟩) (P.length+1) cap5,V,P++[(pd,.slice za zn zc)],by omega,by simp,hfin,hF6,hZ6,hb6,by show _=_;rw [HV1.out,HV2.out],by show _=_;rw [HV1.out,HV3.out,List.map_append];rfl⟩,by simp [intOf];omega⟩
        refine AllReadyH.cons rfl (fun K hK=>?_) AllReadyH.nil
        go_simp
        have hsl:∀ j u,([.string pd.name,.bool pd.pub,.slice za zn zc,.int .i64 pd.writes,.bool pd.gives,.int .i64 pd.given]:List Value)[j]?=some u→(w3.alloc (.cells #[.string pd.name,.bool pd.pub,.slice za zn zc,.int .i64 pd.writes,.bool pd.gives,.int .i64 pd.given] 80)).cell? ((⟨w3.heap.size,0,none⟩:Addr).add j)=some u:=news_new _ #[.string pd.name,.bool pd.pub,.slice za zn zc,.int .i64 pd.writes,.bool pd.gives,.int .i64 pd.given] _ _ rfl
        have hss:w3.heap.size+1=(w3.alloc (.cells #[.string pd.name,.bool pd.pub,.slice za zn zc,.int .i64 pd.writes,.bool pd.gives,.int .i64 pd.given] 80)).heap.size:=by simp
        have hs0:wr.heap.size+1≤w3.heap.size:=by omega
        have hbe:=(Below.refl w3.heap.size w3).alloc (jE _) (.cells #[.string pd.name,.bool pd.pub,.slice za zn zc,.int .i64 pd.writes,.bool pd.gives,.int .i64 pd.given] 80)
        replace hb2:=hb2.alloc (Nat.le_trans (by omega) hs0) (.cells #[.string pd.name,.bool pd.pub,.slice za zn zc,.int .i64 pd.writes,.bool pd.gives,.int .i64 pd.given] 80)
        replace hR2:=hR2.alloc (.cells #[.string pd.name,.bool pd.pub,.slice za zn zc,.int .i64 pd.writes,.bool pd.gives,.int .i64 pd.given] 80)
        replace hS2:=Q4.alloc hS2 (.cells #[.string pd.name,.bool pd.pub,.slice za zn zc,.int .i64 pd.writes,.bool pd.gives,.int .i64 pd.given] 80)
        replace hF2:=hF2.alloc (.cells #[.string pd.name,.bool pd.pub,.slice za zn zc,.int .i64 pd.writes,.bool pd.gives,.int .i64 pd.given] 80)
        replace hZ2:=hZ2.alloc (.cells #[.string pd.name,.bool pd.pub,.slice za zn zc,.int .i64 pd.writes,.bool pd.gives,.int .i64 pd.given] 80)
        replace hpar:ParIn (fun b=>pb≤b∧b<w3.heap.size) (w3.alloc (.cells #[.string pd.name,.bool pd.pub,.slice za zn zc,.int .i64 pd.writes,.bool pd.gives,.int .i64 pd.given] 80)) (.slice za zn zc) pd.params:=hpar.to (fun b hb=>⟨hb.1,by omega⟩) (fun b hb o v hc=>(hbe.cell (p:=⟨b,o,none⟩) (by show b<w3.heap.size;omega)).trans hc)
        clear hbe
        refine hK.out _ _ hS2 (fun hHeld=>?_)
        clear hK K hHeld
        generalize w3.alloc (.cells #[.string pd.name,.bool pd.pub,.slice za zn zc,.int .i64 pd.writes,.bool pd.gives,.int .i64 pd.given] 80)=W3 at *
        generalize w3.heap.size=s0 at *
        refine wpAnyH_ready (rs:=[1]) (by kernel_rfl) (by simp) ?_
        refine AllReadyH.cons rfl (fun K hK=>?_) AllReadyH.nil
        have m6:=hF2.cell 2 rfl
        go_simp
        refine hK.out _ _ hS2 (fun hHeld=>?_)
        clear hK K hHeld m6
        refine wpAnyH_ready (rs:=[5]) (by kernel_rfl) (by simp) ?_
        refine AllReadyH.cons rfl (fun K hK=>?_) AllReadyH.nil
        refine step_append_lies _ (by rfl) (.tmp 36) (.tmp 39) 42 (by rfl) (w.heap.size+1+1) 80 i0 (.agg #[.string ⟨#[]⟩,.bool false,.slice none 0 0,.int .i64 0,.bool false,.int .i64 0]) 6 72 Tryz.underlying42 hi hz0 hz1 hz2 rfl (by decide) (.slice ap P.length cp) P.length (procCells P) (by simp [Act.eval,Act.put]) hR2.op ⟨s0,0,none⟩ 1 1 [.string pd.name,.bool pd.pub,.slice za zn zc,.int .i64 pd.writes,.bool pd.gives,.int .i64 pd.given] (by simp [Act.eval,Act.put]) rfl hsl (by intro u hu;simp at hu;rcases hu with rfl | rfl | rfl | rfl | rfl | rfl <;> rfl) (by omega) (by unfold maxLen;omega) (by omega) (by omega) (s0+1) hss.symm ?_
        intro g5 cap5 w5 hown5 hgrow5 hat5 hlt5
        have hlo:∀ b,(Value.slice ap P.length cp).ownBlock=some b→w.heap.size+1+1≤b∧b<wr.heap.size:=fun b e=>⟨(hR2.op.lt _ e).1,holdP b e⟩
        have hrN:(Value.slice ap P.length cp).ownBlock≠some wr.heap.size:=fun e=>by have:=hlo _ e;omega
        have hrF:(Value.slice ap P.length cp).ownBlock≠some (w.heap.size+1):=fun e=>by have:=hlo _ e;omega
        have hrZ:(Value.slice ap P.length cp).ownBlock≠some w.heap.size:=fun e=>by have:=hlo _ e;omega
        have hX:∀ b,W3.heap.size≤b→¬ X b:=fun b hb e=>by have:=hX0 b e;omega
        have hq:ParIn (fun b=>w.heap.size+1+1≤b∧b<W3.heap.size∧(Value.slice av V.length cv).ownBlock≠some b∧(Value.slice ap P.length cp).ownBlock≠some b∧¬ X b) W3 (.slice za zn zc) pd.params :=
          hpar.to (fun b hb=>⟨by omega,by omega,fun e=>by have:=holdV _ e;omega,fun e=>by have:=holdP _ e;omega,fun e=>by have:=hX0 b e;omega⟩) (fun b hb o v hc=>hc)
        have hfin:=(hR2.pushP (q:=(pd,.slice za zn zc)) hown5 hgrow5 (hat5.imp id (fun e=>e.trans hss)) hX hq).set (M:=w.heap.size+1) (o:=2) (by omega) (.slice (some ⟨g5,0,none⟩) (P.length+1) cap5)
        have hF5:=hF2.grown hgrow5 hrF
        have m6:=hF5.cell 2 rfl
        have mf:=hF5.fz 2
        have hF6:=hF5.set 2 (.slice (some ⟨g5,0,none⟩) (P.length+1) cap5)
        have hZ6:=(hZ2.grown hgrow5 hrZ).other (b:=w.heap.size+1) (o:=2) (by omega) (.slice (some ⟨g5,0,none⟩) (P.length+1) cap5)
        have hb6:=(hb2.grown hgrow5 (by omega) (fun k e=>by have:=hlo k e;omega)).setCell (p:=⟨w.heap.size+1,2,none⟩) (Nat.le_succ _) (.slice (some ⟨g5,0,none⟩) (P.length+1) cap5)
        have hs6:=hgrow5.size
        replace hS2:=Q4.grown hS2 hgrow5 hrN
        clear hR2 hF2 hZ2 hb2 hF5
        refine hK.out _ _ hS2 (fun hHeld=>?_)
        clear hK K hHeld
        simp only [Act.put,jA,jB,jC]
        refine tkH (i:=6) (v:=.pointer (some ⟨w.heap.size+1,2,none⟩)) rfl (Or.inl ⟨by rfl,fun w hSw=>by obtain ⟨z0,z1,z2,z3⟩:=hSw;go_simp⟩) hS2 ?_
        simp only [Act.put,jA,jB,jC]
        refine wpAnyH_ready (rs:=[7]) (by kernel_rfl) (by simp) ?_
        refine AllReadyH.cons rfl (fun K hK=>?_) AllReadyH.nil
        go_simp
        refine hK.out _ _ (Q4.other (by omega) hS2 _ _) (fun hHeld=>?_)
        clear hK K hHeld m6 mf
        refine wpAnyH_done (by kernel_rfl) ?_ _
        go_wp2
        exact ⟨⟨j+1,.slice av V.length cv,.slice (some ⟨g5,0,none⟩) (P.length+1) cap5,V,P++[(pd,.slice za zn zc)],by omega,by simp,hfin,hF6,hZ6,hb6,by show _=_;rw [HV1.out,HV2.out],by show _=_;rw [HV1.out,HV3.out,List.map_append];rfl⟩,by simp [intOf];omega⟩
    · obtain rfl:j=K.length:=by omega
      rw [List.take_of_length_le (by omega)] at HV HP
      have z0:=hF.cell 0 rfl
      have z1:=hF.cell 1 rfl
      have z2:=hF.cell 2 rfl
      have y0:=hZ.cell 0 rfl
      have y1:=hZ.cell 1 rfl
      have y2:=hZ.cell 2 rfl
      have f0:=hZ.fz 0
      have f1:=hZ.fz 1
      have f2:=hZ.fz 2
      have hres:=((hZ.set 0 (.string m)).set 1 (.slice av V.length cv)).set 2 (.slice ap P.length cp)
      have hR3:=((hR.set (M:=w.heap.size) (o:=0) (by omega) (.string m)).set (M:=w.heap.size) (o:=1) (by omega) (.slice av V.length cv)).set (M:=w.heap.size) (o:=2) (by omega) (.slice ap P.length cp)
      have hb3:=((hb.setCell (p:=⟨w.heap.size,0,none⟩) (jE _) (.string m)).setCell (p:=⟨w.heap.size,1,none⟩) (jE _) (.slice av V.length cv)).setCell (p:=⟨w.heap.size,2,none⟩) (jE _) (.slice ap P.length cp)
      go_wp2
      refine bodyPost_ret (v:=.agg #[.string m,.slice av V.length cv,.slice ap P.length cp]) (declRes _ _ hres) rfl ?_
      exact ⟨_,_,V,P,rfl,hR3,HV.out,HP.out,hb3⟩
end Go.Proofs.YtfopddgjdaoidaaGreatDoor.chk
