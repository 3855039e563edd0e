/- What the program's module comes to. -/
import Derived.Test.YtfopddgjdaoidaaGreatDoorNR18
set_option linter.unusedVariables false
set_option linter.unusedSimpArgs false
set_option maxRecDepth 100000
namespace Go.Proofs.YtfopddgjdaoidaaGreatDoor
namespace chk
open Go.RowKit Go.Shelf
open syn face
def DE (X:Nat→Prop) (m:ByteArray) (K:List Kid) (w:World) (e:Ending) (w':World):Prop:=∃ (vv pv:Value) (V:List VarD) (P:List (ProcD × Value)),e=.returned (.agg #[.string m,vv,pv])∧FR X (w.heap.size+1+1) w' vv pv V P∧V=varsK true K∧P.map (·.1)=procsK true K∧Below w.heap.size w w'
theorem declRes {W:World} {m:ByteArray} {vv pv a0 a1:Value} (tl:List Value) (B:Nat) (h:BoxC W B #[.string m,vv,pv] 44):(results Tryz.f82 (List.toArray (a0 :: a1 :: .pointer (some ⟨B,0,none⟩) :: tl))).run Tryz.prog W=.ok (.agg #[.string m,vv,pv]) W:=by
 have c3:Tryz.prog.cellsOf 44=3:=cell3
 have z0:=h.cell 0 rfl
 have z1:=h.cell 1 rfl
 have z2:=h.cell 2 rfl
 simp [results,Tryz.f82,go_sem,z0,z1,z2]
set_option maxHeartbeats 8000000 in
theorem oDeclared (X:Nat→Prop) (w0:World) (D:Nat) (m:ByteArray) (K:List Kid) (a:Option Addr) (c:Nat) (w:World) (hbs:Below w0.heap.size w0 w) (hd:D<w.heap.size) (hX0:∀ b,X b→b<w.heap.size) (c1:w.cell? ⟨D,1,none⟩=some (.string m)) (c3':w.cell? ⟨D,3,none⟩=some (.slice a K.length c))
  (hK:K≠[]→∃ g o,a=some ⟨g,o,none⟩∧g<w0.heap.size∧LiesAt (·<w0.heap.size) w0 (K.map Kid.tree) g o) (hKl:K.length≤1000) (hgood:∀ k∈K,k.good) (hps:∀ k∈K,k.kids.length≤1000) :
  Calls Tryz.prog 82 #[.pointer (some ⟨D,0,none⟩)] w (DE X m K w):=by
 have c24:=kc25
 have c4:Tryz.prog.cellsOf 76=4:=cell4
 have c6:Tryz.prog.cellsOf 80=6:=cell6
 have c3:Tryz.prog.cellsOf 44=3:=cell3
 have d1:=cell_new c1 (.cells #[.string ⟨#[]⟩,.slice none 0 0,.slice none 0 0] 44)
 have d3:=cell_new (cell_new c3' (.cells #[.string ⟨#[]⟩,.slice none 0 0,.slice none 0 0] 44)) (.cells #[.string m,.slice none 0 0,.slice none 0 0] 44)
 have hb0:Below w.heap.size w ((w.alloc (.cells #[.string ⟨#[]⟩,.slice none 0 0,.slice none 0 0] 44)).alloc (.cells #[.string m,.slice none 0 0,.slice none 0 0] 44)):=(bal _).alloc (by simp) _
 have hZ0:BoxC ((w.alloc (.cells #[.string ⟨#[]⟩,.slice none 0 0,.slice none 0 0] 44)).alloc (.cells #[.string m,.slice none 0 0,.slice none 0 0] 44)) w.heap.size #[.string ⟨#[]⟩,.slice none 0 0,.slice none 0 0] 44:=(BoxC.new w _ _).alloc _
 have hF0:BoxC ((w.alloc (.cells #[.string ⟨#[]⟩,.slice none 0 0,.slice none 0 0] 44)).alloc (.cells #[.string m,.slice none 0 0,.slice none 0 0] 44)) (w.heap.size+1) #[.string m,.slice none 0 0,.slice none 0 0] 44:=by
  have:=BoxC.new (w.alloc (.cells #[.string ⟨#[]⟩,.slice none 0 0,.slice none 0 0] 44)) #[.string m,.slice none 0 0,.slice none 0 0] 44
  rw [World.size_alloc] at this
  exact this
 go_enter Tryz.func82,Tryz.ntmps82
 go_wp2
 clear d1 d3
 generalize ((w.alloc (.cells #[.string ⟨#[]⟩,.slice none 0 0,.slice none 0 0] 44)).alloc (.cells #[.string m,.slice none 0 0,.slice none 0 0] 44))=W1 at *
 go_loopw [18] (fun t wr=>∃ (j:Nat) (vv pv:Value) (V:List VarD) (P:List (ProcD × Value)),j≤K.length∧t=.int .i64 j∧FR X (w.heap.size+1+1) wr vv pv V P∧BoxC wr (w.heap.size+1) #[.string m,vv,pv] 44∧BoxC wr w.heap.size #[.string ⟨#[]⟩,.slice none 0 0,.slice none 0 0] 44∧Below w.heap.size w wr∧Hid (V=varsK true (K.take j))∧Hid (P.map (·.1)=procsK true (K.take j))) (fun t _=>K.length - (intOf t).toNat)
 case atStart=>exact ⟨0,_,_,[],[],Nat.zero_le _,rfl,FR.nil _ _ _,hF0,hZ0,hb0,rfl,rfl⟩
 case round =>
  clear hF0 hZ0 hb0
  obtain ⟨j,vv,pv,V,P,hj,rfl,hR,hF,hZ,hb,HV,HP⟩:=hrel
  obtain ⟨av,cv,rfl⟩:=hR.shapeV
  obtain ⟨ap,cp,rfl⟩:=hR.shapeP
  have holdV:∀ b,(Value.slice av V.length cv).ownBlock=some b→b<wr.heap.size:=fun b e=>(hR.ov.lt _ e).2
  have holdP:∀ b,(Value.slice ap P.length cp).ownBlock=some b→b<wr.heap.size:=fun b e=>(hR.op.lt _ e).2
  have hsz:=hF.lt
  have hVl:V.length≤1000:=by rw [HV.out];exact Nat.le_trans (varsK_len true _) (by rw [List.length_take];omega)
  have hPl:P.length≤1000:=by
   have h1:(P.map (·.1)).length=(procsK true (K.take j)).length:=by rw [HP.out]
   rw [List.length_map] at h1
   rw [h1]
   exact Nat.le_trans (procsK_len true _) (by rw [List.length_take];omega)
  by_cases hlt:j<K.length
  ·obtain ⟨g,o,rfl,hg,hat⟩:=hK (by intro e;rw [e] at hlt;simp at hlt)
   have hbw:=hbs.trans (hb.mono hbs.size)
   obtain ⟨ka0,kc0,k0,k1,k2,k3,hly⟩:=kid_cells hg hat hbw hlt
   obtain ⟨ka,kc,j0,j1,j2,j3,hl0⟩:=kid_cells hg hat (Below.refl _ _) hlt
   have hj3:=(hbw.cell (p:=⟨g,o+j*4+3,none⟩) hg).trans j3
   rw [hj3] at k3
   injection k3 with k3
   injection k3 with e1 _ e2
   subst e1 e2
   have k3:=hj3
   clear j0 j1 j2 j3 hj3
   have hgk:=hgood _ (List.getElem_mem hlt)
   have hpk:=hps _ (List.getElem_mem hlt)
   have HV1:Hid (K.take (j+1)=K.take j++[K[j]]):=take_succ_kid K j hlt
   clear hat hK
   generalize hkj:K[j]=kid at *
   clear hkj
   cases kid with
   | imp x =>
    have HV2:Hid (varsK true (K.take j++[.imp x])=V):=by show _=_;rw [varsK_append,HV.out];simp [varsK]
    have HV3:Hid (procsK true (K.take j++[.imp x])=P.map (·.1)):=by show _=_;rw [procsK_append,HP.out];simp [procsK]
    clear hly hgk
    simp only [Kid.kind,Kid.text,Kid.num] at k0 k1 k2
    generalize (Kid.imp x).kids.length=kl at *
    go_wp2
    exact ⟨⟨j+1,_,_,V,P,by omega,by simp,hR.alloc _,hF.alloc _,hZ.alloc _,hb.alloc (by omega) _,by show _=_;rw [HV1.out,HV2.out],by show _=_;rw [HV1.out,HV3.out]⟩,by simp [intOf];omega⟩
   | var x p l n =>
    have HV2:Hid (varsK true (K.take j++[.var x p l n])=V++[varD x p l n]):=by show _=_;rw [varsK_append,HV.out];simp [varsK]
    have HV3:Hid (procsK true (K.take j++[.var x p l n])=P.map (·.1)):=by show _=_;rw [procsK_append,HP.out];simp [procsK]
    have hC:=fun W (hW:Below w.heap.size w W)=>oVarOf x p l n _ W (hl0.to (fun b hb=>Nat.lt_of_lt_of_le hb (Nat.le_trans hbs.size hW.size)) (fun b hb o=>(hbs.trans (hW.mono hbs.size)).cell (p:=⟨b,o,none⟩) hb))
    simp only [Kid.kind,Kid.text,Kid.num] at k0 k1 k2 hC
    clear hly hgk
    generalize varD x p l n=vd at *
    generalize (Kid.var x p l n).kids.length=kl at *
    generalize 2*bI p+bI l=km at *
    obtain ⟨i0,hi,hz0,hz1,hz2⟩:=info_parts infoV
    have hS2:Q4 wr.heap.size (.int .i64 3) (.string x) (.int .i64 km) (.slice ka kl kc) (wr.alloc (.cells #[.int .i64 3,.string x,.int .i64 km,.slice ka kl kc] 25)).drew:=⟨by simp,by simp,by simp,by simp⟩
    go_wp2
    refine wp_region_held_drew (S:=fun W=>Q4 wr.heap.size (.int .i64 3) (.string x) (.int .i64 km) (.slice ka kl kc) W) (by kernel_rfl) hS2 (fun hHeld=>?_)
    clear hHeld k0 k1 k2 k3
    have hR2:=(hR.alloc (.cells #[.int .i64 3,.string x,.int .i64 km,.slice ka kl kc] 25)).drew
    have hF2:BoxC (wr.alloc (.cells #[.int .i64 3,.string x,.int .i64 km,.slice ka kl kc] 25)).drew (w.heap.size+1) #[.string m,.slice av V.length cv,.slice ap P.length cp] 44:=hF.alloc _
    have hZ2:BoxC (wr.alloc (.cells #[.int .i64 3,.string x,.int .i64 km,.slice ka kl kc] 25)).drew w.heap.size #[.string ⟨#[]⟩,.slice none 0 0,.slice none 0 0] 44:=hZ.alloc _
    have hb2:=(hb.alloc (by omega) (.cells #[.int .i64 3,.string x,.int .i64 km,.slice ka kl kc] 25)).drew
    have hs2:wr.heap.size+1≤(wr.alloc (.cells #[.int .i64 3,.string x,.int .i64 km,.slice ka kl kc] 25)).drew.heap.size:=by show _≤(wr.alloc (.cells #[.int .i64 3,.string x,.int .i64 km,.slice ka kl kc] 25)).heap.size;simp
    clear hR hF hZ hb
    generalize (wr.alloc (.cells #[.int .i64 3,.string x,.int .i64 km,.slice ka kl kc] 25)).drew=W2 at *
    refine tkP 0 (.pointer (some ⟨w.heap.size+1,1,none⟩)) hS2 ?_
    simp only [Act.put,jA,jB,jC]
    refine tkP 2 (.agg #[.int .i64 3,.string x,.int .i64 km,.slice ka kl kc]) hS2 ?_
    simp only [Act.put,jA,jB,jC]
    refine wpAnyH_ready (rs:=[1,3]) (by kernel_rfl) (by simp) ?_
    refine AllReadyH.cons rfl (fun K hK=>?_) ?_
    ·skip
     have m6:=hF2.cell 1 rfl
     go_simp
     refine hK.out _ _ hS2 (fun hHeld=>?_)
     clear hK K hHeld m6
     refine oneH 3 fun K hK=>?_
     go_simp
     go_at_call 129
     refine (hC W2 hb2).mono ?_
     rintro e w3 ⟨rfl,hb3⟩
     unfold varV
     have hw3:=hb3.size
     replace hR2:=hR2.below hb3
     replace hS2:=Q4.below hS2 hb3
     replace hF2:=hF2.below hb3
     replace hZ2:=hZ2.below hb3
     have hb2':=hb2.trans (hb3.mono hb2.size)
     go_wp2
     refine hK.out _ _ hS2 (fun hHeld=>?_)
     clear hK K hHeld hC
     replace hb2:=hb2'
     clear hb2'
     refine oneH 4 fun K hK=>?_
     go_simp
     have hsl:∀ j u,([.string vd.name,.bool vd.pub,.int .i64 vd.label,.int .i64 vd.size]:List Value)[j]?=some u→(w3.alloc (.cells #[.string vd.name,.bool vd.pub,.int .i64 vd.label,.int .i64 vd.size] 76)).cell? ((⟨w3.heap.size,0,none⟩:Addr).add j)=some u:=news_new _ #[.string vd.name,.bool vd.pub,.int .i64 vd.label,.int .i64 vd.size] _ _ rfl
     have hss:w3.heap.size+1=(w3.alloc (.cells #[.string vd.name,.bool vd.pub,.int .i64 vd.label,.int .i64 vd.size] 76)).heap.size:=by simp
     have hs0:wr.heap.size+1≤w3.heap.size:=by omega
     have hbe:=(Below.refl w3.heap.size w3).alloc (jE _) (.cells #[.string vd.name,.bool vd.pub,.int .i64 vd.label,.int .i64 vd.size] 76)
     replace hb2:=hb2.alloc (Nat.le_trans (by omega) hs0) (.cells #[.string vd.name,.bool vd.pub,.int .i64 vd.label,.int .i64 vd.size] 76)
     replace hR2:=hR2.alloc (.cells #[.string vd.name,.bool vd.pub,.int .i64 vd.label,.int .i64 vd.size] 76)
     replace hS2:=Q4.alloc hS2 (.cells #[.string vd.name,.bool vd.pub,.int .i64 vd.label,.int .i64 vd.size] 76)
     replace hF2:=hF2.alloc (.cells #[.string vd.name,.bool vd.pub,.int .i64 vd.label,.int .i64 vd.size] 76)
     replace hZ2:=hZ2.alloc (.cells #[.string vd.name,.bool vd.pub,.int .i64 vd.label,.int .i64 vd.size] 76)
     clear hbe
     refine hK.out _ _ hS2 (fun hHeld=>?_)
     clear hK K hHeld
     generalize w3.alloc (.cells #[.string vd.name,.bool vd.pub,.int .i64 vd.label,.int .i64 vd.size] 76)=W3 at *
     generalize w3.heap.size=s0 at *
     refine oneH 5 fun K hK=>?_
     refine step_append_lies _ (by rfl) (.tmp 27) (.tmp 30) 41 (by rfl) (w.heap.size+1+1) 76 i0 (.agg #[.string ⟨#[]⟩,.bool false,.int .i64 0,.int .i64 0]) 4 40 Tryz.underlying41 hi hz0 hz1 hz2 rfl (by decide) (.slice av V.length cv) V.length (varCells V) (by simp [Act.eval,Act.put]) hR2.ov ⟨s0,0,none⟩ 1 1 [.string vd.name,.bool vd.pub,.int .i64 vd.label,.int .i64 vd.size] (by simp [Act.eval,Act.put]) rfl hsl (by intro u hu;simp at hu;rcases hu with rfl | rfl | rfl | rfl<;>rfl) (by omega) (by unfold maxLen;omega) (by omega) (by omega) (s0+1) hss.symm ?_
     intro g5 cap5 w5 hown5 hgrow5 hat5 hlt5
     have hlo:∀ b,(Value.slice av V.length cv).ownBlock=some b→w.heap.size+1+1≤b∧b<wr.heap.size:=fun b e=>⟨(hR2.ov.lt _ e).1,holdV b e⟩
     have hrN:(Value.slice av V.length cv).ownBlock≠some wr.heap.size:=fun e=>by have:=hlo _ e;omega
     have hrF:(Value.slice av V.length cv).ownBlock≠some (w.heap.size+1):=fun e=>by have:=hlo _ e;omega
     have hrZ:(Value.slice av V.length cv).ownBlock≠some w.heap.size:=fun e=>by have:=hlo _ e;omega
     have hX:∀ b,W3.heap.size≤b→¬ X b:=fun b hb e=>by have:=hX0 b e;omega
     have hfin:=(hR2.pushV (v:=vd) hown5 hgrow5 (hat5.imp id (fun e=>e.trans hss)) hX).set (M:=w.heap.size+1) (o:=1) (by omega) (.slice (some ⟨g5,0,none⟩) (V.length+1) cap5)
     have hF5:=hF2.grown hgrow5 hrF
     have m6:=hF5.cell 1 rfl
     have mf:=hF5.fz 1
     have hF6:=hF5.set 1 (.slice (some ⟨g5,0,none⟩) (V.length+1) cap5)
     have hZ6:=(hZ2.grown hgrow5 hrZ).other (b:=w.heap.size+1) (o:=1) (by omega) (.slice (some ⟨g5,0,none⟩) (V.length+1) cap5)
     have hb6:=(hb2.grown hgrow5 (by omega) (fun k e=>by have:=hlo k e;omega)).setCell (p:=⟨w.heap.size+1,1,none⟩) (Nat.le_succ _) (.slice (some ⟨g5,0,none⟩) (V.length+1) cap5)
     have hs6:=hgrow5.size
     replace hS2:=Q4.grown hS2 hgrow5 hrN
     clear hR2 hF2 hZ2 hb2 hF5
     refine hK.out _ _ hS2 (fun hHeld=>?_)
     clear hK K hHeld
     simp only [Act.put,jA,jB,jC]
     refine tkP 6 (.pointer (some ⟨w.heap.size+1,1,none⟩)) hS2 ?_
     simp only [Act.put,jA,jB,jC]
     refine oneH 7 fun K hK=>?_
     go_simp
     refine hK.out _ _ (Q4.other (by omega) hS2 _ _) (fun hHeld=>?_)
     clear hK K hHeld m6 mf
     refine wpAnyH_done (by kernel_rfl) ?_ _
     go_wp2
     exact ⟨⟨j+1,.slice (some ⟨g5,0,none⟩) (V.length+1) cap5,.slice ap P.length cp,V++[vd],P,by omega,by simp,hfin,hF6,hZ6,hb6,by show _=_;rw [HV1.out,HV2.out],by show _=_;rw [HV1.out,HV3.out]⟩,by simp [intOf];omega⟩
    refine AllReadyH.cons rfl (fun K hK=>?_) AllReadyH.nil
    go_simp
    go_at_call 129
    refine (hC W2 hb2).mono ?_
    rintro e w3 ⟨rfl,hb3⟩
    unfold varV
    have hw3:=hb3.size
    replace hR2:=hR2.below hb3
    replace hS2:=Q4.below hS2 hb3
    replace hF2:=hF2.below hb3
    replace hZ2:=hZ2.below hb3
    have hb2':=hb2.trans (hb3.mono hb2.size)
    go_wp2
    refine hK.out _ _ hS2 (fun hHeld=>?_)
    clear hK K hHeld hC
    replace hb2:=hb2'
    clear hb2'
    refine wpAnyH_ready (rs:=[1,4]) (by kernel_rfl) (by simp) ?_
    refine AllReadyH.cons rfl (fun K hK=>?_) ?_
    ·skip
     have m6:=hF2.cell 1 rfl
     go_simp
     refine hK.out _ _ hS2 (fun hHeld=>?_)
     clear hK K hHeld m6
     refine oneH 4 fun K hK=>?_
     go_simp
     have hsl:∀ j u,([.string vd.name,.bool vd.pub,.int .i64 vd.label,.int .i64 vd.size]:List Value)[j]?=some u→(w3.alloc (.cells #[.string vd.name,.bool vd.pub,.int .i64 vd.label,.int .i64 vd.size] 76)).cell? ((⟨w3.heap.size,0,none⟩:Addr).add j)=some u:=news_new _ #[.string vd.name,.bool vd.pub,.int .i64 vd.label,.int .i64 vd.size] _ _ rfl
     have hss:w3.heap.size+1=(w3.alloc (.cells #[.string vd.name,.bool vd.pub,.int .i64 vd.label,.int .i64 vd.size] 76)).heap.size:=by simp
     have hs0:wr.heap.size+1≤w3.heap.size:=by omega
     have hbe:=(Below.refl w3.heap.size w3).alloc (jE _) (.cells #[.string vd.name,.bool vd.pub,.int .i64 vd.label,.int .i64 vd.size] 76)
     replace hb2:=hb2.alloc (Nat.le_trans (by omega) hs0) (.cells #[.string vd.name,.bool vd.pub,.int .i64 vd.label,.int .i64 vd.size] 76)
     replace hR2:=hR2.alloc (.cells #[.string vd.name,.bool vd.pub,.int .i64 vd.label,.int .i64 vd.size] 76)
     replace hS2:=Q4.alloc hS2 (.cells #[.string vd.name,.bool vd.pub,.int .i64 vd.label,.int .i64 vd.size] 76)
     replace hF2:=hF2.alloc (.cells #[.string vd.name,.bool vd.pub,.int .i64 vd.label,.int .i64 vd.size] 76)
     replace hZ2:=hZ2.alloc (.cells #[.string vd.name,.bool vd.pub,.int .i64 vd.label,.int .i64 vd.size] 76)
     clear hbe
     refine hK.out _ _ hS2 (fun hHeld=>?_)
     clear hK K hHeld
     generalize w3.alloc (.cells #[.string vd.name,.bool vd.pub,.int .i64 vd.label,.int .i64 vd.size] 76)=W3 at *
     generalize w3.heap.size=s0 at *
     refine oneH 5 fun K hK=>?_
     refine step_append_lies _ (by rfl) (.tmp 27) (.tmp 30) 41 (by rfl) (w.heap.size+1+1) 76 i0 (.agg #[.string ⟨#[]⟩,.bool false,.int .i64 0,.int .i64 0]) 4 40 Tryz.underlying41 hi hz0 hz1 hz2 rfl (by decide) (.slice av V.length cv) V.length (varCells V) (by simp [Act.eval,Act.put]) hR2.ov ⟨s0,0,none⟩ 1 1 [.string vd.name,.bool vd.pub,.int .i64 vd.label,.int .i64 vd.size] (by simp [Act.eval,Act.put]) rfl hsl (by intro u hu;simp at hu;rcases hu with rfl | rfl | rfl | rfl<;>rfl) (by omega) (by unfold maxLen;omega) (by omega) (by omega) (s0+1) hss.symm ?_
     intro g5 cap5 w5 hown5 hgrow5 hat5 hlt5
     have hlo:∀ b,(Value.slice av V.length cv).ownBlock=some b→w.heap.size+1+1≤b∧b<wr.heap.size:=fun b e=>⟨(hR2.ov.lt _ e).1,holdV b e⟩
     have hrN:(Value.slice av V.length cv).ownBlock≠some wr.heap.size:=fun e=>by have:=hlo _ e;omega
     have hrF:(Value.slice av V.length cv).ownBlock≠some (w.heap.size+1):=fun e=>by have:=hlo _ e;omega
     have hrZ:(Value.slice av V.length cv).ownBlock≠some w.heap.size:=fun e=>by have:=hlo _ e;omega
     have hX:∀ b,W3.heap.size≤b→¬ X b:=fun b hb e=>by have:=hX0 b e;omega
     have hfin:=(hR2.pushV (v:=vd) hown5 hgrow5 (hat5.imp id (fun e=>e.trans hss)) hX).set (M:=w.heap.size+1) (o:=1) (by omega) (.slice (some ⟨g5,0,none⟩) (V.length+1) cap5)
     have hF5:=hF2.grown hgrow5 hrF
     have m6:=hF5.cell 1 rfl
     have mf:=hF5.fz 1
     have hF6:=hF5.set 1 (.slice (some ⟨g5,0,none⟩) (V.length+1) cap5)
     have hZ6:=(hZ2.grown hgrow5 hrZ).other (b:=w.heap.size+1) (o:=1) (by omega) (.slice (some ⟨g5,0,none⟩) (V.length+1) cap5)
     have hb6:=(hb2.grown hgrow5 (by omega) (fun k e=>by have:=hlo k e;omega)).setCell (p:=⟨w.heap.size+1,1,none⟩) (Nat.le_succ _) (.slice (some ⟨g5,0,none⟩) (V.length+1) cap5)
     have hs6:=hgrow5.size
     replace hS2:=Q4.grown hS2 hgrow5 hrN
     clear hR2 hF2 hZ2 hb2 hF5
     refine hK.out _ _ hS2 (fun hHeld=>?_)
     clear hK K hHeld
     simp only [Act.put,jA,jB,jC]
     refine tkP 6 (.pointer (some ⟨w.heap.size+1,1,none⟩)) hS2 ?_
     simp only [Act.put,jA,jB,jC]
     refine oneH 7 fun K hK=>?_
     go_simp
     refine hK.out _ _ (Q4.other (by omega) hS2 _ _) (fun hHeld=>?_)
     clear hK K hHeld m6 mf
     refine wpAnyH_done (by kernel_rfl) ?_ _
     go_wp2
     exact ⟨⟨j+1,.slice (some ⟨g5,0,none⟩) (V.length+1) cap5,.slice ap P.length cp,V++[vd],P,by omega,by simp,hfin,hF6,hZ6,hb6,by show _=_;rw [HV1.out,HV2.out],by show _=_;rw [HV1.out,HV3.out]⟩,by simp [intOf];omega⟩
    refine AllReadyH.cons rfl (fun K hK=>?_) AllReadyH.nil
    go_simp
    have hsl:∀ j u,([.string vd.name,.bool vd.pub,.int .i64 vd.label,.int .i64 vd.size]:List Value)[j]?=some u→(w3.alloc (.cells #[.string vd.name,.bool vd.pub,.int .i64 vd.label,.int .i64 vd.size] 76)).cell? ((⟨w3.heap.size,0,none⟩:Addr).add j)=some u:=news_new _ #[.string vd.name,.bool vd.pub,.int .i64 vd.label,.int .i64 vd.size] _ _ rfl
    have hss:w3.heap.size+1=(w3.alloc (.cells #[.string vd.name,.bool vd.pub,.int .i64 vd.label,.int .i64 vd.size] 76)).heap.size:=by simp
    have hs0:wr.heap.size+1≤w3.heap.size:=by omega
    have hbe:=(Below.refl w3.heap.size w3).alloc (jE _) (.cells #[.string vd.name,.bool vd.pub,.int .i64 vd.label,.int .i64 vd.size] 76)
    replace hb2:=hb2.alloc (Nat.le_trans (by omega) hs0) (.cells #[.string vd.name,.bool vd.pub,.int .i64 vd.label,.int .i64 vd.size] 76)
    replace hR2:=hR2.alloc (.cells #[.string vd.name,.bool vd.pub,.int .i64 vd.label,.int .i64 vd.size] 76)
    replace hS2:=Q4.alloc hS2 (.cells #[.string vd.name,.bool vd.pub,.int .i64 vd.label,.int .i64 vd.size] 76)
    replace hF2:=hF2.alloc (.cells #[.string vd.name,.bool vd.pub,.int .i64 vd.label,.int .i64 vd.size] 76)
    replace hZ2:=hZ2.alloc (.cells #[.string vd.name,.bool vd.pub,.int .i64 vd.label,.int .i64 vd.size] 76)
    clear hbe
    refine hK.out _ _ hS2 (fun hHeld=>?_)
    clear hK K hHeld
    generalize w3.alloc (.cells #[.string vd.name,.bool vd.pub,.int .i64 vd.label,.int .i64 vd.size] 76)=W3 at *
    generalize w3.heap.size=s0 at *
    refine oneH 1 fun K hK=>?_
    have m6:=hF2.cell 1 rfl
    go_simp
    refine hK.out _ _ hS2 (fun hHeld=>?_)
    clear hK K hHeld m6
    refine oneH 5 fun K hK=>?_
    refine step_append_lies _ (by rfl) (.tmp 27) (.tmp 30) 41 (by rfl) (w.heap.size+1+1) 76 i0 (.agg #[.string ⟨#[]⟩,.bool false,.int .i64 0,.int .i64 0]) 4 40 Tryz.underlying41 hi hz0 hz1 hz2 rfl (by decide) (.slice av V.length cv) V.length (varCells V) (by simp [Act.eval,Act.put]) hR2.ov ⟨s0,0,none⟩ 1 1 [.string vd.name,.bool vd.pub,.int .i64 vd.label,.int .i64 vd.size] (by simp [Act.eval,Act.put]) rfl hsl (by intro u hu;simp at hu;rcases hu with rfl | rfl | rfl | rfl<;>rfl) (by omega) (by unfold maxLen;omega) (by omega) (by omega) (s0+1) hss.symm ?_
    intro g5 cap5 w5 hown5 hgrow5 hat5 hlt5
    have hlo:∀ b,(Value.slice av V.length cv).ownBlock=some b→w.heap.size+1+1≤b∧b<wr.heap.size:=fun b e=>⟨(hR2.ov.lt _ e).1,holdV b e⟩
    have hrN:(Value.slice av V.length cv).ownBlock≠some wr.heap.size:=fun e=>by have:=hlo _ e;omega
    have hrF:(Value.slice av V.length cv).ownBlock≠some (w.heap.size+1):=fun e=>by have:=hlo _ e;omega
    have hrZ:(Value.slice av V.length cv).ownBlock≠some w.heap.size:=fun e=>by have:=hlo _ e;omega
    have hX:∀ b,W3.heap.size≤b→¬ X b:=fun b hb e=>by have:=hX0 b e;omega
    have hfin:=(hR2.pushV (v:=vd) hown5 hgrow5 (hat5.imp id (fun e=>e.trans hss)) hX).set (M:=w.heap.size+1) (o:=1) (by omega) (.slice (some ⟨g5,0,none⟩) (V.length+1) cap5)
    have hF5:=hF2.grown hgrow5 hrF
    have m6:=hF5.cell 1 rfl
    have mf:=hF5.fz 1
    have hF6:=hF5.set 1 (.slice (some ⟨g5,0,none⟩) (V.length+1) cap5)
    have hZ6:=(hZ2.grown hgrow5 hrZ).other (b:=w.heap.size+1) (o:=1) (by omega) (.slice (some ⟨g5,0,none⟩) (V.length+1) cap5)
    have hb6:=(hb2.grown hgrow5 (by omega) (fun k e=>by have:=hlo k e;omega)).setCell (p:=⟨w.heap.size+1,1,none⟩) (Nat.le_succ _) (.slice (some ⟨g5,0,none⟩) (V.length+1) cap5)
    have hs6:=hgrow5.size
    replace hS2:=Q4.grown hS2 hgrow5 hrN
    clear hR2 hF2 hZ2 hb2 hF5
    refine hK.out _ _ hS2 (fun hHeld=>?_)
    clear hK K hHeld
    simp only [Act.put,jA,jB,jC]
    refine tkP 6 (.pointer (some ⟨w.heap.size+1,1,none⟩)) hS2 ?_
    simp only [Act.put,jA,jB,jC]
    refine oneH 7 fun K hK=>?_
    go_simp
    refine hK.out _ _ (Q4.other (by omega) hS2 _ _) (fun hHeld=>?_)
    clear hK K hHeld m6 mf
    refine wpAnyH_done (by kernel_rfl) ?_ _
    go_wp2
    exact ⟨⟨j+1,.slice (some ⟨g5,0,none⟩) (V.length+1) cap5,.slice ap P.length cp,V++[vd],P,by omega,by simp,hfin,hF6,hZ6,hb6,by show _=_;rw [HV1.out,HV2.out],by show _=_;rw [HV1.out,HV3.out]⟩,by simp [intOf];omega⟩
   | proc x p l gv ps b =>
    have HV2:Hid (varsK true (K.take j++[.proc x p l gv ps b])=V):=by show _=_;rw [varsK_append,HV.out];simp [varsK]
    have HV3:Hid (procsK true (K.take j++[.proc x p l gv ps b])=P.map (·.1)++[procD x p l gv ps]):=by show _=_;rw [procsK_append,HP.out];simp [procsK]
    have HPL:Hid ((procD x p l gv ps).params.length=ps.length):=by show _=_;simp [procD]
    have hpl:ps.length≤1000:=by simp [Kid.kids] at hpk;omega
    have hC:∀ W (hW:Below w.heap.size w W),Calls Tryz.prog 130 #[_] W fun e w'=>∃ u,e=.returned (procV (procD x p l gv ps) u)∧w'.ownsRow W.heap.size 3 1 u ps.length (intV (procD x p l gv ps).params)∧Below W.heap.size W w':=fun W hW=>oProcOf x p l gv ps b _ W (hl0.to (fun b hb=>Nat.lt_of_lt_of_le hb (Nat.le_trans hbs.size hW.size)) (fun b hb o=>(hbs.trans (hW.mono hbs.size)).cell (p:=⟨b,o,none⟩) hb)) hpl hgk.2.2
    simp only [Kid.kind,Kid.text,Kid.num] at k0 k1 k2 hC
    clear hly hgk hpk
    generalize procD x p l gv ps=pd at *
    generalize (Kid.proc x p l gv ps b).kids.length=kl at *
    generalize 2*bI p+bI l+gI gv=km at *
    obtain ⟨i0,hi,hz0,hz1,hz2⟩:=info_parts infoP
    have hS2:Q4 wr.heap.size (.int .i64 4) (.string x) (.int .i64 km) (.slice ka kl kc) (wr.alloc (.cells #[.int .i64 4,.string x,.int .i64 km,.slice ka kl kc] 25)).drew:=⟨by simp,by simp,by simp,by simp⟩
    go_wp2
    refine wp_region_held_drew (S:=fun W=>Q4 wr.heap.size (.int .i64 4) (.string x) (.int .i64 km) (.slice ka kl kc) W) (by kernel_rfl) hS2 (fun hHeld=>?_)
    clear hHeld k0 k1 k2 k3
    have hR2:=(hR.alloc (.cells #[.int .i64 4,.string x,.int .i64 km,.slice ka kl kc] 25)).drew
    have hF2:BoxC (wr.alloc (.cells #[.int .i64 4,.string x,.int .i64 km,.slice ka kl kc] 25)).drew (w.heap.size+1) #[.string m,.slice av V.length cv,.slice ap P.length cp] 44:=hF.alloc _
    have hZ2:BoxC (wr.alloc (.cells #[.int .i64 4,.string x,.int .i64 km,.slice ka kl kc] 25)).drew w.heap.size #[.string ⟨#[]⟩,.slice none 0 0,.slice none 0 0] 44:=hZ.alloc _
    have hb2:=(hb.alloc (by omega) (.cells #[.int .i64 4,.string x,.int .i64 km,.slice ka kl kc] 25)).drew
    have hs2:wr.heap.size+1≤(wr.alloc (.cells #[.int .i64 4,.string x,.int .i64 km,.slice ka kl kc] 25)).drew.heap.size:=by show _≤(wr.alloc (.cells #[.int .i64 4,.string x,.int .i64 km,.slice ka kl kc] 25)).heap.size;simp
    clear hR hF hZ hb
    generalize (wr.alloc (.cells #[.int .i64 4,.string x,.int .i64 km,.slice ka kl kc] 25)).drew=W2 at *
    refine tkP 0 (.pointer (some ⟨w.heap.size+1,2,none⟩)) hS2 ?_
    simp only [Act.put,jA,jB,jC]
    refine tkP 2 (.agg #[.int .i64 4,.string x,.int .i64 km,.slice ka kl kc]) hS2 ?_
    simp only [Act.put,jA,jB,jC]
    refine wpAnyH_ready (rs:=[1,3]) (by kernel_rfl) (by simp) ?_
    refine AllReadyH.cons rfl (fun K hK=>?_) ?_
    ·skip
     have m6:=hF2.cell 2 rfl
     go_simp
     refine hK.out _ _ hS2 (fun hHeld=>?_)
     clear hK K hHeld m6
     refine oneH 3 fun K hK=>?_
     go_simp
     go_at_call 130
     refine (hC W2 hb2).mono ?_
     rintro e w3 ⟨zu,rfl,hzu,hb3⟩
     obtain ⟨za,zc,rfl,_,_⟩:=lexs.own_shape hzu
     have hpar:ParIn (fun b=>W2.heap.size≤b∧b<w3.heap.size) w3 (.slice za pd.params.length zc) pd.params:=ParIn.own (by rw [HPL.out];exact hzu)
     rw [HPL.out] at hpar
     generalize hzn:ps.length=zn at hzu hpar ⊢
     unfold procV
     have hw3:=hb3.size
     replace hR2:=hR2.below hb3
     replace hS2:=Q4.below hS2 hb3
     replace hF2:=hF2.below hb3
     replace hZ2:=hZ2.below hb3
     have hb2':=hb2.trans (hb3.mono hb2.size)
     have hold:W2.heap.size≤W2.heap.size:=jE _
     generalize hpb:W2.heap.size=pb at hpar
     go_wp2
     refine hK.out _ _ hS2 (fun hHeld=>?_)
     clear hK K hHeld hC
     replace hb2:=hb2'
     clear hb2'
     refine oneH 4 fun K hK=>?_
     go_simp
     have hsl:∀ j u,([.string pd.name,.bool pd.pub,.slice za zn zc,.int .i64 pd.writes,.bool pd.gives,.int .i64 pd.given]:List Value)[j]?=some u→(w3.alloc (.cells #[.string pd.name,.bool pd.pub,.slice za zn zc,.int .i64 pd.writes,.bool pd.gives,.int .i64 pd.given] 80)).cell? ((⟨w3.heap.size,0,none⟩:Addr).add j)=some u:=news_new _ #[.string pd.name,.bool pd.pub,.slice za zn zc,.int .i64 pd.writes,.bool pd.gives,.int .i64 pd.given] _ _ rfl
     have hss:w3.heap.size+1=(w3.alloc (.cells #[.string pd.name,.bool pd.pub,.slice za zn zc,.int .i64 pd.writes,.bool pd.gives,.int .i64 pd.given] 80)).heap.size:=by simp
     have hs0:wr.heap.size+1≤w3.heap.size:=by omega
     have hbe:=(Below.refl w3.heap.size w3).alloc (jE _) (.cells #[.string pd.name,.bool pd.pub,.slice za zn zc,.int .i64 pd.writes,.bool pd.gives,.int .i64 pd.given] 80)
     replace hb2:=hb2.alloc (Nat.le_trans (by omega) hs0) (.cells #[.string pd.name,.bool pd.pub,.slice za zn zc,.int .i64 pd.writes,.bool pd.gives,.int .i64 pd.given] 80)
     replace hR2:=hR2.alloc (.cells #[.string pd.name,.bool pd.pub,.slice za zn zc,.int .i64 pd.writes,.bool pd.gives,.int .i64 pd.given] 80)
     replace hS2:=Q4.alloc hS2 (.cells #[.string pd.name,.bool pd.pub,.slice za zn zc,.int .i64 pd.writes,.bool pd.gives,.int .i64 pd.given] 80)
     replace hF2:=hF2.alloc (.cells #[.string pd.name,.bool pd.pub,.slice za zn zc,.int .i64 pd.writes,.bool pd.gives,.int .i64 pd.given] 80)
     replace hZ2:=hZ2.alloc (.cells #[.string pd.name,.bool pd.pub,.slice za zn zc,.int .i64 pd.writes,.bool pd.gives,.int .i64 pd.given] 80)
     replace hpar:ParIn (fun b=>pb≤b∧b<w3.heap.size) (w3.alloc (.cells #[.string pd.name,.bool pd.pub,.slice za zn zc,.int .i64 pd.writes,.bool pd.gives,.int .i64 pd.given] 80)) (.slice za zn zc) pd.params:=hpar.to (fun b hb=>⟨hb.1,by omega⟩) (fun b hb o v hc=>(hbe.cell (p:=⟨b,o,none⟩) (by show b<w3.heap.size;omega)).trans hc)
     clear hbe
     refine hK.out _ _ hS2 (fun hHeld=>?_)
     clear hK K hHeld
     generalize w3.alloc (.cells #[.string pd.name,.bool pd.pub,.slice za zn zc,.int .i64 pd.writes,.bool pd.gives,.int .i64 pd.given] 80)=W3 at *
     generalize w3.heap.size=s0 at *
     refine oneH 5 fun K hK=>?_
     refine step_append_lies _ (by rfl) (.tmp 36) (.tmp 39) 42 (by rfl) (w.heap.size+1+1) 80 i0 (.agg #[.string ⟨#[]⟩,.bool false,.slice none 0 0,.int .i64 0,.bool false,.int .i64 0]) 6 72 Tryz.underlying42 hi hz0 hz1 hz2 rfl (by decide) (.slice ap P.length cp) P.length (procCells P) (by simp [Act.eval,Act.put]) hR2.op ⟨s0,0,none⟩ 1 1 [.string pd.name,.bool pd.pub,.slice za zn zc,.int .i64 pd.writes,.bool pd.gives,.int .i64 pd.given] (by simp [Act.eval,Act.put]) rfl hsl (by intro u hu;simp at hu;rcases hu with rfl | rfl | rfl | rfl | rfl | rfl<;>rfl) (by omega) (by unfold maxLen;omega) (by omega) (by omega) (s0+1) hss.symm ?_
     intro g5 cap5 w5 hown5 hgrow5 hat5 hlt5
     have hlo:∀ b,(Value.slice ap P.length cp).ownBlock=some b→w.heap.size+1+1≤b∧b<wr.heap.size:=fun b e=>⟨(hR2.op.lt _ e).1,holdP b e⟩
     have hrN:(Value.slice ap P.length cp).ownBlock≠some wr.heap.size:=fun e=>by have:=hlo _ e;omega
     have hrF:(Value.slice ap P.length cp).ownBlock≠some (w.heap.size+1):=fun e=>by have:=hlo _ e;omega
     have hrZ:(Value.slice ap P.length cp).ownBlock≠some w.heap.size:=fun e=>by have:=hlo _ e;omega
     have hX:∀ b,W3.heap.size≤b→¬ X b:=fun b hb e=>by have:=hX0 b e;omega
     have hq:ParIn (fun b=>w.heap.size+1+1≤b∧b<W3.heap.size∧(Value.slice av V.length cv).ownBlock≠some b∧(Value.slice ap P.length cp).ownBlock≠some b∧¬ X b) W3 (.slice za zn zc) pd.params :=
      hpar.to (fun b hb=>⟨by omega,by omega,fun e=>by have:=holdV _ e;omega,fun e=>by have:=holdP _ e;omega,fun e=>by have:=hX0 b e;omega⟩) (fun b hb o v hc=>hc)
     have hfin:=(hR2.pushP (q:=(pd,.slice za zn zc)) hown5 hgrow5 (hat5.imp id (fun e=>e.trans hss)) hX hq).set (M:=w.heap.size+1) (o:=2) (by omega) (.slice (some ⟨g5,0,none⟩) (P.length+1) cap5)
     have hF5:=hF2.grown hgrow5 hrF
     have m6:=hF5.cell 2 rfl
     have mf:=hF5.fz 2
     have hF6:=hF5.set 2 (.slice (some ⟨g5,0,none⟩) (P.length+1) cap5)
     have hZ6:=(hZ2.grown hgrow5 hrZ).other (b:=w.heap.size+1) (o:=2) (by omega) (.slice (some ⟨g5,0,none⟩) (P.length+1) cap5)
     have hb6:=(hb2.grown hgrow5 (by omega) (fun k e=>by have:=hlo k e;omega)).setCell (p:=⟨w.heap.size+1,2,none⟩) (Nat.le_succ _) (.slice (some ⟨g5,0,none⟩) (P.length+1) cap5)
     have hs6:=hgrow5.size
     replace hS2:=Q4.grown hS2 hgrow5 hrN
     clear hR2 hF2 hZ2 hb2 hF5
     refine hK.out _ _ hS2 (fun hHeld=>?_)
     clear hK K hHeld
     simp only [Act.put,jA,jB,jC]
     refine tkP 6 (.pointer (some ⟨w.heap.size+1,2,none⟩)) hS2 ?_
     simp only [Act.put,jA,jB,jC]
     refine oneH 7 fun K hK=>?_
     go_simp
     refine hK.out _ _ (Q4.other (by omega) hS2 _ _) (fun hHeld=>?_)
     clear hK K hHeld m6 mf
     refine wpAnyH_done (by kernel_rfl) ?_ _
     go_wp2
     exact ⟨⟨j+1,.slice av V.length cv,.slice (some ⟨g5,0,none⟩) (P.length+1) cap5,V,P++[(pd,.slice za zn zc)],by omega,by simp,hfin,hF6,hZ6,hb6,by show _=_;rw [HV1.out,HV2.out],by show _=_;rw [HV1.out,HV3.out,List.map_append];rfl⟩,by simp [intOf];omega⟩
    refine AllReadyH.cons rfl (fun K hK=>?_) AllReadyH.nil
    go_simp
    go_at_call 130
    refine (hC W2 hb2).mono ?_
    rintro e w3 ⟨zu,rfl,hzu,hb3⟩
    obtain ⟨za,zc,rfl,_,_⟩:=lexs.own_shape hzu
    have hpar:ParIn (fun b=>W2.heap.size≤b∧b<w3.heap.size) w3 (.slice za pd.params.length zc) pd.params:=ParIn.own (by rw [HPL.out];exact hzu)
    rw [HPL.out] at hpar
    generalize hzn:ps.length=zn at hzu hpar ⊢
    unfold procV
    have hw3:=hb3.size
    replace hR2:=hR2.below hb3
    replace hS2:=Q4.below hS2 hb3
    replace hF2:=hF2.below hb3
    replace hZ2:=hZ2.below hb3
    have hb2':=hb2.trans (hb3.mono hb2.size)
    have hold:W2.heap.size≤W2.heap.size:=jE _
    generalize hpb:W2.heap.size=pb at hpar
    go_wp2
    refine hK.out _ _ hS2 (fun hHeld=>?_)
    clear hK K hHeld hC
    replace hb2:=hb2'
    clear hb2'
    refine wpAnyH_ready (rs:=[1,4]) (by kernel_rfl) (by simp) ?_
    refine AllReadyH.cons rfl (fun K hK=>?_) ?_
    ·skip
     have m6:=hF2.cell 2 rfl
     go_simp
     refine hK.out _ _ hS2 (fun hHeld=>?_)
     clear hK K hHeld m6
     refine oneH 4 fun K hK=>?_
     go_simp
     have hsl:∀ j u,([.string pd.name,.bool pd.pub,.slice za zn zc,.int .i64 pd.writes,.bool pd.gives,.int .i64 pd.given]:List Value)[j]?=some u→(w3.alloc (.cells #[.string pd.name,.bool pd.pub,.slice za zn zc,.int .i64 pd.writes,.bool pd.gives,.int .i64 pd.given] 80)).cell? ((⟨w3.heap.size,0,none⟩:Addr).add j)=some u:=news_new _ #[.string pd.name,.bool pd.pub,.slice za zn zc,.int .i64 pd.writes,.bool pd.gives,.int .i64 pd.given] _ _ rfl
     have hss:w3.heap.size+1=(w3.alloc (.cells #[.string pd.name,.bool pd.pub,.slice za zn zc,.int .i64 pd.writes,.bool pd.gives,.int .i64 pd.given] 80)).heap.size:=by simp
     have hs0:wr.heap.size+1≤w3.heap.size:=by omega
     have hbe:=(Below.refl w3.heap.size w3).alloc (jE _) (.cells #[.string pd.name,.bool pd.pub,.slice za zn zc,.int .i64 pd.writes,.bool pd.gives,.int .i64 pd.given] 80)
     replace hb2:=hb2.alloc (Nat.le_trans (by omega) hs0) (.cells #[.string pd.name,.bool pd.pub,.slice za zn zc,.int .i64 pd.writes,.bool pd.gives,.int .i64 pd.given] 80)
     replace hR2:=hR2.alloc (.cells #[.string pd.name,.bool pd.pub,.slice za zn zc,.int .i64 pd.writes,.bool pd.gives,.int .i64 pd.given] 80)
     replace hS2:=Q4.alloc hS2 (.cells #[.string pd.name,.bool pd.pub,.slice za zn zc,.int .i64 pd.writes,.bool pd.gives,.int .i64 pd.given] 80)
     replace hF2:=hF2.alloc (.cells #[.string pd.name,.bool pd.pub,.slice za zn zc,.int .i64 pd.writes,.bool pd.gives,.int .i64 pd.given] 80)
     replace hZ2:=hZ2.alloc (.cells #[.string pd.name,.bool pd.pub,.slice za zn zc,.int .i64 pd.writes,.bool pd.gives,.int .i64 pd.given] 80)
     replace hpar:ParIn (fun b=>pb≤b∧b<w3.heap.size) (w3.alloc (.cells #[.string pd.name,.bool pd.pub,.slice za zn zc,.int .i64 pd.writes,.bool pd.gives,.int .i64 pd.given] 80)) (.slice za zn zc) pd.params:=hpar.to (fun b hb=>⟨hb.1,by omega⟩) (fun b hb o v hc=>(hbe.cell (p:=⟨b,o,none⟩) (by show b<w3.heap.size;omega)).trans hc)
     clear hbe
     refine hK.out _ _ hS2 (fun hHeld=>?_)
     clear hK K hHeld
     generalize w3.alloc (.cells #[.string pd.name,.bool pd.pub,.slice za zn zc,.int .i64 pd.writes,.bool pd.gives,.int .i64 pd.given] 80)=W3 at *
     generalize w3.heap.size=s0 at *
     refine oneH 5 fun K hK=>?_
     refine step_append_lies _ (by rfl) (.tmp 36) (.tmp 39) 42 (by rfl) (w.heap.size+1+1) 80 i0 (.agg #[.string ⟨#[]⟩,.bool false,.slice none 0 0,.int .i64 0,.bool false,.int .i64 0]) 6 72 Tryz.underlying42 hi hz0 hz1 hz2 rfl (by decide) (.slice ap P.length cp) P.length (procCells P) (by simp [Act.eval,Act.put]) hR2.op ⟨s0,0,none⟩ 1 1 [.string pd.name,.bool pd.pub,.slice za zn zc,.int .i64 pd.writes,.bool pd.gives,.int .i64 pd.given] (by simp [Act.eval,Act.put]) rfl hsl (by intro u hu;simp at hu;rcases hu with rfl | rfl | rfl | rfl | rfl | rfl<;>rfl) (by omega) (by unfold maxLen;omega) (by omega) (by omega) (s0+1) hss.symm ?_
     intro g5 cap5 w5 hown5 hgrow5 hat5 hlt5
     have hlo:∀ b,(Value.slice ap P.length cp).ownBlock=some b→w.heap.size+1+1≤b∧b<wr.heap.size:=fun b e=>⟨(hR2.op.lt _ e).1,holdP b e⟩
     have hrN:(Value.slice ap P.length cp).ownBlock≠some wr.heap.size:=fun e=>by have:=hlo _ e;omega
     have hrF:(Value.slice ap P.length cp).ownBlock≠some (w.heap.size+1):=fun e=>by have:=hlo _ e;omega
     have hrZ:(Value.slice ap P.length cp).ownBlock≠some w.heap.size:=fun e=>by have:=hlo _ e;omega
     have hX:∀ b,W3.heap.size≤b→¬ X b:=fun b hb e=>by have:=hX0 b e;omega
     have hq:ParIn (fun b=>w.heap.size+1+1≤b∧b<W3.heap.size∧(Value.slice av V.length cv).ownBlock≠some b∧(Value.slice ap P.length cp).ownBlock≠some b∧¬ X b) W3 (.slice za zn zc) pd.params :=
      hpar.to (fun b hb=>⟨by omega,by omega,fun e=>by have:=holdV _ e;omega,fun e=>by have:=holdP _ e;omega,fun e=>by have:=hX0 b e;omega⟩) (fun b hb o v hc=>hc)
     have hfin:=(hR2.pushP (q:=(pd,.slice za zn zc)) hown5 hgrow5 (hat5.imp id (fun e=>e.trans hss)) hX hq).set (M:=w.heap.size+1) (o:=2) (by omega) (.slice (some ⟨g5,0,none⟩) (P.length+1) cap5)
     have hF5:=hF2.grown hgrow5 hrF
     have m6:=hF5.cell 2 rfl
     have mf:=hF5.fz 2
     have hF6:=hF5.set 2 (.slice (some ⟨g5,0,none⟩) (P.length+1) cap5)
     have hZ6:=(hZ2.grown hgrow5 hrZ).other (b:=w.heap.size+1) (o:=2) (by omega) (.slice (some ⟨g5,0,none⟩) (P.length+1) cap5)
     have hb6:=(hb2.grown hgrow5 (by omega) (fun k e=>by have:=hlo k e;omega)).setCell (p:=⟨w.heap.size+1,2,none⟩) (Nat.le_succ _) (.slice (some ⟨g5,0,none⟩) (P.length+1) cap5)
     have hs6:=hgrow5.size
     replace hS2:=Q4.grown hS2 hgrow5 hrN
     clear hR2 hF2 hZ2 hb2 hF5
     refine hK.out _ _ hS2 (fun hHeld=>?_)
     clear hK K hHeld
     simp only [Act.put,jA,jB,jC]
     refine tkP 6 (.pointer (some ⟨w.heap.size+1,2,none⟩)) hS2 ?_
     simp only [Act.put,jA,jB,jC]
     refine oneH 7 fun K hK=>?_
     go_simp
     refine hK.out _ _ (Q4.other (by omega) hS2 _ _) (fun hHeld=>?_)
     clear hK K hHeld m6 mf
     refine wpAnyH_done (by kernel_rfl) ?_ _
     go_wp2
     exact ⟨⟨j+1,.slice av V.length cv,.slice (some ⟨g5,0,none⟩) (P.length+1) cap5,V,P++[(pd,.slice za zn zc)],by omega,by simp,hfin,hF6,hZ6,hb6,by show _=_;rw [HV1.out,HV2.out],by show _=_;rw [HV1.out,HV3.out,List.map_append];rfl⟩,by simp [intOf];omega⟩
    refine AllReadyH.cons rfl (fun K hK=>?_) AllReadyH.nil
    go_simp
    have hsl:∀ j u,([.string pd.name,.bool pd.pub,.slice za zn zc,.int .i64 pd.writes,.bool pd.gives,.int .i64 pd.given]:List Value)[j]?=some u→(w3.alloc (.cells #[.string pd.name,.bool pd.pub,.slice za zn zc,.int .i64 pd.writes,.bool pd.gives,.int .i64 pd.given] 80)).cell? ((⟨w3.heap.size,0,none⟩:Addr).add j)=some u:=news_new _ #[.string pd.name,.bool pd.pub,.slice za zn zc,.int .i64 pd.writes,.bool pd.gives,.int .i64 pd.given] _ _ rfl
    have hss:w3.heap.size+1=(w3.alloc (.cells #[.string pd.name,.bool pd.pub,.slice za zn zc,.int .i64 pd.writes,.bool pd.gives,.int .i64 pd.given] 80)).heap.size:=by simp
    have hs0:wr.heap.size+1≤w3.heap.size:=by omega
    have hbe:=(Below.refl w3.heap.size w3).alloc (jE _) (.cells #[.string pd.name,.bool pd.pub,.slice za zn zc,.int .i64 pd.writes,.bool pd.gives,.int .i64 pd.given] 80)
    replace hb2:=hb2.alloc (Nat.le_trans (by omega) hs0) (.cells #[.string pd.name,.bool pd.pub,.slice za zn zc,.int .i64 pd.writes,.bool pd.gives,.int .i64 pd.given] 80)
    replace hR2:=hR2.alloc (.cells #[.string pd.name,.bool pd.pub,.slice za zn zc,.int .i64 pd.writes,.bool pd.gives,.int .i64 pd.given] 80)
    replace hS2:=Q4.alloc hS2 (.cells #[.string pd.name,.bool pd.pub,.slice za zn zc,.int .i64 pd.writes,.bool pd.gives,.int .i64 pd.given] 80)
    replace hF2:=hF2.alloc (.cells #[.string pd.name,.bool pd.pub,.slice za zn zc,.int .i64 pd.writes,.bool pd.gives,.int .i64 pd.given] 80)
    replace hZ2:=hZ2.alloc (.cells #[.string pd.name,.bool pd.pub,.slice za zn zc,.int .i64 pd.writes,.bool pd.gives,.int .i64 pd.given] 80)
    replace hpar:ParIn (fun b=>pb≤b∧b<w3.heap.size) (w3.alloc (.cells #[.string pd.name,.bool pd.pub,.slice za zn zc,.int .i64 pd.writes,.bool pd.gives,.int .i64 pd.given] 80)) (.slice za zn zc) pd.params:=hpar.to (fun b hb=>⟨hb.1,by omega⟩) (fun b hb o v hc=>(hbe.cell (p:=⟨b,o,none⟩) (by show b<w3.heap.size;omega)).trans hc)
    clear hbe
    refine hK.out _ _ hS2 (fun hHeld=>?_)
    clear hK K hHeld
    generalize w3.alloc (.cells #[.string pd.name,.bool pd.pub,.slice za zn zc,.int .i64 pd.writes,.bool pd.gives,.int .i64 pd.given] 80)=W3 at *
    generalize w3.heap.size=s0 at *
    refine oneH 1 fun K hK=>?_
    have m6:=hF2.cell 2 rfl
    go_simp
    refine hK.out _ _ hS2 (fun hHeld=>?_)
    clear hK K hHeld m6
    refine oneH 5 fun K hK=>?_
    refine step_append_lies _ (by rfl) (.tmp 36) (.tmp 39) 42 (by rfl) (w.heap.size+1+1) 80 i0 (.agg #[.string ⟨#[]⟩,.bool false,.slice none 0 0,.int .i64 0,.bool false,.int .i64 0]) 6 72 Tryz.underlying42 hi hz0 hz1 hz2 rfl (by decide) (.slice ap P.length cp) P.length (procCells P) (by simp [Act.eval,Act.put]) hR2.op ⟨s0,0,none⟩ 1 1 [.string pd.name,.bool pd.pub,.slice za zn zc,.int .i64 pd.writes,.bool pd.gives,.int .i64 pd.given] (by simp [Act.eval,Act.put]) rfl hsl (by intro u hu;simp at hu;rcases hu with rfl | rfl | rfl | rfl | rfl | rfl<;>rfl) (by omega) (by unfold maxLen;omega) (by omega) (by omega) (s0+1) hss.symm ?_
    intro g5 cap5 w5 hown5 hgrow5 hat5 hlt5
    have hlo:∀ b,(Value.slice ap P.length cp).ownBlock=some b→w.heap.size+1+1≤b∧b<wr.heap.size:=fun b e=>⟨(hR2.op.lt _ e).1,holdP b e⟩
    have hrN:(Value.slice ap P.length cp).ownBlock≠some wr.heap.size:=fun e=>by have:=hlo _ e;omega
    have hrF:(Value.slice ap P.length cp).ownBlock≠some (w.heap.size+1):=fun e=>by have:=hlo _ e;omega
    have hrZ:(Value.slice ap P.length cp).ownBlock≠some w.heap.size:=fun e=>by have:=hlo _ e;omega
    have hX:∀ b,W3.heap.size≤b→¬ X b:=fun b hb e=>by have:=hX0 b e;omega
    have hq:ParIn (fun b=>w.heap.size+1+1≤b∧b<W3.heap.size∧(Value.slice av V.length cv).ownBlock≠some b∧(Value.slice ap P.length cp).ownBlock≠some b∧¬ X b) W3 (.slice za zn zc) pd.params :=
     hpar.to (fun b hb=>⟨by omega,by omega,fun e=>by have:=holdV _ e;omega,fun e=>by have:=holdP _ e;omega,fun e=>by have:=hX0 b e;omega⟩) (fun b hb o v hc=>hc)
    have hfin:=(hR2.pushP (q:=(pd,.slice za zn zc)) hown5 hgrow5 (hat5.imp id (fun e=>e.trans hss)) hX hq).set (M:=w.heap.size+1) (o:=2) (by omega) (.slice (some ⟨g5,0,none⟩) (P.length+1) cap5)
    have hF5:=hF2.grown hgrow5 hrF
    have m6:=hF5.cell 2 rfl
    have mf:=hF5.fz 2
    have hF6:=hF5.set 2 (.slice (some ⟨g5,0,none⟩) (P.length+1) cap5)
    have hZ6:=(hZ2.grown hgrow5 hrZ).other (b:=w.heap.size+1) (o:=2) (by omega) (.slice (some ⟨g5,0,none⟩) (P.length+1) cap5)
    have hb6:=(hb2.grown hgrow5 (by omega) (fun k e=>by have:=hlo k e;omega)).setCell (p:=⟨w.heap.size+1,2,none⟩) (Nat.le_succ _) (.slice (some ⟨g5,0,none⟩) (P.length+1) cap5)
    have hs6:=hgrow5.size
    replace hS2:=Q4.grown hS2 hgrow5 hrN
    clear hR2 hF2 hZ2 hb2 hF5
    refine hK.out _ _ hS2 (fun hHeld=>?_)
    clear hK K hHeld
    simp only [Act.put,jA,jB,jC]
    refine tkP 6 (.pointer (some ⟨w.heap.size+1,2,none⟩)) hS2 ?_
    simp only [Act.put,jA,jB,jC]
    refine oneH 7 fun K hK=>?_
    go_simp
    refine hK.out _ _ (Q4.other (by omega) hS2 _ _) (fun hHeld=>?_)
    clear hK K hHeld m6 mf
    refine wpAnyH_done (by kernel_rfl) ?_ _
    go_wp2
    exact ⟨⟨j+1,.slice av V.length cv,.slice (some ⟨g5,0,none⟩) (P.length+1) cap5,V,P++[(pd,.slice za zn zc)],by omega,by simp,hfin,hF6,hZ6,hb6,by show _=_;rw [HV1.out,HV2.out],by show _=_;rw [HV1.out,HV3.out,List.map_append];rfl⟩,by simp [intOf];omega⟩
  ·obtain rfl:j=K.length:=by omega
   rw [List.take_of_length_le (by omega)] at HV HP
   have z0:=hF.cell 0 rfl
   have z1:=hF.cell 1 rfl
   have z2:=hF.cell 2 rfl
   have y0:=hZ.cell 0 rfl
   have y1:=hZ.cell 1 rfl
   have y2:=hZ.cell 2 rfl
   have f0:=hZ.fz 0
   have f1:=hZ.fz 1
   have f2:=hZ.fz 2
   have hres:=((hZ.set 0 (.string m)).set 1 (.slice av V.length cv)).set 2 (.slice ap P.length cp)
   have hR3:=((hR.set (M:=w.heap.size) (o:=0) (by omega) (.string m)).set (M:=w.heap.size) (o:=1) (by omega) (.slice av V.length cv)).set (M:=w.heap.size) (o:=2) (by omega) (.slice ap P.length cp)
   have hb3:=((hb.setCell (p:=⟨w.heap.size,0,none⟩) (jE _) (.string m)).setCell (p:=⟨w.heap.size,1,none⟩) (jE _) (.slice av V.length cv)).setCell (p:=⟨w.heap.size,2,none⟩) (jE _) (.slice ap P.length cp)
   go_wp2
   refine bodyPost_ret (v:=.agg #[.string m,.slice av V.length cv,.slice ap P.length cp]) (declRes _ _ hres) rfl ?_
   exact ⟨_,_,V,P,rfl,hR3,HV.out,HP.out,hb3⟩
structure Rel (own:FV) (gf:ByteArray→Option FV) (fs:List FaceD) (f:ByteArray→Option FV):Prop where
 e:∀ z,eqS z empty=true→f z=some own
 o:∀ z,eqS z empty=false→(f z).map (·.1)=fs.find? (fun q=>eqS q.module z)
 g:∀ z q,eqS z empty=false→f z=some q→gf z=some q
theorem eqS_list {x y:ByteArray}:eqS x y=true ↔ x=y:=by
 unfold eqS
 rw [beq_iff_eq]
 constructor
 ·intro h
  cases x;cases y
  rename_i a b
  have:a.toList=b.toList:=by simpa [ByteArray.toList_eq] using h
  congr
  exact Array.toList_inj.1 this
 ·intro h
  rw [h]
theorem Rel.start (own:FV) (gf:ByteArray→Option FV):Rel own gf [] (fun z=>if eqS z empty then some own else none) :=
 ⟨fun z h=>by rw [if_pos h],fun z h=>by rw [if_neg (by rw [h];decide)];rfl,fun z q h hq=>by rw [if_neg (by rw [h];decide)] at hq;cases hq⟩
theorem Rel.more {own:FV} {gf:ByteArray→Option FV} {fs:List FaceD} {f:ByteArray→Option FV} (h:Rel own gf fs f) {x:ByteArray} {q:FV} (hx:eqS x empty=false) (hq:gf x=some q) (hm:eqS q.1.module x=true):Rel own gf (fs++[q.1]) (fun z=>if eqS z x then some q else f z):=by
 refine ⟨fun z hz=>?_,fun z hz=>?_,fun z p hz hp=>?_⟩
 ·have hzx:eqS z x=false:=by
   cases he:eqS z x with
   | false=>rfl
   | true=>rw [eqS_list.1 he,hx] at hz;cases hz
  rw [if_neg (by rw [hzx];decide)]
  exact h.e z hz
 ·rw [List.find?_append]
  cases he:eqS z x with
  | true =>
   obtain rfl:=eqS_list.1 he
   rw [if_pos rfl]
   cases hf:f z with
   | none =>
    have:=h.o z hz
    rw [hf] at this
    rw [← this]
    simp [List.find?,hm]
   | some p =>
    have h1:=h.o z hz
    rw [hf] at h1
    have h2:=h.g z p hz hf
    rw [hq] at h2
    cases h2
    rw [← h1]
    rfl
  | false =>
   rw [if_neg (by decide),h.o z hz]
   have hn:eqS q.1.module z=false:=by
    cases h3:eqS q.1.module z with
    | false=>rfl
    | true =>
     have e1:=eqS_list.1 h3
     have e2:=eqS_list.1 hm
     rw [← e1,e2] at he
     have:eqS x x=true:=eqS_list.2 rfl
     rw [this] at he
     cases he
   simp [List.find?,hn]
 ·cases he:eqS z x with
  | true =>
   rw [he,if_pos rfl] at hp
   rw [eqS_list.1 he,hq]
   exact hp
  | false =>
   rw [he,if_neg (by decide)] at hp
   exact h.g z p hz hp
theorem empty_size {x:ByteArray}:x.size=0 ↔ eqS x empty=true:=by
 rw [eqS_list]
 constructor
 ·intro h
  cases x with
  | mk d =>
   have:d=#[]:=Array.size_eq_zero_iff.1 h
   rw [this]
   rfl
 ·intro h
  rw [h]
  rfl
theorem Rel.face {own:FV} {gf:ByteArray→Option FV} {fs:List FaceD} {f:ByteArray→Option FV} (h:Rel own gf fs f) (x:ByteArray):(f (modOf x)).map (·.1)=faceOf ⟨own.1,fs⟩ x:=by
 unfold faceOf
 by_cases hz:(modOf x).size=0
 ·rw [if_pos hz,h.e _ (empty_size.1 hz)]
  rfl
 ·rw [if_neg hz]
  refine h.o _ ?_
  cases he:eqS (modOf x) empty with
  | false=>rfl
  | true=>exact absurd (empty_size.2 he) hz
theorem locOf_vs (L:List Loc) (x:ByteArray):locOf (vsOf L) x=(L.reverse.find? (fun l=>eqS l.name x)).map fun l=>⟨l.name,false,l.label,0⟩:=by
 unfold locOf vsOf
 rw [← List.map_reverse,List.find?_map]
 rfl
theorem Rel.tab {own:FV} {gf:ByteArray→Option FV} {fs:List FaceD} {f:ByteArray→Option FV} (h:Rel own gf fs f) (hok:EnvOk ⟨own.1,fs⟩) (L:List Loc) (hL:LabL L):Tab ⟨own.1,fs⟩ L f (vsOf L):=by
 refine ⟨hok,hL,fun x hx=>?_,fun x hx=>?_⟩
 ·unfold varP varF
  rw [locOf_vs,← h.face x]
  cases L.reverse.find? (fun l=>eqS l.name x) with
  | some l=>rfl
  | none =>
   dsimp only [Option.map_none]
   cases f (modOf x) with
   | none=>rfl
   | some q=>rfl
 ·unfold procP procF
  rw [← h.face x]
  cases f (modOf x) with
  | none=>rfl
  | some q=>rfl
theorem prF_at {E:Env} {q:ProcD} {ps:List (ByteArray × Bool)} {k:Int} {x:ByteArray} {m:Int} {ks:List Tree} {ends:Bool} {a d:Int} (hst:∀ t∈ks,StT t) (h:prF E q ps (.node k x m ks) ends a=.ok d):d=a+1+ps.length+1+cntL ks:=by
 rw [prF_is] at h
 split at h
 ·cases h
 ·rename_i s hs
  have:=(stsF_ok E _ ks _ _ _ _ _ hst hs).2.1
  split at h
  ·cases h
  ·cases h
   exact this
def erase (w:World) (D:Nat):World:={ w with heap:=w.heap.setIfInBounds D (.cells #[] 0 (0,0)) }
theorem erase_size (w:World) (D:Nat):(erase w D).heap.size=w.heap.size:=by simp [erase]
theorem erase_block (w:World) (D b:Nat) (h:b≠D):(erase w D).heap[b]?=w.heap[b]?:=by
 unfold erase
 exact Array.getElem?_setIfInBounds_ne (fun e=>h e.symm)
theorem erase_grown (w:World) (D:Nat):w.grownBy (erase w D) (some D) :=
 ⟨rfl,rfl,rfl,Nat.le_of_eq (erase_size w D).symm,fun b _ hne=>erase_block w D b (fun e=>hne (by rw [e]))⟩
theorem erase_cell {w:World} {D:Nat} {a:Addr} {v:Value} (h:(erase w D).cell? a=some v):a.block≠D∧w.cell? a=some v:=by
 have hne:a.block≠D:=by
  intro e
  have hlt:=World.block_lt_of_cell? _ a h
  have hb:(erase w D).heap[a.block]?=some (.cells #[] 0 (0,0)):=by
   rw [erase_size] at hlt
   unfold erase
   rw [e]
   rw [e] at hlt
   simp [hlt]
  simp [World.cell?,hb] at h
 exact ⟨hne,by rw [← World.cell?_of_block (a:=a) (erase_block w D a.block hne)];exact h⟩
theorem erase_keep {w:World} {D:Nat} {a:Addr} {v:Value} (hne:a.block≠D) (h:w.cell? a=some v):(erase w D).cell? a=some v:=by
 rw [World.cell?_of_block (a:=a) (erase_block w D a.block hne)]
 exact h
end chk
namespace chk
open Go.RowKit Go.Shelf Go.Maps
open syn face
section
variable {w0 w w':World} {D Kb kn:Nat} {kf:KF} {vs:List VarD} {u:Value} {a:Int}
theorem CS.import (h:CS w0 w D Kb kn kf vs u a) {q:FV} {x:ByteArray} (hM:MapF w' Kb (kn+1) (fun z=>if eqS z x then some (fvV q) else fvO (kf.f z))) (hg:w.grownBy w' (some Kb)) (hq:FaceIn kf.W (fvV q) q.1) (hWK:∀ a v,kf.W.cell? a=some v→a.block≠Kb) (hK:w0.heap.size≤Kb) :
  CS w0 w' D Kb (kn+1) { kf with f:=fun z=>if eqS z x then some q else kf.f z } vs u a:=by
 have hbl:=hg.block D h.lt (fun e=>h.nk (by injection e with e;exact e.symm))
 refine ⟨h.bs.grown hg h.bs.size (fun k e=>by injection e with e;rw [← e];exact hK),h.hD,(World.cell?_of_block (a:=⟨D,4,none⟩) hbl).trans h.c4,(World.cell?_of_block (a:=⟨D,5,none⟩) hbl).trans h.c5,(World.cell?_of_block (a:=⟨D,6,none⟩) hbl).trans h.c6,(World.cell?_of_block (a:=⟨D,7,none⟩) hbl).trans h.c7,fun k=>(World.frozen?_of_block (a:=⟨D,k,none⟩) hbl).trans (h.fz k),?_,?_,fun p v hc=>⟨(h.fw p v hc).1,(h.fw p v hc).2.1,(World.cell?_of_block (a:=p) (hg.block p.block (Nat.lt_of_lt_of_le (h.fw p v hc).2.1 h.fm) (fun e=>hWK p v hc (by injection e)))).trans (h.fw p v hc).2.2⟩,Nat.le_trans h.fm hg.size,h.mM,h.fu,h.rl.kept hg ?_,h.nk,h.mx,h.nu⟩
 ·have e:(fun z=>fvO (if eqS z x then some q else kf.f z))=(fun z=>if eqS z x then some (fvV q) else fvO (kf.f z)):=by
   funext z
   split<;>rfl
  show MapF w' Kb (kn+1) (fun z=>fvO (if eqS z x then some q else kf.f z))
  rw [e]
  exact hM
 ·intro z p hp
  dsimp only at hp
  split at hp
  ·cases hp;exact hq
  ·exact h.fi z p hp
 ·cases e:u.ownBlock with
  | none=>exact .inl rfl
  | some b=>exact .inr (fun e2=>h.nu (e.trans e2))
end
structure M0 (w0 w:World) (D Gb Kb gn:Nat) (gf:ByteArray→Option FV) (m:ByteArray) (k:Option Addr) (n c:Nat) (a:Int):Prop where
 bs:Below w0.heap.size w0 w
 hD:w0.heap.size≤D
 c1:w.cell? ⟨D,1,none⟩=some (.string m)
 c3:w.cell? ⟨D,3,none⟩=some (.slice k n c)
 c4:w.cell? ⟨D,4,none⟩=some (.map (some Gb))
 c5:w.cell? ⟨D,5,none⟩=some (.map (some Kb))
 c6:w.cell? ⟨D,6,none⟩=some (.slice none 0 0)
 c7:w.cell? ⟨D,7,none⟩=some (.int .i64 a)
 fz:∀ k,w.frozen? ⟨D,k,none⟩=false
 mp:MapF w Kb 0 (fun _=>none)
 nk:Kb≠D
 hK:w0.heap.size≤Kb
 mx:HasMax w0
 mg:MapF w0 Gb gn (fun z=>fvO (gf z))
section
variable {w0 w w':World} {D Gb Kb gn:Nat} {gf:ByteArray→Option FV} {m:ByteArray} {k:Option Addr} {n c:Nat} {a:Int}
theorem M0.lt (h:M0 w0 w D Gb Kb gn gf m k n c a):D<w.heap.size:=World.block_lt_of_cell? w ⟨D,5,none⟩ h.c5
theorem M0.setAt (h:M0 w0 w D Gb Kb gn gf m k n c a) (b:Int):M0 w0 (w.setCell ⟨D,7,none⟩ (.int .i64 b)) D Gb Kb gn gf m k n c b :=
 have o:∀ i,i≠7→(w.setCell ⟨D,7,none⟩ (.int .i64 b)).cell? ⟨D,i,none⟩=w.cell? ⟨D,i,none⟩:=fun i hi=>jD w ⟨D,7,none⟩ ⟨D,i,none⟩ _ (by intro e;injection e with _ e;exact hi e.symm)
 ⟨h.bs.setCell h.hD _,h.hD,(o 1 (by decide)).trans h.c1,(o 3 (by decide)).trans h.c3,(o 4 (by decide)).trans h.c4,(o 5 (by decide)).trans h.c5,(o 6 (by decide)).trans h.c6,World.cell?_setCell_same' _ _ _ (by rw [h.c7];rfl),fun k=>by rw [World.frozen?_setCell];exact h.fz k,h.mp.setCell h.nk _,h.nk,h.hK,h.mx,h.mg⟩
theorem M0.below (h:M0 w0 w D Gb Kb gn gf m k n c a) (hb:Below w.heap.size w w'):M0 w0 w' D Gb Kb gn gf m k n c a :=
 have o:∀ i,w'.cell? ⟨D,i,none⟩=w.cell? ⟨D,i,none⟩:=fun i=>hb.cell (p:=⟨D,i,none⟩) h.lt
 ⟨h.bs.trans (hb.mono h.bs.size),h.hD,(o 1).trans h.c1,(o 3).trans h.c3,(o 4).trans h.c4,(o 5).trans h.c5,(o 6).trans h.c6,(o 7).trans h.c7,fun k=>(World.frozen?_of_block (a:=⟨D,k,none⟩) (hb.block D h.lt)).trans (h.fz k),h.mp.below hb,h.nk,h.hK,h.mx,h.mg⟩
theorem M0.own (h:M0 w0 w D Gb Kb gn gf m k n c a) {q:FV} (hM:MapF w' Kb 1 (fun z=>if eqS z empty then some (fvV q) else none)) (hg:w.grownBy w' (some Kb)) {B:Nat} {V:List VarD} {P:List (ProcD × Value)} (hFR:FR (fun b=>b=D∨b=Kb) B w q.2.1 q.2.2 V P) (hV:q.1.vars=V) (hP:q.1.procs=P.map (·.1)) (hl:V.length≤1000) (hl2:P.length≤1000) :
  CS w0 w' D Kb 1 ⟨fun z=>if eqS z empty then some q else none,erase (erase w' D) Kb,w'.heap.size,.map (some Gb)⟩ [] (.slice none 0 0) a:=by
 have hbl:=hg.block D h.lt (fun e=>h.nk (by injection e with e;exact e.symm))
 have hbs:=h.bs.grown hg h.bs.size (fun k e=>by injection e with e;rw [← e];exact h.hK)
 have hF2:FR (fun b=>b=D∨b=Kb) B (erase (erase w' D) Kb) q.2.1 q.2.2 V P:=((hFR.grown hg (fun b e=>.inr (by injection e with e;exact e.symm))).grown (erase_grown w' D) (fun b e=>.inl (by injection e with e;exact e.symm))).grown (erase_grown _ Kb) (fun b e=>.inr (by injection e with e;exact e.symm))
 refine ⟨hbs,h.hD,(World.cell?_of_block (a:=⟨D,4,none⟩) hbl).trans h.c4,(World.cell?_of_block (a:=⟨D,5,none⟩) hbl).trans h.c5,(World.cell?_of_block (a:=⟨D,6,none⟩) hbl).trans h.c6,(World.cell?_of_block (a:=⟨D,7,none⟩) hbl).trans h.c7,fun k=>(World.frozen?_of_block (a:=⟨D,k,none⟩) hbl).trans (h.fz k),?_,?_,fun p v hc=>?_,jE _,hbs.size,fun b e=>(by cases e),World.ownsRow_nil _ _ _ _,h.nk,h.mx,fun e=>(by cases e)⟩
 ·have e:(fun z=>fvO (if eqS z empty then some q else none))=(fun z=>if eqS z empty then some (fvV q) else none):=by
   funext z
   split<;>rfl
  show MapF w' Kb 1 (fun z=>fvO (if eqS z empty then some q else none))
  rw [e]
  exact hM
 ·intro z p hp
  dsimp only at hp
  split at hp
  ·cases hp
   exact ⟨_,_,rfl,by rw [hV];exact vars_in hF2.ov (by omega),by rw [hP];exact procs_in hF2.op (by omega) (fun x hx=>(hF2.par x hx).ints)⟩
  ·cases hp
 ·obtain ⟨h1,h2⟩:=erase_cell hc
  obtain ⟨h3,h4⟩:=erase_cell h2
  exact ⟨h3,World.block_lt_of_cell? _ p h4,h4⟩
end
def MR (w0:World) (r:Option (Int × Int)) (e:Ending) (w':World):Prop:=Below w0.heap.size w0 w'∧match r with
 | some q=>e=.panicked (Thrown q.1 q.2)
 | none=>e=.returned (.tuple #[])
theorem MR.mkBad {w0 w':World} {r:Option (Int × Int)} {c b:Int} (h:r=some (c,b)) (hb:Below w0.heap.size w0 w'):MR w0 r (.panicked (Thrown c b)) w':=by rw [h];exact ⟨hb,rfl⟩
theorem MR.mkOk {w0 w':World} {r:Option (Int × Int)} (h:r=none) (hb:Below w0.heap.size w0 w'):MR w0 r (.returned (.tuple #[])) w':=by rw [h];exact ⟨hb,rfl⟩
def kidOk:Kid→Prop
 | .imp x=>isName x=true
 | .var _ _ _ n=>0≤n.getD 0
 | .proc _ _ _ _ ps b=>ps.length≤20∧InT b∧BlT b
end chk
end Go.Proofs.YtfopddgjdaoidaaGreatDoor
