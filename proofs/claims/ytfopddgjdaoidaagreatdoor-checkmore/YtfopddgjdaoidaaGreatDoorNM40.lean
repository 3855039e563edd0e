/- What the program's addProc answers: a contract. -/
import Derived.Test.YtfopddgjdaoidaaGreatDoorNM29
set_option linter.unusedVariables false
set_option linter.unusedSimpArgs false
set_option maxRecDepth 100000
namespace Go.Proofs.YtfopddgjdaoidaaGreatDoor.face
open Go.RowKit Go.Maps
open syn
def AP (Z:Nat) (w:World) (D Bm Bd:Nat) (vv iv:Value) (mo:ByteArray) (V:List VarD) (P:List (ProcD × Value)) (is ms ns:List ByteArray) (at_:Int) (x:ByteArray) (p l:Bool) (gv:Option Bool) (ps:List (ByteArray × Bool)) (e:Ending) (w':World):Prop :=
  Below Bm w w' ∧
    ((among ns x=true∧e=.panicked (Thrown 5 at_))∨(among ns x=false∧20≤ns.length∧e=.panicked (Thrown 1 at_)) ∨
     (among ns x=false∧ns.length<20∧5<ps.length∧e=.panicked (Thrown 1 at_)) ∨
     (among ns x=false∧ns.length<20∧ps.length≤5∧e=.returned (.tuple #[])∧KZ Z w w'∧∃ b0 pv' P',DI w' D Bm Bd (some b0) vv pv' iv mo V P' is ms (ns++[x]) [] at_∧P'.map (·.1)=P.map (·.1)++if p then [procD x p l gv ps] else []))
set_option maxHeartbeats 4000000 in
theorem oAddProc {D Bm Bd:Nat} {mp:Option Nat} {vv pv iv:Value} {mo:ByteArray} {V:List VarD} {P:List (ProcD × Value)} {is ms ns qs:List ByteArray} {at_:Int} (x:ByteArray) (p l:Bool) (gv:Option Bool) (ps:List (ByteArray × Bool)) (b:Tree) (v:Value) (w:World) (hv:Lies (·<Bm) w (Kid.proc x p l gv ps b).tree v)
    (h:DI w D Bm Bd mp vv pv iv mo V P is ms ns qs at_) (hx:x.size≤16) (hns:ns.length≤20) (hP:P.length≤20) (hps:ps.length≤1000) (hInT:InT b) (Z:Nat) (hZ:Z<w.heap.size) (hZD:D<Z) (hZp:pv.ownBlock≠some Z) :
    Calls Tryz.prog 119 #[.pointer (some ⟨D,0,none⟩),v] w (AP Z w D Bm Bd vv iv mo V P is ms ns at_ x p l gv ps):=by
  have c24:Tryz.prog.cellsOf 25=4:=by kernel_rfl
  have c6:Tryz.prog.cellsOf 80=6:=cell6
  obtain ⟨i0,hi,hz0,hz1,hz2⟩:=info_parts infoP
  have hmm0:=@run_makeMap Tryz.prog
  have hv0:=hv
  rw [Kid.tree_is] at hv
  unfold Lies at hv
  obtain ⟨a,c,rfl,hl,hk⟩:=hv
  simp only [Kid.kind,Kid.text,Kid.num] at *
  have hmB:Bm≤w.heap.size:=by have:=h.lm;have:=h.ld;have:=h.dc.lt;omega
  have hPr:∀ W,Below Bm w W→Calls Tryz.prog 130 #[.agg #[.int .i64 4,.string x,.int .i64 (2 * bI p+bI l+gI gv),.slice a (Kid.proc x p l gv ps b).kids.length c]] W fun e w'=>∃ u,e=.returned (procV (procD x p l gv ps) u)∧w'.ownsRow W.heap.size 3 1 u ps.length (intV (ps.map fun q=>bI q.2))∧Below W.heap.size W w':=fun W hW=>oProcOf x p l gv ps b _ W (hv0.to (fun b hb=>by have:=hW.size;show b<W.heap.size;have hb':b<Bm:=hb;omega) (fun b hb o=>hW.cell (p:=⟨b,o,none⟩) hb)) hps hInT
  clear hk hl hv0
  generalize 2 * bI p+bI l+gI gv=m at *
  generalize (Kid.proc x p l gv ps b).kids.length=kl at *
  have hd:=h.dc.lt
  have hmm:=h.lm
  have hdd:=h.ld
  have hI0:=h.below ((Below.refl _ _).alloc (jE _) (.cells #[.int .i64 4,.string x,.int .i64 m,.slice a kl c] 25))
  have hI:DI (w.alloc (.cells #[.int .i64 4,.string x,.int .i64 m,.slice a kl c] 25)).drew D Bm Bd mp vv pv iv mo V P is ms ns qs at_:=hI0.below ⟨rfl,rfl,rfl,jE _,fun _ _=>rfl⟩
  clear hI0
  have hQ:Q4 w.heap.size (.int .i64 4) (.string x) (.int .i64 m) (.slice a kl c) (w.alloc (.cells #[.int .i64 4,.string x,.int .i64 m,.slice a kl c] 25)).drew:=⟨by simp,by simp,by simp,by simp⟩
  have hB:Below w.heap.size w (w.alloc (.cells #[.int .i64 4,.string x,.int .i64 m,.slice a kl c] 25)).drew:=((Below.refl _ _).alloc (jE _) _).drew
  have hKZ:KZ Z w (w.alloc (.cells #[.int .i64 4,.string x,.int .i64 m,.slice a kl c] 25)).drew:=((KZ.mk rfl hZ).alloc _).drew
  have hS:(w.alloc (.cells #[.int .i64 4,.string x,.int .i64 m,.slice a kl c] 25)).drew.cell? ⟨D,5,none⟩=some (.map (some Bd))∧(w.alloc (.cells #[.int .i64 4,.string x,.int .i64 m,.slice a kl c] 25)).drew.cell? ⟨w.heap.size,1,none⟩=some (.string x):=⟨hI.dc.c5,hQ.2.1⟩
  go_enter Tryz.func119,Tryz.ntmps119
  go_wp2
  refine wp_region_held_drew (S:=fun W=>W.cell? ⟨D,5,none⟩=some (.map (some Bd))∧W.cell? ⟨w.heap.size,1,none⟩=some (.string x)) (by kernel_rfl) hS (fun hHeld=>?_)
  clear hHeld
  generalize (w.alloc (.cells #[.int .i64 4,.string x,.int .i64 m,.slice a kl c] 25)).drew=W at *
  refine tkH (i:=0) (v:=.pointer (some ⟨D,0,none⟩)) rfl (Or.inl ⟨by rfl,fun w hSw=>by obtain ⟨z0,z1⟩:=hSw;go_simp⟩) hS ?_
  simp only [Act.put,jA,jB,jC]
  refine tkH (i:=1) (v:=.pointer (some ⟨D,0,none⟩)) rfl (Or.inl ⟨by rfl,fun w hSw=>by obtain ⟨z0,z1⟩:=hSw;go_simp⟩) hS ?_
  simp only [Act.put,jA,jB,jC]
  refine tkH (i:=2) (v:=.pointer (some ⟨D,0,none⟩)) rfl (Or.inl ⟨by rfl,fun w hSw=>by obtain ⟨z0,z1⟩:=hSw;go_simp⟩) hS ?_
  simp only [Act.put,jA,jB,jC]
  refine tkH (i:=3) (v:=.pointer (some ⟨D,5,none⟩)) rfl (Or.inl ⟨by rfl,fun w hSw=>by obtain ⟨z0,z1⟩:=hSw;go_simp⟩) hS ?_
  simp only [Act.put,jA,jB,jC]
  refine tkH (i:=4) (v:=.map (some Bd)) rfl (Or.inl ⟨by rfl,fun w hSw=>by obtain ⟨z0,z1⟩:=hSw;go_simp⟩) hS ?_
  simp only [Act.put,jA,jB,jC]
  refine tkH (i:=5) (v:=.pointer (some ⟨w.heap.size,1,none⟩)) rfl (Or.inl ⟨by rfl,fun w hSw=>by obtain ⟨z0,z1⟩:=hSw;go_simp⟩) hS ?_
  simp only [Act.put,jA,jB,jC]
  refine tkH (i:=6) (v:=.string x) rfl (Or.inl ⟨by rfl,fun w hSw=>by obtain ⟨z0,z1⟩:=hSw;go_simp⟩) hS ?_
  simp only [Act.put,jA,jB,jC]
  refine wpAnyH_ready (rs:=[7]) (by kernel_rfl) (by simp) ?_
  refine AllReadyH.cons rfl (fun K hK=>?_) AllReadyH.nil
  go_simp
  go_at_call 117
  refine (oEnter D Bd ns x 20 at_ W hI.dc.c7 hI.od hI.ad (by omega) (by omega) (by omega)).mono ?_
  rintro e W1 (⟨hm1,rfl,hb⟩ | ⟨hm1,hle,rfl,hb⟩ | ⟨hm1,hlt,rfl,hom,ham,hg⟩)
  · go_wp2
    exact ⟨rfl,(hB.trans (hb.mono hB.size)).mono (by omega),.inl ⟨hm1,rfl⟩⟩
  · go_wp2
    exact ⟨rfl,(hB.trans (hb.mono hB.size)).mono (by omega),.inr (.inl ⟨hm1,hle,rfl⟩)⟩
  go_wp2
  replace hQ:=Q4.grown hQ hg (by simp;omega)
  have hI1:=hI.enterD hom ham hg
  have hB1:Below Bm w W1:=(hB.mono (by omega)).grown hg (by have:=hB.size;omega) (fun k e=>by cases e;omega)
  have hKZ1:=hKZ.grown hg (by simp;omega)
  clear hB hom ham hg hI hKZ
  refine hK.out _ _ ⟨hI1.dc.c5,hQ.2.1⟩ (fun hHeld=>?_)
  clear hK K hHeld
  refine wpAnyH_done (by kernel_rfl) ?_ _
  obtain ⟨q0,q1,q2,q3⟩:=id hQ
  have hs1:=hB1.size
  by_cases h5:5<ps.length
  · go_wp2_with first
      | (go_at_call 130;refine (hPr _ hB1).mono ?_;rintro e w2 ⟨u,rfl,hou,hb2⟩;unfold procV procD;obtain ⟨au,cu,rfl,_,_⟩:=lexs.own_shape hou;have hI2:=(hI1.below hb2).below ((Below.refl _ _).alloc (jE _) (.cells #[.string x,.bool p,.slice au ps.length cu,.int .i64 (bI l),.bool gv.isSome,.int .i64 (bI (gv.getD false))] 80)))
      | (go_at_call 151;refine (oRefuse D _ at_ _ hI2.dc.c7).mono ?_;rintro e w3 ⟨rfl,hw3⟩;obtain rfl:=hw3.symm)
    exact ⟨rfl,(hB1.trans (hb2.mono (by omega))).alloc (by have:=hb2.size;omega) _,.inr (.inr (.inl ⟨hm1,hlt,h5,rfl⟩))⟩
  have HS:Hid (ps.length≤5):=by show _≤_;omega
  cases p
  · go_wp2_with first
      | (go_at_call 130;refine (hPr _ hB1).mono ?_;rintro e w2 ⟨u,rfl,hou,hb2⟩;unfold procV procD;obtain ⟨au,cu,rfl,_,_⟩:=lexs.own_shape hou;have hI2:=(hI1.below hb2).below ((Below.refl _ _).alloc (jE _) (.cells #[.string x,.bool false,.slice au ps.length cu,.int .i64 (bI l),.bool gv.isSome,.int .i64 (bI (gv.getD false))] 80));have hI3:=hI2.below ((Below.refl _ _).alloc (jE _) (.map #[] 0));have m6:=hI3.dc.c6;have mf:=hI3.dc.fz 6)
    have hfin:=hI2.newP ((Below.refl _ _).alloc (jE _) (.map #[] 0)) (World.ownsMap_made _ _ _ _)
    have hs2:=hb2.size
    go_end0
    exact ⟨((((hB1.trans (hb2.mono (by omega))).alloc (by omega) _).alloc (by simp;omega) _).setCell (by show Bm≤D;omega) _),.inr (.inr (.inr ⟨hm1,hlt,HS.out,rfl,(((hKZ1.below hb2).alloc _).alloc _).set (by omega) _,_,pv,P,by simpa using hfin,by simp⟩))⟩
  have HD:Hid (procD x true l gv ps=⟨x,true,ps.map fun q=>bI q.2,bI l,gv.isSome,bI (gv.getD false)⟩):=rfl
  unfold procV procD at hPr
  simp only at hPr
  generalize gv.isSome=gs at *
  generalize bI (gv.getD false)=gd at *
  go_wp2_with first
    | (go_at_call 130;refine (hPr _ hB1).mono ?_;rintro e w2 ⟨u,rfl,hou,hb2⟩;obtain ⟨au,cu,rfl,_,_⟩:=lexs.own_shape hou)
  have hs2:=hb2.size
  have hpar:ParIn (fun b=>W1.heap.size≤b∧b<w2.heap.size) w2 (.slice au ps.length cu) (ps.map fun q=>bI q.2):=ParIn.own (by rw [List.length_map];exact hou)
  have hI2:DI (w2.alloc (.cells #[.string x,.bool true,.slice au ps.length cu,.int .i64 (bI l),.bool gs,.int .i64 gd] 80)).drew D Bm Bd mp vv pv iv mo V P is ms (ns++[x]) qs at_:=((hI1.below hb2).below ((Below.refl _ _).alloc (jE _) (.cells #[.string x,.bool true,.slice au ps.length cu,.int .i64 (bI l),.bool gs,.int .i64 gd] 80))).below ⟨rfl,rfl,rfl,jE _,fun _ _=>rfl⟩
  have hB2:Below Bm w (w2.alloc (.cells #[.string x,.bool true,.slice au ps.length cu,.int .i64 (bI l),.bool gs,.int .i64 gd] 80)).drew:=((hB1.trans (hb2.mono (by omega))).alloc (by omega) _).drew
  have hKZ2:KZ Z w (w2.alloc (.cells #[.string x,.bool true,.slice au ps.length cu,.int .i64 (bI l),.bool gs,.int .i64 gd] 80)).drew:=((hKZ1.below hb2).alloc _).drew
  have hbW:Below w2.heap.size w2 (w2.alloc (.cells #[.string x,.bool true,.slice au ps.length cu,.int .i64 (bI l),.bool gs,.int .i64 gd] 80)).drew:=((Below.refl _ _).alloc (jE _) _).drew
  have hS2:Box6 (w2.alloc (.cells #[.string x,.bool true,.slice au ps.length cu,.int .i64 (bI l),.bool gs,.int .i64 gd] 80)).drew w2.heap.size (.string x) (.bool true) (.slice au ps.length cu) (.int .i64 (bI l)) (.bool gs) (.int .i64 gd):=(Box6.new w2 _ _ _ _ _ _ _).drew
  have hold:∀ k,(vv.ownBlock=some k∨pv.ownBlock=some k∨iv.ownBlock=some k∨mp=some k)→k<W1.heap.size:=fun k e=>by
    rcases e with e | e | e | e
    · exact (hI1.fr.ov.lt _ e).2
    · exact (hI1.fr.op.lt _ e).2
    · exact (hI1.oi.lt _ e).2
    · exact (hI1.op k e).lt
  have hDw:=hI1.dc.lt
  clear hKZ1 hI1 hB1 hQ q0 q1 q2 q3 hou hb2
  refine wp_region_held_drew (S:=fun W=>Box6 W w2.heap.size (.string x) (.bool true) (.slice au ps.length cu) (.int .i64 (bI l)) (.bool gs) (.int .i64 gd)) (by kernel_rfl) hS2 (fun hHeld=>?_)
  clear hHeld
  generalize (w2.alloc (.cells #[.string x,.bool true,.slice au ps.length cu,.int .i64 (bI l),.bool gs,.int .i64 gd] 80)).drew=W2 at *
  generalize hN:w2.heap.size=N at *
  obtain ⟨ap,cp,rfl⟩:=hI2.fr.shapeP
  refine tkH (i:=0) (v:=.pointer (some ⟨D,0,none⟩)) rfl (Or.inl ⟨by rfl,fun w hSw=>by obtain ⟨z0,z1,z2,z3,z4,z5,_,_,_,_,_,_⟩:=hSw;go_simp⟩) hS2 ?_
  simp only [Act.put,jA,jB,jC]
  refine tkH (i:=1) (v:=.pointer (some ⟨D,0,none⟩)) rfl (Or.inl ⟨by rfl,fun w hSw=>by obtain ⟨z0,z1,z2,z3,z4,z5,_,_,_,_,_,_⟩:=hSw;go_simp⟩) hS2 ?_
  simp only [Act.put,jA,jB,jC]
  refine tkH (i:=2) (v:=.pointer (some ⟨D,0,none⟩)) rfl (Or.inl ⟨by rfl,fun w hSw=>by obtain ⟨z0,z1,z2,z3,z4,z5,_,_,_,_,_,_⟩:=hSw;go_simp⟩) hS2 ?_
  simp only [Act.put,jA,jB,jC]
  refine tkH (i:=3) (v:=.pointer (some ⟨D,0,none⟩)) rfl (Or.inl ⟨by rfl,fun w hSw=>by obtain ⟨z0,z1,z2,z3,z4,z5,_,_,_,_,_,_⟩:=hSw;go_simp⟩) hS2 ?_
  simp only [Act.put,jA,jB,jC]
  refine tkH (i:=4) (v:=.pointer (some ⟨D,2,none⟩)) rfl (Or.inl ⟨by rfl,fun w hSw=>by obtain ⟨z0,z1,z2,z3,z4,z5,_,_,_,_,_,_⟩:=hSw;go_simp⟩) hS2 ?_
  simp only [Act.put,jA,jB,jC]
  refine tkH (i:=6) (v:=.agg #[.string x,.bool true,.slice au ps.length cu,.int .i64 (bI l),.bool gs,.int .i64 gd] ) rfl (Or.inl ⟨by rfl,fun w hSw=>by obtain ⟨z0,z1,z2,z3,z4,z5,_,_,_,_,_,_⟩:=hSw;go_simp⟩) hS2 ?_
  simp only [Act.put,jA,jB,jC]
  refine wpAnyH_ready (rs:=[5,7]) (by kernel_rfl) (by simp) ?_
  refine AllReadyH.cons rfl (fun K hK=>?_) ?_
  · skip
    have m1:=hI2.dc.c2
    go_simp
    refine hK.out _ _ hS2 (fun hHeld=>?_)
    clear hK K hHeld m1
    refine wpAnyH_ready (rs:=[7]) (by kernel_rfl) (by simp) ?_
    refine AllReadyH.cons rfl (fun K hK=>?_) AllReadyH.nil
    go_simp
    have hsl:∀ j u,[Value.string x,.bool true,.slice au ps.length cu,.int .i64 (bI l),.bool gs,.int .i64 gd][j]?=some u→(W2.alloc (.cells #[.string x,.bool true,.slice au ps.length cu,.int .i64 (bI l),.bool gs,.int .i64 gd] 80)).cell? ((⟨W2.heap.size,0,none⟩:Addr).add j)=some u:=news_new _ #[.string x,.bool true,.slice au ps.length cu,.int .i64 (bI l),.bool gs,.int .i64 gd] _ _ rfl
    have hss:W2.heap.size+1=(W2.alloc (.cells #[.string x,.bool true,.slice au ps.length cu,.int .i64 (bI l),.bool gs,.int .i64 gd] 80)).heap.size:=by simp
    replace hKZ2:=hKZ2.alloc (.cells #[.string x,.bool true,.slice au ps.length cu,.int .i64 (bI l),.bool gs,.int .i64 gd] 80)
    replace hB2:=hB2.alloc (by have:=hI2.dc.lt;omega) (.cells #[.string x,.bool true,.slice au ps.length cu,.int .i64 (bI l),.bool gs,.int .i64 gd] 80)
    replace hbW:=hbW.alloc (by have:=hbW.size;omega) (.cells #[.string x,.bool true,.slice au ps.length cu,.int .i64 (bI l),.bool gs,.int .i64 gd] 80)
    replace hI2:=hI2.below ((Below.refl _ _).alloc (jE _) (.cells #[.string x,.bool true,.slice au ps.length cu,.int .i64 (bI l),.bool gs,.int .i64 gd] 80))
    replace hS2:=hS2.alloc (.cells #[.string x,.bool true,.slice au ps.length cu,.int .i64 (bI l),.bool gs,.int .i64 gd] 80)
    refine hK.out _ _ hS2 (fun hHeld=>?_)
    clear hK K hHeld
    generalize W2.alloc (.cells #[.string x,.bool true,.slice au ps.length cu,.int .i64 (bI l),.bool gs,.int .i64 gd] 80)=W3 at *
    generalize W2.heap.size=s0 at *
    refine wpAnyH_ready (rs:=[8]) (by kernel_rfl) (by simp) ?_
    refine AllReadyH.cons rfl (fun K hK=>?_) AllReadyH.nil
    refine step_append_lies _ (by rfl) (.tmp 28) (.tmp 30) 42 (by rfl) (D+1) 80 i0 (.agg #[.string ⟨#[]⟩,.bool false,.slice none 0 0,.int .i64 0,.bool false,.int .i64 0]) 6 72 Tryz.underlying42 hi hz0 hz1 hz2 rfl (by decide) (.slice ap P.length cp) P.length (procCells P) (by simp [Act.eval,Act.put]) hI2.fr.op ⟨s0,0,none⟩ 1 1 [.string x,.bool true,.slice au ps.length cu,.int .i64 (bI l),.bool gs,.int .i64 gd] (by simp [Act.eval,Act.put]) rfl hsl (by intro u hu;simp at hu;rcases hu with rfl | rfl | rfl | rfl | rfl | rfl <;> rfl) (by omega) (by unfold maxLen;omega) (by omega) (by have:=hI2.dc.lt;omega) (s0+1) hss.symm ?_
    intro g5 cap5 w5 hown5 hgrow5 hat5 hlt5
    have hrN:(Value.slice ap P.length cp).ownBlock≠some N:=fun e=>by have:=hold _ (.inr (.inl e));omega
    have hrD:(Value.slice ap P.length cp).ownBlock≠some D:=fun e=>by have:=(hI2.fr.op.lt _ e).1;omega
    have hq:ParIn (fun b=>D+1≤b∧b<W3.heap.size∧vv.ownBlock≠some b∧(Value.slice ap P.length cp).ownBlock≠some b∧¬ (iv.ownBlock=some b∨mp=some b)) W3 (.slice au ps.length cu) (ps.map fun q=>bI q.2) :=
      hpar.to (fun b hb=>⟨by omega,by have:=hbW.size;omega,fun e=>by have:=hold _ (.inl e);omega,fun e=>by have:=hold _ (.inr (.inl e));omega,fun e=>by rcases e with e | e;have:=hold _ (.inr (.inr (.inl e)));omega;have:=hold _ (.inr (.inr (.inr e)));omega⟩) (fun b hb o v hc=>(hbW.cell (p:=⟨b,o,none⟩) (by show b<N;omega)).trans hc)
    have hfin:=hI2.pushP (q:=(⟨x,true,ps.map fun q=>bI q.2,bI l,gs,gd⟩,.slice au ps.length cu)) hown5 hgrow5 (hat5.imp id (fun e=>e.trans hss)) hq
    replace hS2:=hS2.grown hgrow5 hrN
    replace hKZ2:=hKZ2.grown hgrow5 hZp
    replace hB2:=hB2.grown hgrow5 (by have:=hI2.dc.lt;omega) (fun k e=>by have:=(hI2.fr.op.lt _ e).1;omega)
    have hdc:=hI2.dc.grown hgrow5 hrD
    have m1:=hdc.c2
    have mf:=hdc.fz 2
    clear hI2 hdc hq
    refine hK.out _ _ hS2 (fun hHeld=>?_)
    clear hK K hHeld
    simp only [Act.put,jA,jB,jC]
    refine tkH (i:=9) (v:=.pointer (some ⟨D,0,none⟩)) rfl (Or.inl ⟨by rfl,fun w hSw=>by obtain ⟨z0,z1,z2,z3,z4,z5,_,_,_,_,_,_⟩:=hSw;go_simp⟩) hS2 ?_
    simp only [Act.put,jA,jB,jC]
    refine tkH (i:=10) (v:=.pointer (some ⟨D,0,none⟩)) rfl (Or.inl ⟨by rfl,fun w hSw=>by obtain ⟨z0,z1,z2,z3,z4,z5,_,_,_,_,_,_⟩:=hSw;go_simp⟩) hS2 ?_
    simp only [Act.put,jA,jB,jC]
    refine tkH (i:=11) (v:=.pointer (some ⟨D,2,none⟩)) rfl (Or.inl ⟨by rfl,fun w hSw=>by obtain ⟨z0,z1,z2,z3,z4,z5,_,_,_,_,_,_⟩:=hSw;go_simp⟩) hS2 ?_
    simp only [Act.put,jA,jB,jC]
    refine wpAnyH_ready (rs:=[12]) (by kernel_rfl) (by simp) ?_
    refine AllReadyH.cons rfl (fun K hK=>?_) AllReadyH.nil
    go_simp
    refine hK.out _ _ (hS2.other (by omega) _) (fun hHeld=>?_)
    clear hK K hHeld m1 mf hS2
    refine wpAnyH_done (by kernel_rfl) ?_ _
    replace hKZ2:=hKZ2.set (D:=D) (o:=2) (by omega) (.slice (some ⟨g5,0,none⟩) (P.length+1) cap5)
    replace hB2:=hB2.setCell (p:=⟨D,2,none⟩) (by show Bm≤D;omega) (.slice (some ⟨g5,0,none⟩) (P.length+1) cap5)
    generalize (World.setCell w5 ⟨D,2,none⟩ _)=W6 at *
    have hI3:=hfin.below ((Below.refl _ _).alloc (jE _) (.map #[] 0))
    have m6:=hI3.dc.c6
    have mf6:=hI3.dc.fz 6
    have hend:=hfin.newP ((Below.refl _ _).alloc (jE _) (.map #[] 0)) (World.ownsMap_made _ _ _ _)
    have hsz6:=hfin.dc.lt
    go_wp2
    go_end0
    exact ⟨(hB2.setCell (by show Bm≤D;omega) _).alloc (by rw [World.size_setCell];omega) _,.inr (.inr (.inr ⟨hm1,hlt,HS.out,rfl,(hKZ2.set (by omega) _).alloc _,W6.heap.size,.slice (some ⟨g5,0,none⟩) (P.length+1) cap5,P++[(⟨x,true,ps.map fun q=>bI q.2,bI l,gs,gd⟩,.slice au ps.length cu)],by rw [← World.setCell_alloc_past (hn:=hsz6)];exact hend,by rw [if_pos rfl,HD.out,List.map_append];rfl⟩))⟩
  refine AllReadyH.cons rfl (fun K hK=>?_) AllReadyH.nil
  go_simp
  have hsl:∀ j u,[Value.string x,.bool true,.slice au ps.length cu,.int .i64 (bI l),.bool gs,.int .i64 gd][j]?=some u→(W2.alloc (.cells #[.string x,.bool true,.slice au ps.length cu,.int .i64 (bI l),.bool gs,.int .i64 gd] 80)).cell? ((⟨W2.heap.size,0,none⟩:Addr).add j)=some u:=news_new _ #[.string x,.bool true,.slice au ps.length cu,.int .i64 (bI l),.bool gs,.int .i64 gd] _ _ rfl
  have hss:W2.heap.size+1=(W2.alloc (.cells #[.string x,.bool true,.slice au ps.length cu,.int .i64 (bI l),.bool gs,.int .i64 gd] 80)).heap.size:=by simp
  replace hKZ2:=hKZ2.alloc (.cells #[.string x,.bool true,.slice au ps.length cu,.int .i64 (bI l),.bool gs,.int .i64 gd] 80)
  replace hB2:=hB2.alloc (by have:=hI2.dc.lt;omega) (.cells #[.string x,.bool true,.slice au ps.length cu,.int .i64 (bI l),.bool gs,.int .i64 gd] 80)
  replace hbW:=hbW.alloc (by have:=hbW.size;omega) (.cells #[.string x,.bool true,.slice au ps.length cu,.int .i64 (bI l),.bool gs,.int .i64 gd] 80)
  replace hI2:=hI2.below ((Below.refl _ _).alloc (jE _) (.cells #[.string x,.bool true,.slice au ps.length cu,.int .i64 (bI l),.bool gs,.int .i64 gd] 80))
  replace hS2:=hS2.alloc (.cells #[.string x,.bool true,.slice au ps.length cu,.int .i64 (bI l),.bool gs,.int .i64 gd] 80)
  refine hK.out _ _ hS2 (fun hHeld=>?_)
  clear hK K hHeld
  generalize W2.alloc (.cells #[.string x,.bool true,.slice au ps.length cu,.int .i64 (bI l),.bool gs,.int .i64 gd] 80)=W3 at *
  generalize W2.heap.size=s0 at *
  refine wpAnyH_ready (rs:=[5]) (by kernel_rfl) (by simp) ?_
  refine AllReadyH.cons rfl (fun K hK=>?_) AllReadyH.nil
  have m1:=hI2.dc.c2
  go_simp
  refine hK.out _ _ hS2 (fun hHeld=>?_)
  clear hK K hHeld m1
  refine wpAnyH_ready (rs:=[8]) (by kernel_rfl) (by simp) ?_
  refine AllReadyH.cons rfl (fun K hK=>?_) AllReadyH.nil
  refine step_append_lies _ (by rfl) (.tmp 28) (.tmp 30) 42 (by rfl) (D+1) 80 i0 (.agg #[.string ⟨#[]⟩,.bool false,.slice none 0 0,.int .i64 0,.bool false,.int .i64 0]) 6 72 Tryz.underlying42 hi hz0 hz1 hz2 rfl (by decide) (.slice ap P.length cp) P.length (procCells P) (by simp [Act.eval,Act.put]) hI2.fr.op ⟨s0,0,none⟩ 1 1 [.string x,.bool true,.slice au ps.length cu,.int .i64 (bI l),.bool gs,.int .i64 gd] (by simp [Act.eval,Act.put]) rfl hsl (by intro u hu;simp at hu;rcases hu with rfl | rfl | rfl | rfl | rfl | rfl <;> rfl) (by omega) (by unfold maxLen;omega) (by omega) (by have:=hI2.dc.lt;omega) (s0+1) hss.symm ?_
  intro g5 cap5 w5 hown5 hgrow5 hat5 hlt5
  have hrN:(Value.slice ap P.length cp).ownBlock≠some N:=fun e=>by have:=hold _ (.inr (.inl e));omega
  have hrD:(Value.slice ap P.length cp).ownBlock≠some D:=fun e=>by have:=(hI2.fr.op.lt _ e).1;omega
  have hq:ParIn (fun b=>D+1≤b∧b<W3.heap.size∧vv.ownBlock≠some b∧(Value.slice ap P.length cp).ownBlock≠some b∧¬ (iv.ownBlock=some b∨mp=some b)) W3 (.slice au ps.length cu) (ps.map fun q=>bI q.2) :=
    hpar.to (fun b hb=>⟨by omega,by have:=hbW.size;omega,fun e=>by have:=hold _ (.inl e);omega,fun e=>by have:=hold _ (.inr (.inl e));omega,fun e=>by rcases e with e | e;have:=hold _ (.inr (.inr (.inl e)));omega;have:=hold _ (.inr (.inr (.inr e)));omega⟩) (fun b hb o v hc=>(hbW.cell (p:=⟨b,o,none⟩) (by show b<N;omega)).trans hc)
  have hfin:=hI2.pushP (q:=(⟨x,true,ps.map fun q=>bI q.2,bI l,gs,gd⟩,.slice au ps.length cu)) hown5 hgrow5 (hat5.imp id (fun e=>e.trans hss)) hq
  replace hS2:=hS2.grown hgrow5 hrN
  replace hKZ2:=hKZ2.grown hgrow5 hZp
  replace hB2:=hB2.grown hgrow5 (by have:=hI2.dc.lt;omega) (fun k e=>by have:=(hI2.fr.op.lt _ e).1;omega)
  have hdc:=hI2.dc.grown hgrow5 hrD
  have m1:=hdc.c2
  have mf:=hdc.fz 2
  clear hI2 hdc hq
  refine hK.out _ _ hS2 (fun hHeld=>?_)
  clear hK K hHeld
  simp only [Act.put,jA,jB,jC]
  refine tkH (i:=9) (v:=.pointer (some ⟨D,0,none⟩)) rfl (Or.inl ⟨by rfl,fun w hSw=>by obtain ⟨z0,z1,z2,z3,z4,z5,_,_,_,_,_,_⟩:=hSw;go_simp⟩) hS2 ?_
  simp only [Act.put,jA,jB,jC]
  refine tkH (i:=10) (v:=.pointer (some ⟨D,0,none⟩)) rfl (Or.inl ⟨by rfl,fun w hSw=>by obtain ⟨z0,z1,z2,z3,z4,z5,_,_,_,_,_,_⟩:=hSw;go_simp⟩) hS2 ?_
  simp only [Act.put,jA,jB,jC]
  refine tkH (i:=11) (v:=.pointer (some ⟨D,2,none⟩)) rfl (Or.inl ⟨by rfl,fun w hSw=>by obtain ⟨z0,z1,z2,z3,z4,z5,_,_,_,_,_,_⟩:=hSw;go_simp⟩) hS2 ?_
  simp only [Act.put,jA,jB,jC]
  refine wpAnyH_ready (rs:=[12]) (by kernel_rfl) (by simp) ?_
  refine AllReadyH.cons rfl (fun K hK=>?_) AllReadyH.nil
  go_simp
  refine hK.out _ _ (hS2.other (by omega) _) (fun hHeld=>?_)
  clear hK K hHeld m1 mf hS2
  refine wpAnyH_done (by kernel_rfl) ?_ _
  replace hKZ2:=hKZ2.set (D:=D) (o:=2) (by omega) (.slice (some ⟨g5,0,none⟩) (P.length+1) cap5)
  replace hB2:=hB2.setCell (p:=⟨D,2,none⟩) (by show Bm≤D;omega) (.slice (some ⟨g5,0,none⟩) (P.length+1) cap5)
  generalize (World.setCell w5 ⟨D,2,none⟩ _)=W6 at *
  have hI3:=hfin.below ((Below.refl _ _).alloc (jE _) (.map #[] 0))
  have m6:=hI3.dc.c6
  have mf6:=hI3.dc.fz 6
  have hend:=hfin.newP ((Below.refl _ _).alloc (jE _) (.map #[] 0)) (World.ownsMap_made _ _ _ _)
  have hsz6:=hfin.dc.lt
  go_wp2
  go_end0
  exact ⟨(hB2.setCell (by show Bm≤D;omega) _).alloc (by rw [World.size_setCell];omega) _,.inr (.inr (.inr ⟨hm1,hlt,HS.out,rfl,(hKZ2.set (by omega) _).alloc _,W6.heap.size,.slice (some ⟨g5,0,none⟩) (P.length+1) cap5,P++[(⟨x,true,ps.map fun q=>bI q.2,bI l,gs,gd⟩,.slice au ps.length cu)],by rw [← World.setCell_alloc_past (hn:=hsz6)];exact hend,by rw [if_pos rfl,HD.out,List.map_append];rfl⟩))⟩
end Go.Proofs.YtfopddgjdaoidaaGreatDoor.face
