/- What the program's isLabel and mayVar answer, and slices.Equal of numbers: contracts. -/
import Derived.Test.YtaadmdlbkhcfnaaGreatDoorNC08
import Derived.Test.YtaadmdlbkhcfnaaGreatDoorNC03
set_option maxHeartbeats 4000000
set_option linter.unusedVariables false
set_option linter.unusedSimpArgs false
set_option maxRecDepth 100000
namespace Go.Proofs.YtaadmdlbkhcfnaaGreatDoor
namespace face
open Go.RowKit Go.Maps
open syn
def AP (Z:Nat) (w:World) (D Bm Bd:Nat) (vv iv:Value) (mo:ByteArray) (V:List VarD) (P:List (ProcD × Value)) (is ms ns:List ByteArray) (at_:Int) (x:ByteArray) (p l:Bool) (gv:Option Bool) (ps:List (ByteArray × Bool)) (e:Ending) (w':World):Prop :=
 Below Bm w w' /\
  ((qL ns x=true/\e=.panicked (qS 5 at_))\/(qL ns x=false/\20<=ns.length/\e=.panicked (qS 1 at_)) \/
   (qL ns x=false/\ns.length<20/\5<ps.length/\e=.panicked (qS 1 at_)) \/
   (qL ns x=false/\ns.length<20/\ps.length<=5/\e=.returned (.tuple #[])/\KZ Z w w'/\∃ b0 pv' P',DI w' D Bm Bd (some b0) vv pv' iv mo V P' is ms (ns++[x]) [] at_/\P'.map (·.1)=P.map (·.1)++if p then [zH x p l gv ps] else []))
theorem zuv {D Bm Bd:Nat} {mp:Option Nat} {vv pv iv:Value} {mo:ByteArray} {V:List VarD} {P:List (ProcD × Value)} {is ms ns qs:List ByteArray} {at_:Int} (x:ByteArray) (p l:Bool) (gv:Option Bool) (ps:List (ByteArray × Bool)) (b:Tree) (v:Value) (w:World) (hv:kC (·<Bm) w (Kid.proc x p l gv ps b).tree v) (h:DI w D Bm Bd mp vv pv iv mo V P is ms ns qs at_) (hx:x.size<=16) (hns:ns.length<=20) (hP:P.length<=20) (hps:ps.length<=1000) (hInT:InT b) (Z:Nat) (hZ:Z<w.heap.size) (hZD:D<Z) (hZp:pv.ownBlock≠some Z) : Calls Tryz.prog 50 #[.pointer (some ⟨D,0,none⟩),v] w (AP Z w D Bm Bd vv iv mo V P is ms ns at_ x p l gv ps):=by
 have c24:=kc25;have c6:Tryz.prog.cellsOf 62=6:=fL;obtain ⟨i0,hi,hz0,hz1,hz2⟩:=info_parts zn2;have hmm0:=@run_makeMap Tryz.prog;have hv0:=hv;rw [Kid.tree_is] at hv;unfold kC at hv;obtain ⟨a,c,rfl,hl,hk⟩:=hv;simp only [Kid.kind,Kid.text,Kid.num] at *;have hmB:Bm<=w.heap.size:=by have:=h.lm;have:=h.ld;have:=h.dc.lt;omega
 have hPr:∀ W,Below Bm w W->Calls Tryz.prog 66 #[.agg #[.int .i64 4,.string x,.int .i64 (2*bI p+bI l+gI gv),.slice a (Kid.proc x p l gv ps b).kids.length c]] W fun e w'=>∃ u,e=.returned (yJ (zH x p l gv ps) u)/\w'.ownsRow W.heap.size 3 1 u ps.length (uU (ps.map fun q=>bI q.2))/\Below W.heap.size W w':=fun W hW=>zfo x p l gv ps b _ W (hv0.to (fun b hb=>by have:=hW.size;show b<W.heap.size;have hb':b<Bm:=hb;omega) (fun b hb o=>hW.cell (p:=⟨b,o,none⟩) hb)) hps hInT
 clear hk hl hv0;generalize 2*bI p+bI l+gI gv=m at *;generalize (Kid.proc x p l gv ps b).kids.length=kl at *;have hd:=h.dc.lt;have hmm:=h.lm;have hdd:=h.ld;have hI0:=h.below (bal (.cells #[.int .i64 4,.string x,.int .i64 m,.slice a kl c] 25));have hI:DI (w.alloc (.cells #[.int .i64 4,.string x,.int .i64 m,.slice a kl c] 25)).drew D Bm Bd mp vv pv iv mo V P is ms ns qs at_:=hI0.below ⟨rfl,rfl,rfl,jE _,fun _ _=>rfl⟩;clear hI0;have hQ:Q4 w.heap.size (.int .i64 4) (.string x) (.int .i64 m) (.slice a kl c) (w.alloc (.cells #[.int .i64 4,.string x,.int .i64 m,.slice a kl c] 25)).drew:=⟨by simp,by simp,by simp,by simp⟩
 have hB:Below w.heap.size w (w.alloc (.cells #[.int .i64 4,.string x,.int .i64 m,.slice a kl c] 25)).drew:=(bal _).drew;have hKZ:KZ Z w (w.alloc (.cells #[.int .i64 4,.string x,.int .i64 m,.slice a kl c] 25)).drew:=((KZ.mk rfl hZ).alloc _).drew;have hS:(w.alloc (.cells #[.int .i64 4,.string x,.int .i64 m,.slice a kl c] 25)).drew.cell? ⟨D,5,none⟩=some (.map (some Bd))/\(w.alloc (.cells #[.int .i64 4,.string x,.int .i64 m,.slice a kl c] 25)).drew.cell? ⟨w.heap.size,1,none⟩=some (.string x):=⟨hI.dc.c5,hQ.2.1⟩
 go_enter Tryz.func50,Tryz.ntmps50;go_wp2;refine wp_region_held_drew (S:=fun W=>W.cell? ⟨D,5,none⟩=some (.map (some Bd))/\W.cell? ⟨w.heap.size,1,none⟩=some (.string x)) (by kernel_rfl) hS (fun hHeld=>?_);clear hHeld;generalize (w.alloc (.cells #[.int .i64 4,.string x,.int .i64 m,.slice a kl c] 25)).drew=W at *;refine tkP 0 (.pointer (some ⟨D,0,none⟩)) hS ?_;simp only [Act.put,jA,jB,jC];refine tkP 1 (.pointer (some ⟨D,0,none⟩)) hS ?_;simp only [Act.put,jA,jB,jC];refine tkP 2 (.pointer (some ⟨D,0,none⟩)) hS ?_;simp only [Act.put,jA,jB,jC];refine tkP 3 (.pointer (some ⟨D,5,none⟩)) hS ?_;simp only [Act.put,jA,jB,jC];refine tkP 4 (.map (some Bd)) hS ?_;simp only [Act.put,jA,jB,jC];refine tkP 5 (.pointer (some ⟨w.heap.size,1,none⟩)) hS ?_;simp only [Act.put,jA,jB,jC];refine tkP 6 (.string x) hS ?_;simp only [Act.put,jA,jB,jC];refine oneH 7 fun K hK=>?_
 go_simp;go_at_call 48;refine (zcb D Bd ns x 20 at_ W hI.dc.c7 hI.od hI.ad (by omega) (by omega) (by omega)).mono ?_;rintro e W1 (⟨hm1,rfl,hb⟩|⟨hm1,hle,rfl,hb⟩|⟨hm1,hlt,rfl,hom,ham,hg⟩);·go_wp2;exact ⟨rfl,(hB.trans (hb.mono hB.size)).mono (by omega),.inl ⟨hm1,rfl⟩⟩
 ·go_wp2;exact ⟨rfl,(hB.trans (hb.mono hB.size)).mono (by omega),.inr (.inl ⟨hm1,hle,rfl⟩)⟩
 go_wp2;replace hQ:=Q4.grown hQ hg (by simp;omega);have hI1:=hI.enterD hom ham hg;have hB1:Below Bm w W1:=(hB.mono (by omega)).grown hg (by have:=hB.size;omega) (fun k e=>by cases e;omega);have hKZ1:=hKZ.grown hg (by simp;omega);clear hB hom ham hg hI hKZ;refine hK.out _ _ ⟨hI1.dc.c5,hQ.2.1⟩ (fun hHeld=>?_);clear hK K hHeld;refine wpAnyH_done (by kernel_rfl) ?_ _;obtain ⟨q0,q1,q2,q3⟩:=id hQ;have hs1:=hB1.size;by_cases h5:5<ps.length
 ·go_wp2_with first
   | (go_at_call 66;refine (hPr _ hB1).mono ?_;rintro e w2 ⟨u,rfl,hou,hb2⟩;unfold yJ zH;obtain ⟨au,cu,rfl,_,_⟩:=lexs.own_shape hou;have hI2:=(hI1.below hb2).below (bal (.cells #[.string x,.bool p,.slice au ps.length cu,.int .i64 (bI l),.bool gv.isSome,.int .i64 (bI (gv.getD false))] 62)))
   | (go_at_call 78;refine (zdo D _ at_ _ hI2.dc.c7).mono ?_;rintro e w3 ⟨rfl,hw3⟩;obtain rfl:=hw3.symm)
  exact ⟨rfl,(hB1.trans (hb2.mono (by omega))).alloc (by have:=hb2.size;omega) _,.inr (.inr (.inl ⟨hm1,hlt,h5,rfl⟩))⟩
 have HS:Hid (ps.length<=5):=by show _<=_;omega
 cases p
 ·go_wp2_with first
   | (go_at_call 66;refine (hPr _ hB1).mono ?_;rintro e w2 ⟨u,rfl,hou,hb2⟩;unfold yJ zH;obtain ⟨au,cu,rfl,_,_⟩:=lexs.own_shape hou;have hI2:=(hI1.below hb2).below (bal (.cells #[.string x,.bool false,.slice au ps.length cu,.int .i64 (bI l),.bool gv.isSome,.int .i64 (bI (gv.getD false))] 62));have hI3:=hI2.below (bal (.map #[] 0));have m6:=hI3.dc.c6;have mf:=hI3.dc.fz 6)
  have hfin:=hI2.newP (bal (.map #[] 0)) (World.ownsMap_made _ _ _ _);have hs2:=hb2.size
  go_end0
  exact ⟨((((hB1.trans (hb2.mono (by omega))).alloc (by omega) _).alloc (by simp;omega) _).setCell (by show Bm<=D;omega) _),.inr (.inr (.inr ⟨hm1,hlt,HS.out,rfl,(((hKZ1.below hb2).alloc _).alloc _).set (by omega) _,_,pv,P,by simpa using hfin,by simp⟩))⟩
 have HD:Hid (zH x true l gv ps=⟨x,true,ps.map fun q=>bI q.2,bI l,gv.isSome,bI (gv.getD false)⟩):=rfl;unfold yJ zH at hPr;simp only at hPr;generalize gv.isSome=gs at *;generalize bI (gv.getD false)=gd at *
 go_wp2_with first
  | (go_at_call 66;refine (hPr _ hB1).mono ?_;rintro e w2 ⟨u,rfl,hou,hb2⟩;obtain ⟨au,cu,rfl,_,_⟩:=lexs.own_shape hou)
 have hs2:=hb2.size;have hpar:xR (fun b=>W1.heap.size<=b/\b<w2.heap.size) w2 (.slice au ps.length cu) (ps.map fun q=>bI q.2):=xR.own (by rw [List.length_map];exact hou);have hI2:DI (w2.alloc (.cells #[.string x,.bool true,.slice au ps.length cu,.int .i64 (bI l),.bool gs,.int .i64 gd] 62)).drew D Bm Bd mp vv pv iv mo V P is ms (ns++[x]) qs at_:=((hI1.below hb2).below (bal (.cells #[.string x,.bool true,.slice au ps.length cu,.int .i64 (bI l),.bool gs,.int .i64 gd] 62))).below ⟨rfl,rfl,rfl,jE _,fun _ _=>rfl⟩;have hB2:Below Bm w (w2.alloc (.cells #[.string x,.bool true,.slice au ps.length cu,.int .i64 (bI l),.bool gs,.int .i64 gd] 62)).drew:=((hB1.trans (hb2.mono (by omega))).alloc (by omega) _).drew;have hKZ2:KZ Z w (w2.alloc (.cells #[.string x,.bool true,.slice au ps.length cu,.int .i64 (bI l),.bool gs,.int .i64 gd] 62)).drew:=((hKZ1.below hb2).alloc _).drew;have hbW:Below w2.heap.size w2 (w2.alloc (.cells #[.string x,.bool true,.slice au ps.length cu,.int .i64 (bI l),.bool gs,.int .i64 gd] 62)).drew:=(bal _).drew;have hS2:Box6 (w2.alloc (.cells #[.string x,.bool true,.slice au ps.length cu,.int .i64 (bI l),.bool gs,.int .i64 gd] 62)).drew w2.heap.size (.string x) (.bool true) (.slice au ps.length cu) (.int .i64 (bI l)) (.bool gs) (.int .i64 gd):=(Box6.new w2 _ _ _ _ _ _ _).drew
 have hold:∀ k,(vv.ownBlock=some k\/pv.ownBlock=some k\/iv.ownBlock=some k\/mp=some k)->k<W1.heap.size:=fun k e=>by
  rcases e with e | e | e | e
  ·exact (hI1.fr.ov.lt _ e).2
  ·exact (hI1.fr.op.lt _ e).2
  ·exact (hI1.oi.lt _ e).2
  ·exact (hI1.op k e).lt
 have hDw:=hI1.dc.lt;clear hKZ1 hI1 hB1 hQ q0 q1 q2 q3 hou hb2;refine wp_region_held_drew (S:=fun W=>Box6 W w2.heap.size (.string x) (.bool true) (.slice au ps.length cu) (.int .i64 (bI l)) (.bool gs) (.int .i64 gd)) (by kernel_rfl) hS2 (fun hHeld=>?_);clear hHeld;generalize (w2.alloc (.cells #[.string x,.bool true,.slice au ps.length cu,.int .i64 (bI l),.bool gs,.int .i64 gd] 62)).drew=W2 at *;generalize hN:w2.heap.size=N at *;obtain ⟨ap,cp,rfl⟩:=hI2.fr.shapeP;refine tkP 0 (.pointer (some ⟨D,0,none⟩)) hS2 ?_;simp only [Act.put,jA,jB,jC];refine tkP 1 (.pointer (some ⟨D,0,none⟩)) hS2 ?_;simp only [Act.put,jA,jB,jC];refine tkP 2 (.pointer (some ⟨D,0,none⟩)) hS2 ?_;simp only [Act.put,jA,jB,jC];refine tkP 3 (.pointer (some ⟨D,0,none⟩)) hS2 ?_;simp only [Act.put,jA,jB,jC];refine tkP 4 (.pointer (some ⟨D,2,none⟩)) hS2 ?_;simp only [Act.put,jA,jB,jC];refine tkP 6 (.agg #[.string x,.bool true,.slice au ps.length cu,.int .i64 (bI l),.bool gs,.int .i64 gd] ) hS2 ?_;simp only [Act.put,jA,jB,jC];refine wpAnyH_ready (rs:=[5,7]) (by kernel_rfl) (by simp) ?_;refine AllReadyH.cons rfl (fun K hK=>?_) (AllReadyH.cons rfl (fun K hK=>?_) AllReadyH.nil)
 focus
  have m1:=hI2.dc.c2;go_simp;refine hK.out _ _ hS2 (fun hHeld=>?_);clear hK K hHeld m1;refine oneH 7 fun K hK=>?_
  go_simp;have hsl:∀ j u,[Value.string x,.bool true,.slice au ps.length cu,.int .i64 (bI l),.bool gs,.int .i64 gd][j]?=some u->(W2.alloc (.cells #[.string x,.bool true,.slice au ps.length cu,.int .i64 (bI l),.bool gs,.int .i64 gd] 62)).cell? ((⟨W2.heap.size,0,none⟩:Addr).add j)=some u:=xF _ #[.string x,.bool true,.slice au ps.length cu,.int .i64 (bI l),.bool gs,.int .i64 gd] _ _ rfl;have hss:W2.heap.size+1=(W2.alloc (.cells #[.string x,.bool true,.slice au ps.length cu,.int .i64 (bI l),.bool gs,.int .i64 gd] 62)).heap.size:=by simp
  replace hKZ2:=hKZ2.alloc (.cells #[.string x,.bool true,.slice au ps.length cu,.int .i64 (bI l),.bool gs,.int .i64 gd] 62);replace hB2:=hB2.alloc (by have:=hI2.dc.lt;omega) (.cells #[.string x,.bool true,.slice au ps.length cu,.int .i64 (bI l),.bool gs,.int .i64 gd] 62);replace hbW:=hbW.alloc (by have:=hbW.size;omega) (.cells #[.string x,.bool true,.slice au ps.length cu,.int .i64 (bI l),.bool gs,.int .i64 gd] 62);replace hI2:=hI2.below (bal (.cells #[.string x,.bool true,.slice au ps.length cu,.int .i64 (bI l),.bool gs,.int .i64 gd] 62));replace hS2:=hS2.alloc (.cells #[.string x,.bool true,.slice au ps.length cu,.int .i64 (bI l),.bool gs,.int .i64 gd] 62);refine hK.out _ _ hS2 (fun hHeld=>?_);clear hK K hHeld;generalize W2.alloc (.cells #[.string x,.bool true,.slice au ps.length cu,.int .i64 (bI l),.bool gs,.int .i64 gd] 62)=W3 at *;generalize W2.heap.size=s0 at *
 rotate_left
 focus
  go_simp;have hsl:∀ j u,[Value.string x,.bool true,.slice au ps.length cu,.int .i64 (bI l),.bool gs,.int .i64 gd][j]?=some u->(W2.alloc (.cells #[.string x,.bool true,.slice au ps.length cu,.int .i64 (bI l),.bool gs,.int .i64 gd] 62)).cell? ((⟨W2.heap.size,0,none⟩:Addr).add j)=some u:=xF _ #[.string x,.bool true,.slice au ps.length cu,.int .i64 (bI l),.bool gs,.int .i64 gd] _ _ rfl;have hss:W2.heap.size+1=(W2.alloc (.cells #[.string x,.bool true,.slice au ps.length cu,.int .i64 (bI l),.bool gs,.int .i64 gd] 62)).heap.size:=by simp
  replace hKZ2:=hKZ2.alloc (.cells #[.string x,.bool true,.slice au ps.length cu,.int .i64 (bI l),.bool gs,.int .i64 gd] 62);replace hB2:=hB2.alloc (by have:=hI2.dc.lt;omega) (.cells #[.string x,.bool true,.slice au ps.length cu,.int .i64 (bI l),.bool gs,.int .i64 gd] 62);replace hbW:=hbW.alloc (by have:=hbW.size;omega) (.cells #[.string x,.bool true,.slice au ps.length cu,.int .i64 (bI l),.bool gs,.int .i64 gd] 62);replace hI2:=hI2.below (bal (.cells #[.string x,.bool true,.slice au ps.length cu,.int .i64 (bI l),.bool gs,.int .i64 gd] 62));replace hS2:=hS2.alloc (.cells #[.string x,.bool true,.slice au ps.length cu,.int .i64 (bI l),.bool gs,.int .i64 gd] 62);refine hK.out _ _ hS2 (fun hHeld=>?_);clear hK K hHeld;generalize W2.alloc (.cells #[.string x,.bool true,.slice au ps.length cu,.int .i64 (bI l),.bool gs,.int .i64 gd] 62)=W3 at *;generalize W2.heap.size=s0 at *;refine oneH 5 fun K hK=>?_
  have m1:=hI2.dc.c2;go_simp;refine hK.out _ _ hS2 (fun hHeld=>?_);clear hK K hHeld m1
 all_goals
  refine oneH 8 fun K hK=>?_
  refine step_append_lies _ (by rfl) (.tmp 28) (.tmp 30) 39 (by rfl) (D+1) 62 i0 (.agg #[.string ⟨#[]⟩,.bool false,.slice none 0 0,.int .i64 0,.bool false,.int .i64 0]) 6 72 Tryz.underlying39 hi hz0 hz1 hz2 rfl (by decide) (.slice ap P.length cp) P.length (vK P) (by simp [Act.eval,Act.put]) hI2.fr.op ⟨s0,0,none⟩ 1 1 [.string x,.bool true,.slice au ps.length cu,.int .i64 (bI l),.bool gs,.int .i64 gd] (by simp [Act.eval,Act.put]) rfl hsl (by intro u hu;simp at hu;rcases hu with rfl | rfl | rfl | rfl | rfl | rfl<;>rfl) (by omega) (by unfold maxLen;omega) (by omega) (by have:=hI2.dc.lt;omega) (s0+1) hss.symm ?_;intro g5 cap5 w5 hown5 hgrow5 hat5 hlt5;have hrN:(Value.slice ap P.length cp).ownBlock≠some N:=fun e=>by have:=hold _ (.inr (.inl e));omega
  have hrD:(Value.slice ap P.length cp).ownBlock≠some D:=fun e=>by have:=(hI2.fr.op.lt _ e).1;omega
  have hq:xR (fun b=>D+1<=b/\b<W3.heap.size/\vv.ownBlock≠some b/\(Value.slice ap P.length cp).ownBlock≠some b/\¬ (iv.ownBlock=some b\/mp=some b)) W3 (.slice au ps.length cu) (ps.map fun q=>bI q.2) :=
   hpar.to (fun b hb=>⟨by omega,by have:=hbW.size;omega,fun e=>by have:=hold _ (.inl e);omega,fun e=>by have:=hold _ (.inr (.inl e));omega,fun e=>by rcases e with e | e;have:=hold _ (.inr (.inr (.inl e)));omega;have:=hold _ (.inr (.inr (.inr e)));omega⟩) (fun b hb o v hc=>(hbW.cell (p:=⟨b,o,none⟩) (by show b<N;omega)).trans hc)
  have hfin:=hI2.pushP (q:=(⟨x,true,ps.map fun q=>bI q.2,bI l,gs,gd⟩,.slice au ps.length cu)) hown5 hgrow5 (hat5.imp id (fun e=>e.trans hss)) hq;replace hS2:=hS2.grown hgrow5 hrN;replace hKZ2:=hKZ2.grown hgrow5 hZp;replace hB2:=hB2.grown hgrow5 (by have:=hI2.dc.lt;omega) (fun k e=>by have:=(hI2.fr.op.lt _ e).1;omega);have hdc:=hI2.dc.grown hgrow5 hrD;have m1:=hdc.c2;have mf:=hdc.fz 2;clear hI2 hdc hq;refine hK.out _ _ hS2 (fun hHeld=>?_);clear hK K hHeld;simp only [Act.put,jA,jB,jC];refine tkP 9 (.pointer (some ⟨D,0,none⟩)) hS2 ?_;simp only [Act.put,jA,jB,jC];refine tkP 10 (.pointer (some ⟨D,0,none⟩)) hS2 ?_;simp only [Act.put,jA,jB,jC];refine tkP 11 (.pointer (some ⟨D,2,none⟩)) hS2 ?_;simp only [Act.put,jA,jB,jC];refine oneH 12 fun K hK=>?_
  go_simp;refine hK.out _ _ (hS2.other (by omega) _) (fun hHeld=>?_);clear hK K hHeld m1 mf hS2;refine wpAnyH_done (by kernel_rfl) ?_ _;replace hKZ2:=hKZ2.set (D:=D) (o:=2) (by omega) (.slice (some ⟨g5,0,none⟩) (P.length+1) cap5);replace hB2:=hB2.setCell (p:=⟨D,2,none⟩) (by show Bm<=D;omega) (.slice (some ⟨g5,0,none⟩) (P.length+1) cap5);generalize (World.setCell w5 ⟨D,2,none⟩ _)=W6 at *;have hI3:=hfin.below (bal (.map #[] 0));have m6:=hI3.dc.c6;have mf6:=hI3.dc.fz 6;have hend:=hfin.newP (bal (.map #[] 0)) (World.ownsMap_made _ _ _ _);have hsz6:=hfin.dc.lt;go_wp2
  go_end0
  exact ⟨(hB2.setCell (by show Bm<=D;omega) _).alloc (by rw [jQ];omega) _,.inr (.inr (.inr ⟨hm1,hlt,HS.out,rfl,(hKZ2.set (by omega) _).alloc _,W6.heap.size,.slice (some ⟨g5,0,none⟩) (P.length+1) cap5,P++[(⟨x,true,ps.map fun q=>bI q.2,bI l,gs,gd⟩,.slice au ps.length cu)],by rw [<- World.setCell_alloc_past (hn:=hsz6)];exact hend,by rw [jv rfl,HD.out,List.map_append];rfl⟩))⟩
theorem zdq {Bm:Nat} {w wr:World} {ks:List Tree} {g o j:Nat} (hat:kY (·<Bm) w ks g o) (hg:g<Bm) (hB:Below Bm w wr) (hj:j<ks.length) : ∃ (k:Int) (x:ByteArray) (m:Int) (a:Option Addr) (n c:Nat),wr.cell? ⟨g,o+j*4,none⟩=some (.int .i64 k)/\wr.cell? ⟨g,o+j*4+1,none⟩=some (.string x)/\wr.cell? ⟨g,o+j*4+2,none⟩=some (.int .i64 m)/\wr.cell? ⟨g,o+j*4+3,none⟩=some (.slice a n c)/\kC (·<Bm) wr ks[j] (.agg #[.int .i64 k,.string x,.int .i64 m,.slice a n c]):=by
 have hat':=hat.to (w':=wr) (Q:=(·<Bm)) (fun _ h=>h) (fun b hb o=>hB.cell (p:=⟨b,o,none⟩) hb) hg
 obtain ⟨v,⟨x0,x1,x2,x3,rfl,c0,c1,c2,c3⟩,hl⟩:=hat'.get j hj;obtain ⟨kk,xx,mm,_,he,aa,na,ca,rfl⟩:=hl.shape;injection he with he;simp only [Array.mk.injEq,jq,and_true] at he;obtain ⟨rfl,rfl,rfl,rfl⟩:=he;exact ⟨kk,xx,mm,aa,na,ca,c0,c1,c2,c3,hl⟩
theorem kC.alloc' {Bm:Nat} {w:World} {t:Tree} {v:Value} (h:kC (·<Bm) w t v) (hB:Bm<=w.heap.size) (o:Obj):kC (·<Bm) (w.alloc o) t v :=
 h.to (fun _ h=>h) (fun b hb o'=>((Below.refl w.heap.size w).alloc (jE _) o).cell (p:=⟨b,o',none⟩) (jo hb hB))
theorem zft:∀ {ks:List Tree} (h:InL ks) (j:Nat) (hj:j<ks.length),InT ks[j]
 | [],_,j,hj=>by simp at hj
 | t :: r,h,0,hj=>by unfold InL at h;exact h.1
 | t :: r,h,j+1,hj=>by unfold InL at h;exact zft h.2 j (by simpa using hj)
theorem vIn {D Bm Bd:Nat} {mp:Option Nat} {vv pv iv:Value} {mo:ByteArray} {V:List VarD} {P:List (ProcD × Value)} {is ms ns qs:List ByteArray} (t:Tree) (v:Value) (w:World) (at_:Int) (hv:kC (·<Bm) w t v) (hIn:InT t) (h:DI w D Bm Bd mp vv pv iv mo V P is ms ns qs at_) (h0:0<=at_) (hm:at_+kB t<=1000000) : Calls Tryz.prog 31 #[.pointer (some ⟨D,0,none⟩),v] w fun e w'=>e=.returned (.tuple #[])/\Below Bm w w'/\DI w' D Bm Bd mp vv pv iv mo V P is ms ns qs (at_+kB t):=by
 have c24:=kc25
 match t with
 | .node k x m ks =>
  have ih:∀ i (hi:i<ks.length) (v:Value) (w:World) (at_:Int),kC (·<Bm) w ks[i] v->InT ks[i]->DI w D Bm Bd mp vv pv iv mo V P is ms ns qs at_->0<=at_->at_+kB ks[i]<=1000000 ->
    Calls Tryz.prog 31 #[.pointer (some ⟨D,0,none⟩),v] w fun e w'=>e=.returned (.tuple #[])/\Below Bm w w'/\DI w' D Bm Bd mp vv pv iv mo V P is ms ns qs (at_+kB ks[i]):=fun i hi v w at_ h1 h2 h3 h4 h5=>vIn ks[i] v w at_ h1 h2 h3 h4 h5
  unfold kC at hv;obtain ⟨a,c,rfl,hl,hk⟩:=hv;unfold InT at hIn;obtain ⟨hkk,hin⟩:=hIn;have hcT:kB (.node k x m ks)=1+kA ks:=by unfold kB;omega
  rw [hcT] at hm |-;have hcp:=kX ks;have k1:¬ k=1:=by omega
  have k2:¬ k=2:=by omega
  have k3:¬ k=3:=by omega
  have k4:¬ k=4:=by omega
  have k5:¬ k=5:=by omega
  have hmm:=h.lm;have hdd:=h.ld;have hd:=h.dc.lt;have hI0:=h.below (bal (.cells #[.int .i64 k,.string x,.int .i64 m,.slice a ks.length c] 25));have hI1:=hI0.setAt (at_+1);have hB1:Below Bm w ((w.alloc (.cells #[.int .i64 k,.string x,.int .i64 m,.slice a ks.length c] 25)).setCell ⟨D,7,none⟩ (.int .i64 (at_+1))):=((Below.refl _ _).alloc (by omega) _).setCell (by show Bm<=D;omega) _;have m7:=hI0.dc.c7;have mf:=hI0.dc.fz 7;rw [World.setCell_alloc_past (hn:=hd)] at hI1 hB1;clear hI0 h;go_enter Tryz.func31,Tryz.ntmps31;go_wp2;clear m7 mf;simp only [show (k==1)=false by simpa using k1,show (k==2)=false by simpa using k2,show (k==3)=false by simpa using k3,show (k==4)=false by simpa using k4,show (k==5)=false by simpa using k5];go_loopw [75] (fun t wr=>∃ j:Nat,j<=ks.length/\t=.int .i64 j/\DI wr D Bm Bd mp vv pv iv mo V P is ms ns qs (at_+1+kA (ks.take j))/\Below Bm w wr) (fun t _=>ks.length - (intOf t).toNat)
  case atStart=>exact ⟨0,jz _,rfl,by simpa [kA] using hI1,hB1⟩
  case round =>
   clear hI1 hB1;obtain ⟨j,hj,rfl,hI,hB⟩:=hrel;by_cases hlt:j<ks.length
   ·obtain ⟨g,o,rfl,hg,hat⟩:=hk (by intro e;rw [e] at hlt;simp at hlt);obtain ⟨kk,xx,mm,aa,na,ca,c0,c1,c2,c3,hx⟩:=zdq hat hg hB hlt;have hs1:=cntL_take ks j hlt;have hs2:=fA ks (j+1);have hs3:=kR ks[j];have hs4:=kX (ks.take j);have hsz:=hB.size;have hC:=ih j hlt _ (wr.alloc (.cells #[.int .i64 kk,.string xx,.int .i64 mm,.slice aa na ca] 25)) _ (kC.alloc' hx (by omega) _) (zft hin j hlt) (hI.below (bal _)) (by omega) (by omega);have hgl:g<wr.heap.size:=by have:g<Bm:=hg;omega
    rw [show at_+1+kA (ks.take j)+kB ks[j]=at_+1+kA (ks.take (j+1)) by omega] at hC;clear ih hI hx hk hat
    go_wp2_with (go_at_call 31;refine hC.mono ?_;rintro e w1 ⟨rfl,hb1,hI1⟩);go_roundw
    case rel=>exact ⟨j+1,by omega,by go_num,hI1,(hB.alloc (by omega) _).trans hb1⟩
    case measure=>simp [intOf];omega
   ·rw [jG (by omega)] at hI;go_wp2
    go_end0
    exact ⟨rfl,hB,by rw [show at_+(1+kA ks)=at_+1+kA ks by omega];exact hI⟩
termination_by SizeOf.sizeOf t
decreasing_by exact zdt hi
def VR (Bm:Nat) (w:World) (r:Option (Int × Int)) (G:World->Prop) (e:Ending) (w':World):Prop :=
 Below Bm w w'/\((∃ q,r=some q/\e=.panicked (qS q.1 q.2))\/(r=none/\e=.returned (.tuple #[])/\G w'))
def uO (L:List ByteArray) (x:ByteArray) (kH:Nat) (a:Int):Option (Int × Int):=if qL L x then some (5,a) else if kH<=L.length then some (1,a) else none
theorem zho {L:List ByteArray} {x:ByteArray} {kH:Nat} {a:Int} (h:qL L x=true):uO L x kH a=some (5,a):=by unfold uO;rw [jv h]
theorem zhs {L:List ByteArray} {x:ByteArray} {kH:Nat} {a:Int} (h:qL L x=false) (h2:kH<=L.length):uO L x kH a=some (1,a):=by unfold uO;rw [ju (by simp [h]),jv h2]
theorem zje {L:List ByteArray} {x:ByteArray} {kH:Nat} {a:Int} (h:qL L x=false) (h2:L.length<kH):uO L x kH a=none:=by unfold uO;rw [ju (by simp [h]),ju (by omega)]
theorem ybd {D Bm Bd b0:Nat} {vv pv iv:Value} {mo:ByteArray} {V:List VarD} {P:List (ProcD × Value)} {is ms ns qs:List ByteArray} (x:ByteArray) (l:Int) (v:Value) (w:World) (at_:Int) (hv:kC (·<Bm) w (.node 5 x l []) v) (h:DI w D Bm Bd (some b0) vv pv iv mo V P is ms ns qs at_) (h0:0<=at_) (hm:at_<=1000000) (hx:x.size<=16) (hq:qs.length<=5) : Calls Tryz.prog 31 #[.pointer (some ⟨D,0,none⟩),v] w (VR Bm w (uO qs x 5 at_) fun w'=>DI w' D Bm Bd (some b0) vv pv iv mo V P is ms ns (qs++[x]) (at_+1)):=by
 unfold kC at hv;obtain ⟨a,c,rfl,_,_⟩:=hv;simp only [je] at *;have hb0:=h.lp b0 rfl;have hb1:=(h.op b0 rfl).lt;have c24:=kc25;have hmm:=h.lm;have hdd:=h.ld;have hd:=h.dc.lt;have hI0:=h.below (bal (.cells #[.int .i64 5,.string x,.int .i64 l,.slice a 0 c] 25));have hI:DI (w.alloc (.cells #[.int .i64 5,.string x,.int .i64 l,.slice a 0 c] 25)).drew D Bm Bd (some b0) vv pv iv mo V P is ms ns qs at_:=hI0.below ⟨rfl,rfl,rfl,jE _,fun _ _=>rfl⟩;clear hI0;have hQ:Q4 w.heap.size (.int .i64 5) (.string x) (.int .i64 l) (.slice a 0 c) (w.alloc (.cells #[.int .i64 5,.string x,.int .i64 l,.slice a 0 c] 25)).drew:=⟨by simp,by simp,by simp,by simp⟩
 have hB:Below w.heap.size w (w.alloc (.cells #[.int .i64 5,.string x,.int .i64 l,.slice a 0 c] 25)).drew:=(bal _).drew;have hS:(w.alloc (.cells #[.int .i64 5,.string x,.int .i64 l,.slice a 0 c] 25)).drew.cell? ⟨D,6,none⟩=some (.map (some b0))/\(w.alloc (.cells #[.int .i64 5,.string x,.int .i64 l,.slice a 0 c] 25)).drew.cell? ⟨w.heap.size,1,none⟩=some (.string x):=⟨hI.dc.c6,hQ.2.1⟩
 go_enter Tryz.func31,Tryz.ntmps31;go_wp2;refine wp_region_held_drew (S:=fun W=>W.cell? ⟨D,6,none⟩=some (.map (some b0))/\W.cell? ⟨w.heap.size,1,none⟩=some (.string x)) (by kernel_rfl) hS (fun hHeld=>?_);clear hHeld;generalize (w.alloc (.cells #[.int .i64 5,.string x,.int .i64 l,.slice a 0 c] 25)).drew=W at *;refine tkP 0 (.pointer (some ⟨D,0,none⟩)) hS ?_;simp only [Act.put,jA,jB,jC];refine tkP 1 (.pointer (some ⟨D,0,none⟩)) hS ?_;simp only [Act.put,jA,jB,jC];refine tkP 2 (.pointer (some ⟨D,0,none⟩)) hS ?_;simp only [Act.put,jA,jB,jC];refine tkP 3 (.pointer (some ⟨D,6,none⟩)) hS ?_;simp only [Act.put,jA,jB,jC];refine tkP 4 (.map (some b0)) hS ?_;simp only [Act.put,jA,jB,jC];refine tkP 5 (.pointer (some ⟨w.heap.size,1,none⟩)) hS ?_;simp only [Act.put,jA,jB,jC];refine tkP 6 (.string x) hS ?_;simp only [Act.put,jA,jB,jC];refine oneH 7 fun K hK=>?_
 go_simp;go_at_call 48;refine (zcb D b0 qs x 5 at_ W hI.dc.c7 (hI.op b0 rfl) hI.aq (by omega) (by omega) (by omega)).mono ?_;rintro e W1 (⟨hm1,rfl,hb⟩|⟨hm1,hle,rfl,hb⟩|⟨hm1,hlt,rfl,hom,ham,hg⟩);·go_wp2;exact ⟨rfl,(hB.trans (hb.mono hB.size)).mono (by omega),.inl ⟨_,zho hm1,rfl⟩⟩
 ·go_wp2;exact ⟨rfl,(hB.trans (hb.mono hB.size)).mono (by omega),.inl ⟨_,zhs hm1 hle,rfl⟩⟩
 have hI1:=hI.enterP hom ham hg;go_wp2;replace hQ:=Q4.grown hQ hg (by simp;omega);have hB1:Below Bm w W1:=(hB.mono (by omega)).grown hg (by have:=hB.size;omega) (fun k e=>by cases e;omega);clear hB hom ham hg hI;refine hK.out _ _ ⟨hI1.dc.c6,hQ.2.1⟩ (fun hHeld=>?_);clear hK K hHeld;refine wpAnyH_done (by kernel_rfl) ?_ _;obtain ⟨q0,q1,q2,q3⟩:=id hQ;have m7:=hI1.dc.c7;have mf:=hI1.dc.fz 7;have hI2:=hI1.setAt (at_+1);have hB2:=hB1.setCell (p:=⟨D,7,none⟩) (by show Bm<=D;omega) (.int .i64 (at_+1));clear hI1 hB1;go_wp2;clear m7 mf;go_loopw [75] (fun t wr=>t=.int .i64 0/\wr=W1.setCell ⟨D,7,none⟩ (.int .i64 (at_+1))) (fun t _=>0)
 case atStart=>exact ⟨rfl,rfl⟩
 case round =>
  obtain ⟨rfl,rfl⟩:=hrel;go_wp2
  go_end0
  exact ⟨hB2,.inr ⟨zje hm1 hlt,rfl,hI2⟩⟩
theorem ybl {D Bm Bd:Nat} {mp:Option Nat} {vv pv iv:Value} {mo:ByteArray} {V:List VarD} {P:List (ProcD × Value)} {is ms ns qs:List ByteArray} (x:ByteArray) (l:Int) (v:Value) (w:World) (at_:Int) (hv:kC (·<Bm) w (.node 2 x l []) v) (h:DI w D Bm Bd mp vv pv iv mo V P is ms ns qs at_) (h0:0<=at_) (hm:at_<=1000000) (hx:x.size<=16) (hq:ms.length<=6) (his:is.length<=6) : Calls Tryz.prog 31 #[.pointer (some ⟨D,0,none⟩),v] w (VR Bm w (uO ms x 6 at_) fun w'=>∃ iv',DI w' D Bm Bd mp vv pv iv' mo V P (is++[x]) (ms++[x]) ns qs (at_+1)):=by
 obtain ⟨i0,hi,hz0,hz1,hz2⟩:=info_parts zod;unfold kC at hv;obtain ⟨a,c,rfl,_,_⟩:=hv;simp only [je] at *;have c24:=kc25;have hmm:=h.lm;have hdd:=h.ld;have hd:=h.dc.lt;have hI0:=h.below (bal (.cells #[.int .i64 2,.string x,.int .i64 l,.slice a 0 c] 25));have hI:DI (w.alloc (.cells #[.int .i64 2,.string x,.int .i64 l,.slice a 0 c] 25)).drew D Bm Bd mp vv pv iv mo V P is ms ns qs at_:=hI0.below ⟨rfl,rfl,rfl,jE _,fun _ _=>rfl⟩;clear hI0;have hQ:Q4 w.heap.size (.int .i64 2) (.string x) (.int .i64 l) (.slice a 0 c) (w.alloc (.cells #[.int .i64 2,.string x,.int .i64 l,.slice a 0 c] 25)).drew:=⟨by simp,by simp,by simp,by simp⟩
 have hB:Below w.heap.size w (w.alloc (.cells #[.int .i64 2,.string x,.int .i64 l,.slice a 0 c] 25)).drew:=(bal _).drew;have hS:(w.alloc (.cells #[.int .i64 2,.string x,.int .i64 l,.slice a 0 c] 25)).drew.cell? ⟨D,4,none⟩=some (.map (some Bm))/\(w.alloc (.cells #[.int .i64 2,.string x,.int .i64 l,.slice a 0 c] 25)).drew.cell? ⟨w.heap.size,1,none⟩=some (.string x):=⟨hI.dc.c4,hQ.2.1⟩
 go_enter Tryz.func31,Tryz.ntmps31;go_wp2;refine wp_region_held_drew (S:=fun W=>W.cell? ⟨D,4,none⟩=some (.map (some Bm))/\W.cell? ⟨w.heap.size,1,none⟩=some (.string x)) (by kernel_rfl) hS (fun hHeld=>?_);clear hHeld;generalize (w.alloc (.cells #[.int .i64 2,.string x,.int .i64 l,.slice a 0 c] 25)).drew=W at *;refine tkP 0 (.pointer (some ⟨D,0,none⟩)) hS ?_;simp only [Act.put,jA,jB,jC];refine tkP 1 (.pointer (some ⟨D,0,none⟩)) hS ?_;simp only [Act.put,jA,jB,jC];refine tkP 2 (.pointer (some ⟨D,0,none⟩)) hS ?_;simp only [Act.put,jA,jB,jC];refine tkP 3 (.pointer (some ⟨D,4,none⟩)) hS ?_;simp only [Act.put,jA,jB,jC];refine tkP 4 (.map (some Bm)) hS ?_;simp only [Act.put,jA,jB,jC];refine tkP 5 (.pointer (some ⟨w.heap.size,1,none⟩)) hS ?_;simp only [Act.put,jA,jB,jC];refine tkP 6 (.string x) hS ?_;simp only [Act.put,jA,jB,jC];refine oneH 7 fun K hK=>?_
 go_simp;go_at_call 48;refine (zcb D Bm ms x 6 at_ W hI.dc.c7 hI.om hI.am (by omega) (by omega) (by omega)).mono ?_;rintro e W1 (⟨hm1,rfl,hb⟩|⟨hm1,hle,rfl,hb⟩|⟨hm1,hlt,rfl,hom,ham,hg⟩);·go_wp2;exact ⟨rfl,(hB.trans (hb.mono hB.size)).mono (by omega),.inl ⟨_,zho hm1,rfl⟩⟩
 ·go_wp2;exact ⟨rfl,(hB.trans (hb.mono hB.size)).mono (by omega),.inl ⟨_,zhs hm1 hle,rfl⟩⟩
 have hI1:=hI.enterM hom ham hg;go_wp2;replace hQ:=Q4.grown hQ hg (by simp;omega);have hB1:Below Bm w W1:=(hB.mono (by omega)).grown hg (by have:=hB.size;omega) (fun k e=>by cases e;omega);clear hB hom ham hg hI;refine hK.out _ _ ⟨hI1.dc.c4,hQ.2.1⟩ (fun hHeld=>?_);clear hK K hHeld;refine wpAnyH_done (by kernel_rfl) ?_ _;obtain ⟨q0,q1,q2,q3⟩:=id hQ;have hI2:DI W1.drew D Bm Bd mp vv pv iv mo V P is (ms++[x]) ns qs at_:=hI1.below ⟨rfl,rfl,rfl,jE _,fun _ _=>rfl⟩;have hB2:=hB1.drew;have hS2:Q4 w.heap.size (.int .i64 2) (.string x) (.int .i64 l) (.slice a 0 c) W1.drew:=hQ;have hvb:∀ k,iv.ownBlock=some k->k<w.heap.size:=fun k e=>(h.oi.lt _ e).2
 clear hI1 hB1 hQ h;go_wp2;clear q0 q1 q2 q3;refine wp_region_held_drew (S:=fun W=>Q4 w.heap.size (.int .i64 2) (.string x) (.int .i64 l) (.slice a 0 c) W) (by kernel_rfl) hS2 (fun hHeld=>?_);clear hHeld;generalize W1.drew=W2 at *;generalize w.heap.size=N at *;obtain ⟨av,cv,rfl,_,_⟩:=lexs.own_shape hI2.oi;refine tkP 0 (.pointer (some ⟨D,0,none⟩)) hS2 ?_;simp only [Act.put,jA,jB,jC];refine tkP 1 (.pointer (some ⟨D,0,none⟩)) hS2 ?_;simp only [Act.put,jA,jB,jC];refine tkP 2 (.pointer (some ⟨D,0,none⟩)) hS2 ?_;simp only [Act.put,jA,jB,jC];refine tkP 3 (.pointer (some ⟨D,3,none⟩)) hS2 ?_;simp only [Act.put,jA,jB,jC];refine tkP 5 (.pointer (some ⟨N,1,none⟩)) hS2 ?_;simp only [Act.put,jA,jB,jC];refine tkP 6 (.string x) hS2 ?_;simp only [Act.put,jA,jB,jC];refine wpAnyH_ready (rs:=[4,7]) (by kernel_rfl) (by simp) ?_;refine AllReadyH.cons rfl (fun K hK=>?_) (AllReadyH.cons rfl (fun K hK=>?_) AllReadyH.nil)
 focus
  have m1:=hI2.dc.c3;go_simp;refine hK.out _ _ hS2 (fun hHeld=>?_);clear hK K hHeld m1;refine oneH 7 fun K hK=>?_
  go_simp;have hsl:∀ j u,[Value.string x][j]?=some u->(W2.alloc (.cells #[.string x] 9)).cell? ((⟨W2.heap.size,0,none⟩:Addr).add j)=some u:=zag _ _ _ rfl;have hss:W2.heap.size+1=(W2.alloc (.cells #[.string x] 9)).heap.size:=by simp
  replace hB2:=hB2.alloc (by have:=hI2.dc.lt;omega) (.cells #[.string x] 9);replace hI2:=hI2.below (bal (.cells #[.string x] 9));replace hS2:=Q4.alloc hS2 (.cells #[.string x] 9);refine hK.out _ _ hS2 (fun hHeld=>?_);clear hK K hHeld;generalize W2.alloc (.cells #[.string x] 9)=W3 at *;generalize W2.heap.size=s0 at *
 rotate_left
 focus
  go_simp;have hsl:∀ j u,[Value.string x][j]?=some u->(W2.alloc (.cells #[.string x] 9)).cell? ((⟨W2.heap.size,0,none⟩:Addr).add j)=some u:=zag _ _ _ rfl;have hss:W2.heap.size+1=(W2.alloc (.cells #[.string x] 9)).heap.size:=by simp
  replace hB2:=hB2.alloc (by have:=hI2.dc.lt;omega) (.cells #[.string x] 9);replace hI2:=hI2.below (bal (.cells #[.string x] 9));replace hS2:=Q4.alloc hS2 (.cells #[.string x] 9);refine hK.out _ _ hS2 (fun hHeld=>?_);clear hK K hHeld;generalize W2.alloc (.cells #[.string x] 9)=W3 at *;generalize W2.heap.size=s0 at *;refine oneH 4 fun K hK=>?_
  have m1:=hI2.dc.c3;go_simp;refine hK.out _ _ hS2 (fun hHeld=>?_);clear hK K hHeld m1
 all_goals
  refine oneH 8 fun K hK=>?_
  refine step_append_lies _ (by rfl) (.tmp 38) (.tmp 41) 44 (by rfl) (D+1) 9 i0 (.string ⟨#[]⟩) 1 16 Tryz.underlying44 hi hz0 hz1 hz2 rfl (by decide) (.slice av is.length cv) is.length (yF is) (by simp [Act.eval,Act.put]) hI2.oi ⟨s0,0,none⟩ 1 1 [.string x] (by simp [Act.eval,Act.put]) rfl hsl (zpy x) (by omega) (by unfold maxLen;omega) (by omega) (by have:=hI2.dc.lt;omega) (s0+1) hss.symm ?_;intro g5 cap5 w5 hown5 hgrow5 hat5 hlt5;have hrN:(Value.slice av is.length cv).ownBlock≠some N:=fun e=>by have:=hvb _ e;omega
  have hrD:(Value.slice av is.length cv).ownBlock≠some D:=fun e=>by have:=(hI2.oi.lt _ e).1;omega
  have hfin:=hI2.pushI (x:=x) hown5 hgrow5 (hat5.imp id (fun e=>e.trans hss));replace hS2:=Q4.grown hS2 hgrow5 hrN;replace hB2:=hB2.grown hgrow5 (by have:=hI2.dc.lt;omega) (fun k e=>by have:=(hI2.oi.lt _ e).1;omega);have hdc:=hI2.dc.grown hgrow5 hrD;have m1:=hdc.c3;have mf:=hdc.fz 3;clear hI2 hdc;refine hK.out _ _ hS2 (fun hHeld=>?_);clear hK K hHeld;simp only [Act.put,jA,jB,jC];refine tkP 9 (.pointer (some ⟨D,0,none⟩)) hS2 ?_;simp only [Act.put,jA,jB,jC];refine tkP 10 (.pointer (some ⟨D,3,none⟩)) hS2 ?_;simp only [Act.put,jA,jB,jC];refine oneH 11 fun K hK=>?_
  go_simp;refine hK.out _ _ (Q4.other (by omega) hS2 _ _) (fun hHeld=>?_);clear hK K hHeld m1 mf;replace hB2:=hB2.setCell (p:=⟨D,3,none⟩) (by show Bm<=D;omega) (.slice (some ⟨g5,0,none⟩) (is.length+1) cap5);replace hS2:=Q4.other (M:=D) (o:=3) (by omega) hS2 (.slice (some ⟨g5,0,none⟩) (is.length+1) cap5);refine wpAnyH_done (by kernel_rfl) ?_ _;obtain ⟨q0,q1,q2,q3⟩:=id hS2;have m7:=hfin.dc.c7;have mf:=hfin.dc.fz 7;generalize w5.setCell ⟨D,3,none⟩ (.slice (some ⟨g5,0,none⟩) (is.length+1) cap5)=W5 at *;have hI6:=hfin.setAt (at_+1);have hB6:=hB2.setCell (p:=⟨D,7,none⟩) (by show Bm<=D;omega) (.int .i64 (at_+1));clear hfin hB2;go_wp2;clear m7 mf;go_loopw [75] (fun t wr=>t=.int .i64 0/\wr=W5.setCell ⟨D,7,none⟩ (.int .i64 (at_+1))) (fun t _=>0)
  case atStart=>exact ⟨rfl,rfl⟩
  case round =>
   obtain ⟨rfl,rfl⟩:=hrel;go_wp2
   go_end0
   exact ⟨hB6,.inr ⟨zje hm1 hlt,rfl,_,hI6⟩⟩
def onP {α:Type} (p:Bool) (x:α):List α:=if p then [x] else []
def gX (ns:List ByteArray) (x:ByteArray) (n:Option Int) (a:Int):Option (Int × Int):=if qL ns x then some (5,a) else if 20<=ns.length then some (1,a) else gQ n a
def uQ (ns:List ByteArray) (x:ByteArray) (ps:List (ByteArray × Bool)) (a:Int):Option (Int × Int):=if qL ns x then some (5,a) else if 20<=ns.length then some (1,a) else if 5<ps.length then some (1,a) else uT [] ps (a+1)
theorem zwq (x:ByteArray) (p l:Bool) (n:Option Int):InL (Kid.var x p l n).kids:=by
 cases n with
 | none=>unfold Kid.kids InL;trivial
 | some k=>unfold Kid.kids InL InL;exact ⟨zai (.inr (by omega)),trivial⟩
theorem rangeF_ok {n:Option Int} {a:Int} (h:∀ k,n=some k->1<=k/\k<=64):gQ n a=none:=by
 cases n with
 | none=>rfl
 | some k=>have:=h k rfl;show (if k<1\/64<k then _ else _)=_;rw [ju (by omega)]
theorem zqf {n:Option Int} {a:Int} (h:∃ k,n=some k/\(k<1\/64<k)):gQ n a=some (6,a):=by
 obtain ⟨k,rfl,h⟩:=h;show (if k<1\/64<k then _ else _)=_;rw [jv h]
theorem zzn {ns:List ByteArray} {x:ByteArray} {n:Option Int} {a:Int} (h:qL ns x=true):gX ns x n a=some (5,a):=by unfold gX;rw [jv h]
theorem zze {ns:List ByteArray} {x:ByteArray} {n:Option Int} {a:Int} (h:qL ns x=false) (h2:20<=ns.length):gX ns x n a=some (1,a):=by unfold gX;rw [ju (by simp [h]),jv h2]
theorem zmw {ns:List ByteArray} {x:ByteArray} {n:Option Int} {a:Int} (h:qL ns x=false) (h2:ns.length<20):gX ns x n a=gQ n a:=by unfold gX;rw [ju (by simp [h]),ju (by omega)]
theorem zx7 {ns:List ByteArray} {x:ByteArray} {ps:List (ByteArray × Bool)} {a:Int} (h:qL ns x=true):uQ ns x ps a=some (5,a):=by unfold uQ;rw [jv h]
theorem zww {ns:List ByteArray} {x:ByteArray} {ps:List (ByteArray × Bool)} {a:Int} (h:qL ns x=false) (h2:20<=ns.length):uQ ns x ps a=some (1,a):=by unfold uQ;rw [ju (by simp [h]),jv h2]
theorem zxn {ns:List ByteArray} {x:ByteArray} {ps:List (ByteArray × Bool)} {a:Int} (h:qL ns x=false) (h2:ns.length<20) (h3:5<ps.length):uQ ns x ps a=some (1,a):=by unfold uQ;rw [ju (by simp [h]),ju (by omega),jv h3]
theorem zvt {ns:List ByteArray} {x:ByteArray} {ps:List (ByteArray × Bool)} {a:Int} (h:qL ns x=false) (h2:ns.length<20) (h3:ps.length<=5):uQ ns x ps a=uT [] ps (a+1):=by unfold uQ;rw [ju (by simp [h]),ju (by omega),ju (by omega)]
theorem ybf {D Bm Bd:Nat} {mp:Option Nat} {vv pv iv:Value} {mo:ByteArray} {V:List VarD} {P:List (ProcD × Value)} {is ms ns qs:List ByteArray} (x:ByteArray) (p l:Bool) (n:Option Int) (v:Value) (w:World) (at_:Int) (hv:kC (·<Bm) w (Kid.var x p l n).tree v) (h:DI w D Bm Bd mp vv pv iv mo V P is ms ns qs at_) (h0:0<=at_) (hm:at_+kB (Kid.var x p l n).tree<=1000000) (hx:x.size<=16) (hns:ns.length<=20) (hV:V.length<=20) : Calls Tryz.prog 31 #[.pointer (some ⟨D,0,none⟩),v] w (VR Bm w (gX ns x n at_) fun w'=>∃ vv',DI w' D Bm Bd mp vv' pv iv mo (V++onP p (vD x p l n)) P is ms (ns++[x]) qs (at_+kB (Kid.var x p l n).tree)):=by
 have c24:=kc25;have hv0:=hv;rw [Kid.tree_is] at hv;unfold kC at hv;obtain ⟨a,c,rfl,hl,hk⟩:=hv;have hin:=zwq x p l n;have hcT:kB (Kid.var x p l n).tree=1+kA (Kid.var x p l n).kids:=by rw [Kid.tree_is];unfold kB;omega
 rw [hcT] at hm |-;have hmm:=h.lm;have hdd:=h.ld;have hd:=h.dc.lt;have hov:=(dY h).2.1;have hlv:∀ k,vv.ownBlock=some k->k<w.heap.size:=fun k e=>(h.fr.ov.lt _ e).2
 have hA:=zws x p l n _ (w.alloc (.cells #[.int .i64 (Kid.var x p l n).kind,.string (Kid.var x p l n).text,.int .i64 (Kid.var x p l n).num,.slice a (Kid.var x p l n).kids.length c] 25)) (kC.alloc' hv0 (by omega) _) (h.below (bal _)) hx hns hV w.heap.size (by simp) hd (fun e=>by have:=hlv _ e;omega);simp only [Kid.kind,Kid.text] at *;have hcp:=kX (Kid.var x p l n).kids;generalize (Kid.var x p l n).num=m at *;generalize (Kid.var x p l n).kids=ks at *;have hB0:Below Bm w (w.alloc (.cells #[.int .i64 3,.string x,.int .i64 m,.slice a ks.length c] 25)):=(Below.refl _ _).alloc (by omega) _;clear hv0 h;go_enter Tryz.func31,Tryz.ntmps31;go_wp2_with (fail);refine hA.mono ?_;rintro e w1 ⟨hb1,(⟨hm1,rfl⟩|⟨hm1,hle,rfl⟩|⟨hm1,hlt,hr,rfl⟩|⟨hm1,hlt,hr,rfl,hkz,vv',hI1⟩)⟩;·go_wp2;exact ⟨rfl,hB0.trans hb1,.inl ⟨_,zzn hm1,rfl⟩⟩
 ·go_wp2;exact ⟨rfl,hB0.trans hb1,.inl ⟨_,zze hm1 hle,rfl⟩⟩
 ·go_wp2;exact ⟨rfl,hB0.trans hb1,.inl ⟨_,(zmw hm1 hlt).trans (zqf hr),rfl⟩⟩
 have q3:w1.cell? ⟨w.heap.size,3,none⟩=some (.slice a ks.length c):=(jM (a:=⟨w.heap.size,3,none⟩) hkz.eq).trans (by simp);have HR:Hid (gX ns x n at_=none):=(zmw hm1 hlt).trans (rangeF_ok hr);replace hI1:DI w1 D Bm Bd mp vv' pv iv mo (V++onP p (vD x p l n)) P is ms (ns++[x]) qs at_:=hI1;have m7:=hI1.dc.c7;have mf:=hI1.dc.fz 7;have hI2:=hI1.setAt (at_+1);have hB2:=(hB0.trans hb1).setCell (p:=⟨D,7,none⟩) (by show Bm<=D;omega) (.int .i64 (at_+1));clear hI1 hA hb1 hB0 hr hkz;go_wp2;clear m7 mf q3;go_loopw [75] (fun t wr=>∃ j:Nat,j<=ks.length/\t=.int .i64 j/\DI wr D Bm Bd mp vv' pv iv mo (V++onP p (vD x p l n)) P is ms (ns++[x]) qs (at_+1+kA (ks.take j))/\Below Bm w wr) (fun t _=>ks.length - (intOf t).toNat)
 case atStart=>exact ⟨0,jz _,rfl,by simpa [kA] using hI2,hB2⟩
 case round =>
  clear hI2 hB2;obtain ⟨j,hj,rfl,hI,hB⟩:=hrel;by_cases hlt:j<ks.length
  ·obtain ⟨g,o,rfl,hg,hat⟩:=hk (by intro e;rw [e] at hlt;simp at hlt);obtain ⟨kk,xx,mm,aa,na,ca,c0,c1,c2,c3,hx⟩:=zdq hat hg hB hlt;have hs1:=cntL_take ks j hlt;have hs2:=fA ks (j+1);have hs3:=kR ks[j];have hs4:=kX (ks.take j);have hsz:=hB.size;have hC:=vIn ks[j] _ (wr.alloc (.cells #[.int .i64 kk,.string xx,.int .i64 mm,.slice aa na ca] 25)) _ (kC.alloc' hx (by omega) _) (zft hin j hlt) (hI.below (bal _)) (by omega) (by omega);have hgl:g<wr.heap.size:=by have:g<Bm:=hg;omega
   rw [show at_+1+kA (ks.take j)+kB ks[j]=at_+1+kA (ks.take (j+1)) by omega] at hC;clear hI hx hk hat
   go_wp2_with (go_at_call 31;refine hC.mono ?_;rintro e w1 ⟨rfl,hb1,hI1⟩);go_roundw
   case rel=>exact ⟨j+1,by omega,by go_num,hI1,(hB.alloc (by omega) _).trans hb1⟩
   case measure=>simp [intOf];omega
  ·rw [jG (by omega)] at hI;go_wp2
   go_end0
   exact ⟨hB,.inr ⟨HR.out,rfl,vv',by rw [show at_+(1+kA ks)=at_+1+kA ks by omega];exact hI⟩⟩
/-! of a procedure -/
theorem zsk {ps:List (ByteArray × Bool)} {j:Nat} (hj:j<ps.length) (a:Int) (r:Option (Int × Int)) (h:r=uT ((ps.take j).map (·.1)) (ps.drop j) a) : r=match uO ((ps.take j).map (·.1)) ps[j].1 5 a with | some e=>some e | none=>uT ((ps.take (j+1)).map (·.1)) (ps.drop (j+1)) (a+1):=by
 rw [h,List.drop_eq_getElem_cons hj];have e:(ps.take (j+1)).map (·.1)=(ps.take j).map (·.1)++[ps[j].1]:=by rw [List.take_succ_eq_append_getElem hj,List.map_append];rfl
 rw [e];unfold uO;show (if _ then _ else _)=_;split;·rfl
 ·split<;>rfl
theorem zlp:∀ (ps:List (ByteArray × Bool)),kA (ps.map zL)=ps.length
 | []=>rfl
 | q :: r=>by
  show kB (zL q)+kA (r.map zL)=((r.length+1:Nat):Int)
  rw [zlp r];show kA []+1+(r.length:Int)=_;unfold kA;omega
theorem zj2 (ps:List (ByteArray × Bool)) (b:Tree) (j:Nat) (hj:j<=ps.length):kA ((ps.map zL++[b]).take j)=j:=by
 rw [List.take_append_of_le_length (by simpa using hj),<- List.map_take,zlp,List.length_take];omega
theorem yaz {D Bm Bd:Nat} {mp:Option Nat} {vv pv iv:Value} {mo:ByteArray} {V:List VarD} {P:List (ProcD × Value)} {is ms ns qs:List ByteArray} (x:ByteArray) (p l:Bool) (gv:Option Bool) (ps:List (ByteArray × Bool)) (b:Tree) (v:Value) (w:World) (at_:Int) (hv:kC (·<Bm) w (Kid.proc x p l gv ps b).tree v) (h:DI w D Bm Bd mp vv pv iv mo V P is ms ns qs at_) (h0:0<=at_) (hm:at_+kB (Kid.proc x p l gv ps b).tree<=1000000) (hgood:(Kid.proc x p l gv ps b).good) (hns:ns.length<=20) (hP:P.length<=20) (hps:ps.length<=1000) : Calls Tryz.prog 31 #[.pointer (some ⟨D,0,none⟩),v] w (VR Bm w (uQ ns x ps at_) fun w'=>∃ b0 pv' P' qs',DI w' D Bm Bd (some b0) vv pv' iv mo V P' is ms (ns++[x]) qs' (at_+kB (Kid.proc x p l gv ps b).tree)/\P'.map (·.1)=P.map (·.1)++onP p (zH x p l gv ps)):=by
 have c24:=kc25;obtain ⟨hx,hpsz,hInT⟩:=hgood;have hv0:=hv;rw [Kid.tree_is] at hv;unfold kC at hv;obtain ⟨a,c,rfl,hl,hk⟩:=hv;have hcT:kB (Kid.proc x p l gv ps b).tree=1+kA (Kid.proc x p l gv ps b).kids:=by rw [Kid.tree_is];unfold kB;omega
 rw [hcT] at hm |-;have hmm:=h.lm;have hdd:=h.ld;have hd:=h.dc.lt;have hlv:∀ k,pv.ownBlock=some k->k<w.heap.size:=fun k e=>(h.fr.op.lt _ e).2
 have hA:=zuv x p l gv ps b _ (w.alloc (.cells #[.int .i64 (Kid.proc x p l gv ps b).kind,.string (Kid.proc x p l gv ps b).text,.int .i64 (Kid.proc x p l gv ps b).num,.slice a (Kid.proc x p l gv ps b).kids.length c] 25)) (kC.alloc' hv0 (by omega) _) (h.below (bal _)) hx hns hP hps hInT w.heap.size (by simp) hd (fun e=>by have:=hlv _ e;omega);have hks:(Kid.proc x p l gv ps b).kids=ps.map zL++[b]:=rfl;simp only [Kid.kind,Kid.text] at *;have hcp:=kX (Kid.proc x p l gv ps b).kids;generalize (Kid.proc x p l gv ps b).num=m at *;generalize (Kid.proc x p l gv ps b).kids=ks at *;have hkl:ks.length=ps.length+1:=by rw [hks];simp
 have Hks:Hid (ks=ps.map zL++[b]):=hks;have Hkl:Hid (ks.length=ps.length+1):=hkl;have hB0:Below Bm w (w.alloc (.cells #[.int .i64 4,.string x,.int .i64 m,.slice a ks.length c] 25)):=(Below.refl _ _).alloc (by omega) _;clear hv0 h hks hkl;go_enter Tryz.func31,Tryz.ntmps31;go_wp2_with (fail);refine hA.mono ?_;rintro e w1 ⟨hb1,(⟨hm1,rfl⟩|⟨hm1,hle,rfl⟩|⟨hm1,hlt,hr,rfl⟩|⟨hm1,hlt,hr,rfl,hkz,b0,pv',P',hI1,hPP⟩)⟩;·go_wp2;exact ⟨rfl,hB0.trans hb1,.inl ⟨_,zx7 hm1,rfl⟩⟩
 ·go_wp2;exact ⟨rfl,hB0.trans hb1,.inl ⟨_,zww hm1 hle,rfl⟩⟩
 ·go_wp2;exact ⟨rfl,hB0.trans hb1,.inl ⟨_,zxn hm1 hlt hr,rfl⟩⟩
 have q3:w1.cell? ⟨w.heap.size,3,none⟩=some (.slice a ks.length c):=(jM (a:=⟨w.heap.size,3,none⟩) hkz.eq).trans (by simp);have HR:Hid (uQ ns x ps at_=uT [] ps (at_+1)):=zvt hm1 hlt hr;have HPP:Hid (P'.map (·.1)=P.map (·.1)++onP p (zH x p l gv ps)):=hPP
 have m7:=hI1.dc.c7;have mf:=hI1.dc.fz 7;have hI2:=hI1.setAt (at_+1);have hB2:=(hB0.trans hb1).setCell (p:=⟨D,7,none⟩) (by show Bm<=D;omega) (.int .i64 (at_+1));clear hI1 hA hb1 hB0 hkz hPP;obtain ⟨R,HRR⟩:∃ R,Hid (uQ ns x ps at_=R):=⟨_,rfl⟩
 replace HR:Hid (R=uT [] ps (at_+1)):=HRR.out.symm.trans HR.out;go_wp2;clear m7 mf q3;go_loopw [75] (fun t wr=>∃ j:Nat,j<=ks.length/\t=.int .i64 j/\DI wr D Bm Bd (some b0) vv pv' iv mo V P' is ms (ns++[x]) ((ps.take j).map (·.1)) (at_+1+kA (ks.take j))/\Below Bm w wr/\Hid (R=uT ((ps.take j).map (·.1)) (ps.drop j) (at_+1+j))) (fun t _=>ks.length - (intOf t).toNat)
 case atStart=>exact ⟨0,jz _,rfl,by simpa [kA] using hI2,hB2,by show _=_;rw [HR.out];simp⟩
 case round =>
  clear hI2 hB2 HR;obtain ⟨j,hj,rfl,hI,hB,HR⟩:=hrel;by_cases hlt:j<ks.length
  ·obtain ⟨g,o,rfl,hg,hat⟩:=hk (by intro e;rw [e] at hlt;simp at hlt);obtain ⟨kk,xx,mm,aa,na,ca,c0,c1,c2,c3,hx⟩:=zdq hat hg hB hlt;have hs1:=cntL_take ks j hlt;have hs2:=fA ks (j+1);have hs3:=kR ks[j];have hs4:=kX (ks.take j);have hsz:=hB.size;have hgl:g<wr.heap.size:=by have:g<Bm:=hg;omega
   have hlk:=Hkl.out;by_cases hp:j<ps.length
   ·have hkj:ks[j]=.node 5 ps[j].1 (bI ps[j].2) []:=by simp only [Hks.out];rw [List.getElem_append_left (by simpa using hp)];simp [zL]
    have hn1:kA (ks.take j)=j:=by rw [Hks.out];exact zj2 ps b j (by omega)
    have hn2:kA (ks.take (j+1))=j+1:=by rw [Hks.out,zj2 ps b (j+1) (by omega)];omega
    rw [hkj] at hx;rw [hn1] at hI;have hC:=ybd ps[j].1 _ _ (wr.alloc (.cells #[.int .i64 kk,.string xx,.int .i64 mm,.slice aa na ca] 25)) _ (kC.alloc' hx (by omega) _) (hI.below (bal _)) (by omega) (by omega) (hpsz _ (jH hp)) (by simp;omega);have HS:=zsk hp (at_+1+j) R HR.out;have HT:Hid ((ps.take (j+1)).map (·.1)=(ps.take j).map (·.1)++[ps[j].1]):=by show _=_;rw [List.take_succ_eq_append_getElem hp,List.map_append];rfl
    have HN:Hid (kA (ks.take (j+1))=j+1):=hn2;clear hI hx hk hat hlk hn1 hn2 HR;generalize ps[j].1=y at *;generalize uO ((ps.take j).map (·.1)) y 5 (at_+1+j)=E at *
    cases E with
    | some q =>
     have HE:Hid (R=some q):=HS;clear HS;go_wp2_with (fail);refine hC.mono ?_;rintro e w2 ⟨hb2,(⟨q',e1,rfl⟩|⟨e1,_⟩)⟩;·cases e1;go_wp2;exact ⟨rfl,(hB.alloc (by omega) _).trans hb2,.inl ⟨q,HRR.out.trans HE.out,rfl⟩⟩
     ·cases e1
    | none =>
     have HE:Hid (R=uT ((ps.take (j+1)).map (·.1)) (ps.drop (j+1)) (at_+1+j+1)):=HS
     clear HS;go_wp2_with (fail);refine hC.mono ?_;rintro e w2 ⟨hb2,(⟨q',e1,_⟩|⟨_,rfl,hI2⟩)⟩;·cases e1
     go_wp2;go_roundw
     case rel=>exact ⟨j+1,by omega,by go_num,by rw [HN.out,HT.out,show at_+1+((j:Int)+1)=at_+1+j+1 by omega];exact hI2,(hB.alloc (by omega) _).trans hb2,by show _=_;rw [HE.out];congr 1;omega⟩
     case measure=>simp [intOf];omega
   ·have hje:j=ps.length:=by omega
    have hkj:ks[j]=b:=by simp only [Hks.out];rw [List.getElem_append_right (by simp;omega)];simp
    rw [hkj] at hx hs1 hs3;have hC:=vIn b _ (wr.alloc (.cells #[.int .i64 kk,.string xx,.int .i64 mm,.slice aa na ca] 25)) _ (kC.alloc' hx (by omega) _) hInT (hI.below (bal _)) (by omega) (by omega);rw [show at_+1+kA (ks.take j)+kB b=at_+1+kA (ks.take (j+1)) by omega,show ps.take j=ps.take (j+1) by rw [jG (by omega),jG (by omega)]] at hC
    have HE:Hid (R=uT ((ps.take (j+1)).map (·.1)) (ps.drop (j+1)) (at_+1+((j+1:Nat):Int))):=by
     show _=_;rw [HR.out,List.drop_eq_nil_of_le (by omega),List.drop_eq_nil_of_le (by omega)];rfl
    clear hI hx hk hat hlk HR hje;go_wp2_with (go_at_call 31;refine hC.mono ?_;rintro e w1 ⟨rfl,hb1,hI1⟩);go_roundw
    case rel=>exact ⟨j+1,by omega,by go_num,hI1,(hB.alloc (by omega) _).trans hb1,HE⟩
    case measure=>simp [intOf];omega
  ·have hlk:=Hkl.out
   have HE:Hid (R=none):=by
    show _=_;rw [HR.out,List.drop_eq_nil_of_le (by omega)];rfl
   rw [jG (l:=ks) (by omega)] at hI;clear hlk;go_wp2
   go_end0
   exact ⟨hB,.inr ⟨HRR.out.trans HE.out,rfl,b0,pv',P',_,by rw [show at_+(1+kA ks)=at_+1+kA ks by omega];exact hI,HPP.out⟩⟩
def za3:Kid->List ByteArray->List ByteArray->Int->Option (Int × Int)
 | .imp x,ms,_,a=>uO ms x 6 a
 | .var x _ _ n,_,ns,a=>gX ns x n a
 | .proc x _ _ _ ps _,_,ns,a=>uQ ns x ps a
def qY:List Kid->List ByteArray
 | []=>[]
 | .imp _ :: r=>qY r
 | .var x _ _ _ :: r=>x :: qY r
 | .proc x _ _ _ _ _ :: r=>x :: qY r
theorem bO:∀ (a b:List Kid),qY (a++b)=qY a++qY b
 | [],b=>rfl
 | .imp x :: r,b=>bO r b
 | .var x _ _ _ :: r,b=>by show x :: qY (r++b)=x :: (qY r++qY b);rw [bO r b]
 | .proc x _ _ _ _ _ :: r,b=>by show x :: qY (r++b)=x :: (qY r++qY b);rw [bO r b]
theorem zct (all:Bool):∀ K:List Kid,(qE all K).length<=(qY K).length
 | []=>jE _
 | .imp _ :: r=>zct all r
 | .var x p l n :: r=>by
  have:=zct all r;show (if all||p then vD x p l n :: qE all r else qE all r).length<=(qY r).length+1;split;·simp;omega
  ·omega
 | .proc _ _ _ _ _ _ :: r=>jp (zct all r) (Nat.le_succ _)
theorem zcl (all:Bool):∀ K:List Kid,(qH all K).length<=(qY K).length
 | []=>jE _
 | .imp _ :: r=>zcl all r
 | .var _ _ _ _ :: r=>jp (zcl all r) (Nat.le_succ _)
 | .proc x p l g ps b :: r=>by
  have:=zcl all r;show (if all||p then zH x p l g ps :: qH all r else qH all r).length<=(qY r).length+1;split;·simp;omega
  ·omega
theorem zpz (k:Kid) (r:List Kid) (ms ns:List ByteArray) (a:Int):yW (k :: r) ms ns a=match za3 k ms ns a with | some e=>some e | none=>yW r (ms++qV [k]) (ns++qY [k]) (a+kB k.tree):=by
 cases k with
 | imp x =>
  have e:kB (Kid.imp x).tree=1:=by unfold Kid.tree kB kA;rfl
  rw [e];show (if _ then _ else if _ then _ else _)=match (if _ then _ else if _ then _ else _:Option (Int × Int)) with | some e=>some e | none=>yW r (ms++[x]) (ns++[]) (a+1)
  rw [List.append_nil];split;·rfl
  ·split<;>rfl
 | var x p l n =>
  show (if _ then _ else if _ then _ else _)=match (if _ then _ else if _ then _ else _:Option (Int × Int)) with | some e=>some e | none=>yW r (ms++[]) (ns++[x]) _
  rw [List.append_nil];split;·rfl
  ·split;·rfl
   ·cases gQ n a<;>rfl
 | proc x p l g ps b =>
  show (if _ then _ else if _ then _ else if _ then _ else _)=match (if _ then _ else if _ then _ else if _ then _ else _:Option (Int × Int)) with | some e=>some e | none=>yW r (ms++[]) (ns++[x]) _
  rw [List.append_nil];split;·rfl
  ·split;·rfl
   ·split;·rfl
    ·cases uT [] ps (a+1)<;>rfl
theorem zpv {L:List ByteArray} {x:ByteArray} {kH:Nat} {a:Int} (h:uO L x kH a=none):L.length<kH:=by
 unfold uO at h;split at h;·cases h
 ·split at h;·cases h
  ·omega
theorem zub {k:Kid} {ms ns:List ByteArray} {a:Int} (h:za3 k ms ns a=none) (h1:ms.length<=6) (h2:ns.length<=20):(ms++qV [k]).length<=6/\(ns++qY [k]).length<=20:=by
 cases k with
 | imp x =>
  have:=zpv h;show (ms++[x]).length<=6/\(ns++[]).length<=20
  simp;omega
 | var x p l n =>
  have h3:ns.length<20:=by
   have h':gX ns x n a=none:=h;unfold gX at h';split at h';·cases h'
   ·split at h';·cases h'
    ·omega
  show (ms++[]).length<=6/\(ns++[x]).length<=20
  simp;omega
 | proc x p l g ps b =>
  have h3:ns.length<20:=by
   have h':uQ ns x ps a=none:=h;unfold uQ at h';split at h';·cases h'
   ·split at h';·cases h'
    ·omega
  show (ms++[]).length<=6/\(ns++[x]).length<=20;simp;omega
theorem VR.mono {Bm:Nat} {w:World} {r:Option (Int × Int)} {G G':World->Prop} {e:Ending} {w':World} (h:VR Bm w r G e w') (hG:G w'->G' w'):VR Bm w r G' e w' :=
 ⟨h.1,h.2.imp id (fun ⟨a,b,c⟩=>⟨a,b,hG c⟩)⟩
theorem ybh {D Bm Bd:Nat} {mp:Option Nat} {vv pv iv:Value} {mo:ByteArray} {V:List VarD} {P:List (ProcD × Value)} {is ms ns qs:List ByteArray} (k:Kid) (v:Value) (w:World) (at_:Int) (hv:kC (·<Bm) w k.tree v) (h:DI w D Bm Bd mp vv pv iv mo V P is ms ns qs at_) (h0:0<=at_) (hm:at_+kB k.tree<=1000000) (hgood:k.good) (his:is.length<=6) (hms:ms.length<=6) (hns:ns.length<=20) (hV:V.length<=20) (hP:P.length<=20) (hps:k.kids.length<=1000) : Calls Tryz.prog 31 #[.pointer (some ⟨D,0,none⟩),v] w (VR Bm w (za3 k ms ns at_) fun w'=>∃ mp' vv' pv' iv' P' qs',DI w' D Bm Bd mp' vv' pv' iv' mo (V++qE false [k]) P' (is++qV [k]) (ms++qV [k]) (ns++qY [k]) qs' (at_+kB k.tree)/\P'.map (·.1)=P.map (·.1)++qH false [k]):=by
 cases k with
 | imp x =>
  have e:kB (Kid.imp x).tree=1:=by unfold Kid.tree kB kA;rfl
  rw [e] at hm |-;refine (ybl x 0 v w at_ hv h h0 (by omega) hgood hms his).mono ?_;intro e w' hr;refine hr.mono ?_;rintro ⟨iv',hI⟩;refine ⟨mp,vv,pv,iv',P,qs,?_,by show _=_++[];simp⟩;show DI w' D Bm Bd mp vv pv iv' mo (V++[]) P (is++[x]) (ms++[x]) (ns++[]) qs (at_+1);rw [List.append_nil,List.append_nil]
  exact hI
 | var x p l n =>
  refine (ybf x p l n v w at_ hv h h0 hm hgood hns hV).mono ?_;intro e w' hr;refine hr.mono ?_;rintro ⟨vv',hI⟩;refine ⟨mp,vv',pv,iv,P,qs,?_,by show _=_++[];simp⟩;have e1:qE false [Kid.var x p l n]=onP p (vD x p l n):=by show (if false||p then _ else _)=_;cases p<;>rfl
  rw [e1];show DI w' D Bm Bd mp vv' pv iv mo _ P (is++[]) (ms++[]) (ns++[x]) qs _;rw [List.append_nil,List.append_nil]
  exact hI
 | proc x p l g ps b =>
  refine (yaz x p l g ps b v w at_ hv h h0 hm hgood hns hP (by have:(Kid.proc x p l g ps b).kids.length=ps.length+1:=(by simp [Kid.kids]);omega)).mono ?_;intro e w' hr;refine hr.mono ?_;rintro ⟨b0,pv',P',qs',hI,hPP⟩;refine ⟨some b0,vv,pv',iv,P',qs',?_,?_⟩;·show DI w' D Bm Bd (some b0) vv pv' iv mo (V++[]) P' (is++[]) (ms++[]) (ns++[x]) qs' _;rw [List.append_nil,List.append_nil,List.append_nil];exact hI
  ·have e1:qH false [Kid.proc x p l g ps b]=onP p (zH x p l g ps):=by show (if false||p then _ else _)=_;cases p<;>rfl
   rw [e1];exact hPP
theorem yba {D Bm Bd:Nat} {mp:Option Nat} {vv pv iv:Value} {mo:ByteArray} {qs:List ByteArray} (m:ByteArray) (K:List Kid) (v:Value) (w:World) (hv:kC (·<Bm) w (.node 1 m 0 (K.map Kid.tree)) v) (h:DI w D Bm Bd mp vv pv iv mo [] [] [] [] [] qs 0) (hm16:m.size<=16) (hgood:∀ k∈K,k.good) (hcnt:kA (K.map Kid.tree)<=1000) (hps:∀ k∈K,k.kids.length<=1000) : Calls Tryz.prog 31 #[.pointer (some ⟨D,0,none⟩),v] w (VR Bm w (yW K [m] [] 1) fun w'=>∃ mp' vv' pv' iv' P' ms' ns' qs' a',DI w' D Bm Bd mp' vv' pv' iv' m (qE false K) P' (qV K) ms' ns' qs' a'/\P'.map (·.1)=qH false K/\(qY K).length<=20/\(qV K).length<=6):=by
 unfold kC at hv;obtain ⟨T,hT⟩:∃ T,K.map Kid.tree=T:=⟨_,rfl⟩
 rw [hT] at hv hcnt;have HT:Hid (K.map Kid.tree=T):=hT;have HL:Hid (T.length=K.length):=by show _=_;rw [<- hT];simp
 clear hT;obtain ⟨a,c,rfl,hl,hk⟩:=hv;have c24:=kc25;have hmm:=h.lm;have hdd:=h.ld;have hd:=h.dc.lt;have hI0:=h.below (bal (.cells #[.int .i64 1,.string m,.int .i64 0,.slice a T.length c] 25));have hI:DI (w.alloc (.cells #[.int .i64 1,.string m,.int .i64 0,.slice a T.length c] 25)).drew D Bm Bd mp vv pv iv mo [] [] [] [] [] qs 0:=hI0.below ⟨rfl,rfl,rfl,jE _,fun _ _=>rfl⟩;clear hI0;have hQ:Q4 w.heap.size (.int .i64 1) (.string m) (.int .i64 0) (.slice a T.length c) (w.alloc (.cells #[.int .i64 1,.string m,.int .i64 0,.slice a T.length c] 25)).drew:=⟨by simp,by simp,by simp,by simp⟩
 have hB:Below w.heap.size w (w.alloc (.cells #[.int .i64 1,.string m,.int .i64 0,.slice a T.length c] 25)).drew:=(bal _).drew;have hS:(w.alloc (.cells #[.int .i64 1,.string m,.int .i64 0,.slice a T.length c] 25)).drew.cell? ⟨D,4,none⟩=some (.map (some Bm))/\(w.alloc (.cells #[.int .i64 1,.string m,.int .i64 0,.slice a T.length c] 25)).drew.cell? ⟨w.heap.size,1,none⟩=some (.string m):=⟨hI.dc.c4,hQ.2.1⟩
 go_enter Tryz.func31,Tryz.ntmps31;go_wp2;refine wp_region_held_drew (S:=fun W=>W.cell? ⟨D,4,none⟩=some (.map (some Bm))/\W.cell? ⟨w.heap.size,1,none⟩=some (.string m)) (by kernel_rfl) hS (fun hHeld=>?_);clear hHeld;generalize (w.alloc (.cells #[.int .i64 1,.string m,.int .i64 0,.slice a T.length c] 25)).drew=W at *;refine tkP 0 (.pointer (some ⟨D,0,none⟩)) hS ?_;simp only [Act.put,jA,jB,jC];refine tkP 1 (.pointer (some ⟨D,0,none⟩)) hS ?_;simp only [Act.put,jA,jB,jC];refine tkP 2 (.pointer (some ⟨D,0,none⟩)) hS ?_;simp only [Act.put,jA,jB,jC];refine tkP 3 (.pointer (some ⟨D,4,none⟩)) hS ?_;simp only [Act.put,jA,jB,jC];refine tkP 4 (.map (some Bm)) hS ?_;simp only [Act.put,jA,jB,jC];refine tkP 5 (.pointer (some ⟨w.heap.size,1,none⟩)) hS ?_;simp only [Act.put,jA,jB,jC];refine tkP 6 (.string m) hS ?_;simp only [Act.put,jA,jB,jC];refine oneH 7 fun KK hK=>?_
 go_simp;go_at_call 48;refine (zcb D Bm [] m 6 0 W hI.dc.c7 hI.om hI.am (by omega) (by omega) (by simp)).mono ?_;rintro e W1 (⟨hm1,rfl,hb⟩|⟨hm1,hle,rfl,hb⟩|⟨hm1,hlt,rfl,hom,ham,hg⟩);·exact absurd hm1 (by simp [qL])
 ·exact absurd hle (by simp)
 have hI1:=hI.enterM hom ham hg;rw [js] at hI1;go_wp2;replace hQ:=Q4.grown hQ hg (by simp;omega);have hB1:Below Bm w W1:=(hB.mono (by omega)).grown hg (by have:=hB.size;omega) (fun k e=>by cases e;omega);clear hB hom ham hg hI;refine hK.out _ _ ⟨hI1.dc.c4,hQ.2.1⟩ (fun hHeld=>?_);clear hK KK hHeld;refine wpAnyH_done (by kernel_rfl) ?_ _;obtain ⟨q0,q1,q2,q3⟩:=id hQ;have m0:=hI1.dc.c0;have mf0:=hI1.dc.fz 0;have hI2:=hI1.setModule m;have hB2:=hB1.setCell (p:=⟨D,0,none⟩) (by show Bm<=D;omega) (.string m);have hQ2:=Q4.other (M:=D) (o:=0) (by omega) hQ (.string m);have m7:=hI2.dc.c7;have mf7:=hI2.dc.fz 7;have q3':=hQ2.2.2.2;have hI3:=hI2.setAt 1;have hB3:=hB2.setCell (p:=⟨D,7,none⟩) (by show Bm<=D;omega) (.int .i64 1);have hq7:=(Q4.other (M:=D) (o:=7) (by omega) hQ2 (.int .i64 1)).2.2.2;clear hI1 hB1 hQ hI2 hB2 hQ2 hm1 hlt h;go_wp2;clear m7 mf7 m0 mf0 q0 q1 q2 q3 q3' hq7;obtain ⟨R,HRR⟩:∃ R,Hid (yW K [m] [] 1=R):=⟨_,rfl⟩
 have HR:Hid (R=yW K [m] [] 1):=HRR.out.symm;go_loopw [75] (fun t wr=>∃ (j:Nat) (mp':Option Nat) (vv' pv' iv':Value) (P':List (ProcD × Value)) (qs':List ByteArray),j<=T.length/\t=.int .i64 j/\DI wr D Bm Bd mp' vv' pv' iv' m (qE false (K.take j)) P' (qV (K.take j)) (m :: qV (K.take j)) (qY (K.take j)) qs' (1+kA (T.take j))/\Below Bm w wr/\Hid (P'.map (·.1)=qH false (K.take j))/\Hid (R=yW (K.drop j) (m :: qV (K.take j)) (qY (K.take j)) (1+kA (T.take j)))/\Hid ((m :: qV (K.take j)).length<=6/\(qY (K.take j)).length<=20)) (fun t _=>T.length - (intOf t).toNat)
 case atStart=>exact ⟨0,mp,vv,pv,iv,[],qs,jz _,rfl,by simpa [kA,qE,qV,qY] using hI3,hB3,by show _=_;rfl,by show _=_;rw [HR.out];rfl,by show _/\_;simp [qV,qY]⟩
 case round =>
  clear hI3 hB3 HR;obtain ⟨j,mp',vv',pv',iv',P',qs',hj,rfl,hI,hB,HP,HR,HB⟩:=hrel;by_cases hlt:j<T.length
  ·obtain ⟨g,o,rfl,hg,hat⟩:=hk (by intro e;rw [e] at hlt;simp at hlt);obtain ⟨kk,xx,mm,aa,na,ca,c0,c1,c2,c3,hx⟩:=zdq hat hg hB hlt;have hs1:=cntL_take T j hlt;have hs2:=fA T (j+1);have hs3:=kR T[j];have hs4:=kX (T.take j);have hsz:=hB.size;have hgl:g<wr.heap.size:=by have:g<Bm:=hg;omega
   have hlk:=HL.out;have hjK:j<K.length:=by omega
   have hTj:T[j]=K[j].tree:=by simp only [<- HT.out];simp
   have hb6:=HB.out.1;have hb20:=HB.out.2;rw [hTj] at hx hs1 hs3;have hvl:=zct false (K.take j);have hpl:=zcl false (K.take j);have hPl:P'.length<=20:=by have:=congrArg List.length HP.out;rw [List.length_map] at this;omega
   have hC:=ybh K[j] _ (wr.alloc (.cells #[.int .i64 kk,.string xx,.int .i64 mm,.slice aa na ca] 25)) _ (kC.alloc' hx (by omega) _) (hI.below (bal _)) (by omega) (by omega) (hgood _ (jH hjK)) (by simp at hb6;omega) hb6 hb20 (by omega) hPl (hps _ (jH hjK))
   have HS:Hid (R=match za3 K[j] (m :: qV (K.take j)) (qY (K.take j)) (1+kA (T.take j)) with | some e=>some e | none=>yW (K.drop (j+1)) (m :: qV (K.take j)++qV [K[j]]) (qY (K.take j)++qY [K[j]]) (1+kA (T.take j)+kB K[j].tree)):=by
    show _=_;rw [HR.out,List.drop_eq_getElem_cons hjK,zpz]
   have HG:Hid (∀ e,za3 K[j] (m :: qV (K.take j)) (qY (K.take j)) (1+kA (T.take j))=e->e=none->(m :: qV (K.take j)++qV [K[j]]).length<=6/\(qY (K.take j)++qY [K[j]]).length<=20):=fun e h1 h2=>zub (h1.trans h2) hb6 hb20
   have HK:Hid (K.take (j+1)=K.take j++[K[j]]):=List.take_succ_eq_append_getElem hjK;have HN:Hid (1+kA (T.take j)+kB K[j].tree=1+kA (T.take (j+1))):=by show _=_;omega
   rw [HN.out] at hC;rw [HN.out] at HS;clear hI hx hk hat hlk hs1 hs2 hs3 hs4 hvl hpl hPl hb6 hb20 HR HB hTj;generalize hE:za3 K[j] (m :: qV (K.take j)) (qY (K.take j)) (1+kA (T.take j))=E at *;have HG2:=HG.out _ rfl;clear HG hE
   cases E with
   | some q =>
    have HE:Hid (R=some q):=HS.out;clear HS HG2;go_wp2_with (fail);refine hC.mono ?_;rintro e w2 ⟨hb2,(⟨q',e1,rfl⟩|⟨e1,_⟩)⟩;·cases e1;go_wp2;exact ⟨rfl,(hB.alloc (by omega) _).trans hb2,.inl ⟨q,HRR.out.trans HE.out,rfl⟩⟩
    ·cases e1
   | none =>
    have HE:Hid (R=yW (K.drop (j+1)) (m :: qV (K.take j)++qV [K[j]]) (qY (K.take j)++qY [K[j]]) (1+kA (T.take (j+1)))):=HS.out;have HB2:Hid ((m :: qV (K.take j)++qV [K[j]]).length<=6/\(qY (K.take j)++qY [K[j]]).length<=20):=HG2 rfl;clear HS HG2;go_wp2_with (fail);refine hC.mono ?_;rintro e w2 ⟨hb2,(⟨q',e1,_⟩|⟨_,rfl,mp2,vv2,pv2,iv2,P2,qs2,hI2,hP2⟩)⟩;·cases e1
    have HP2:Hid (P2.map (·.1)=P'.map (·.1)++qH false [K[j]]):=hP2
    clear hP2;go_wp2;go_roundw
    case rel =>
     refine ⟨j+1,mp2,vv2,pv2,iv2,P2,qs2,by omega,by go_num,?_,(hB.alloc (by omega) _).trans hb2,?_,?_,?_⟩;·rw [HK.out,cI,bL,bO];exact hI2
     ·show _=_;rw [HP2.out,HP.out,HK.out,cG]
     ·show _=_;rw [HE.out,HK.out,bL,bO];rfl
     ·rw [HK.out,bL,bO];exact HB2
    case measure=>simp [intOf];omega
  ·have hlk:=HL.out
   have HE:Hid (R=none):=by
    show _=_;rw [HR.out,List.drop_eq_nil_of_le (by omega)];rfl
   have hb6:=HB.out.1;have hb20:=HB.out.2;have hPf:=HP.out;rw [jG (l:=K) (by omega)] at hI hb6 hb20 hPf;have HF:Hid (P'.map (·.1)=qH false K/\(qY K).length<=20/\(qV K).length<=6):=⟨hPf,hb20,by simp at hb6;omega⟩
   clear hlk hb6 hb20 hPf;go_wp2
   go_end0
   exact ⟨hB,.inr ⟨HRR.out.trans HE.out,rfl,_,_,_,_,_,_,_,_,_,hI,HF.out⟩⟩
end face
namespace face
open Go.RowKit
open syn
def yao (w:World) (f:FaceD) (l:List ByteArray) (c a:Int) (e:Ending) (w':World):Prop :=
 ∃ fv lv,e=.returned (.tuple #[fv,lv,.agg #[.int .i64 c,.int .i64 a]])/\yZ w' fv f/\zgq w' lv l/\Below w.heap.size w w'
def gA:FaceD:=⟨⟨#[]⟩,[],[]⟩
theorem zr1 (w:World):yZ w (.agg #[.string ⟨#[]⟩,.slice none 0 0,.slice none 0 0]) gA :=
 ⟨_,_,rfl,⟨none,0,rfl,by simp [gA],fun h=>absurd rfl h⟩,⟨none,0,rfl,by simp [gA],fun h=>absurd rfl h⟩⟩
theorem zsn (w:World):zgq w (.slice none 0 0) []:=⟨none,0,rfl,by simp,fun h=>absurd rfl h⟩
theorem lies_shape {Q:Nat->Prop} {w:World} {t:Tree} {v:Value} (h:kC Q w t v):∃ k x m a n c,v=.agg #[.int .i64 k,.string x,.int .i64 m,.slice a n c]:=by
 match t,h with
 | .node k x m ks,h =>
  unfold kC at h;obtain ⟨a,c,e,_⟩:=h;exact ⟨k,x,m,a,_,c,e⟩
theorem zrb {B:Nat} {w:World} {m:ByteArray} {K:List Kid} {v:Value} (h:kC (fun b=>B<=b/\b<w.heap.size) w (.node 1 m 0 (K.map Kid.tree)) v) : ∃ a d,v=.agg #[.int .i64 1,.string m,.int .i64 0,.slice a K.length d]/\kC (·<w.heap.size) w (.node 1 m 0 (K.map Kid.tree)) (.agg #[.int .i64 1,.string m,.int .i64 0,.slice a K.length d]):=by
 have h2:=h.to (Q:=(·<w.heap.size)) (w':=w) (fun b hb=>hb.2) (fun _ _ _=>rfl)
 have h3:=h2;unfold kC at h3;obtain ⟨a,d,e,_,_⟩:=h3;rw [List.length_map] at e;subst e;exact ⟨a,d,rfl,h2⟩
end face
namespace face
open Go.RowKit Go.Maps
open syn
section
variable {w w':World}
theorem DC.new (w:World) (x0 x1 x2 x3 x4 x5 x6 x7:Value) (T:TypeId):DC (w.alloc (.cells #[x0,x1,x2,x3,x4,x5,x6,x7] T)) w.heap.size x0 x1 x2 x3 x4 x5 x6 x7:=by
 constructor<;>simp
theorem DI.new (w:World) (T:TypeId):DI (((w.alloc (.map #[] 0)).alloc (.map #[] 0)).alloc (.cells #[.string ⟨#[]⟩,.slice none 0 0,.slice none 0 0,.slice none 0 0,.map (some w.heap.size),.map (some (w.heap.size+1)),.map none,.int .i64 0] T)) (w.heap.size+1+1) w.heap.size (w.heap.size+1) none (.slice none 0 0) (.slice none 0 0) (.slice none 0 0) ⟨#[]⟩ [] [] [] [] [] [] 0:=by
 have h1:gM (w.alloc (.map #[] 0)) w.heap.size []:=World.ownsMap_made _ _ _ _
 have h2:gM ((w.alloc (.map #[] 0)).alloc (.map #[] 0)) (w.heap.size+1) []:=by
  have:=World.ownsMap_made (w.alloc (.map #[] 0)) Tryz.prog 9 (unitElem (H:=Unit));rw [jO] at this;exact this
 have hd:=DC.new ((w.alloc (.map #[] 0)).alloc (.map #[] 0)) (.string ⟨#[]⟩) (.slice none 0 0) (.slice none 0 0) (.slice none 0 0) (.map (some w.heap.size)) (.map (some (w.heap.size+1))) (.map none) (.int .i64 0) T;rw [jO,jO] at hd;exact ⟨hd,by omega,by omega,fun b e=>(by cases e),FR.nil _ _ _,World.ownsRow_nil _ _ _ _,fun b e=>(by cases e),(h1.alloc _).alloc _,rfl,h2.alloc _,rfl,fun b e=>(by cases e),rfl⟩
theorem zpw (p:Addr) (w:World) : CallsD Tryz.prog 30 #[.pointer (some p)] .returning w fun e u' w'=>e=.returned (.tuple #[])/\u'=.returning/\w'=w:=by
 have hnn:∀ w:World,(binOp BinOp.eql 20 .nilIface .nilIface).run Tryz.prog w=.ok (.bool true) w:=fun _=>by kernel_rfl
 refine callsD_of_wpS Tryz.func30 rfl fun c₀ cs hu=>?_
 refine zcf (by simp [recoverD,hu]) ?_;simp only [Tryz.ntmps30,List.size_toArray,jd,je,Nat.reduceAdd,Nat.reduceSub,Array.replicate_succ,Array.replicate_zero,List.push_toArray,List.append_toArray,js,jK,Act.put,List.setIfInBounds_toArray,List.set_cons_succ,List.set_cons_zero];refine wpS_of_wp (wp_mono (Q:=fun e a w'=>e=.normal/\a.defers=[]/\w'=w) ?_ ?_);·go_wp2
 ·rintro e a w' ⟨rfl,h1,rfl⟩;exact ⟨h1,_,rfl,.tuple #[],by simp [results,Tryz.results30],rfl,hu,rfl⟩
theorem zy9 (fb:Nat) (c a:Int) (w:World) (h0:w.cell? ⟨fb,0,none⟩=some (.int .i64 0)) (h1:w.cell? ⟨fb,1,none⟩=some (.int .i64 0)) (f0:w.frozen? ⟨fb,0,none⟩=false) (f1:w.frozen? ⟨fb,1,none⟩=false) (hfb:fb<w.heap.size) : CallsD Tryz.prog 30 #[.pointer (some ⟨fb,0,none⟩)] (.panicking (qS c a)) w fun e u' w'=>e=.returned (.tuple #[])/\u'=.panicking [{ v:=.iface 28 (.agg #[.int .i64 c,.int .i64 a]),recovered:=true }]/\w'.cell? ⟨fb,0,none⟩=some (.int .i64 c)/\w'.cell? ⟨fb,1,none⟩=some (.int .i64 a)/\Fr fb w w':=by
 have c27:=kc28;have hnn:∀ w:World,(binOp BinOp.eql 20 (.iface 28 (.agg #[.int .i64 c,.int .i64 a])) .nilIface).run Tryz.prog w=.ok (.bool false) w:=fun _=>by kernel_rfl
 have hta:∀ w:World,(Instr.typeAssert (.iface 28 (.agg #[.int .i64 c,.int .i64 a])) 20 28 true).run Tryz.prog w=.ok (.tuple #[.agg #[.int .i64 c,.int .i64 a],.bool true]) w:=fun _=>by kernel_rfl
 unfold qS;refine callsD_of_wpS Tryz.func30 rfl fun c₀ cs hu=>?_
 refine za8 (v:=.iface 28 (.agg #[.int .i64 c,.int .i64 a])) (cs':={ c₀ with mode:=.panicking [{ v:=.iface 28 (.agg #[.int .i64 c,.int .i64 a]),recovered:=true }] } :: cs) (by simp [recoverD,hu]) ?_;simp only [Tryz.ntmps30,List.size_toArray,jd,je,Nat.reduceAdd,Nat.reduceSub,Array.replicate_succ,Array.replicate_zero,List.push_toArray,List.append_toArray,js,jK,Act.put,List.setIfInBounds_toArray,List.set_cons_succ,List.set_cons_zero];refine wpS_of_wp (wp_mono (Q:=fun e q w'=>e=.normal/\q.defers=[]/\w'.cell? ⟨fb,0,none⟩=some (.int .i64 c)/\w'.cell? ⟨fb,1,none⟩=some (.int .i64 a)/\Fr fb w w') ?_ ?_);·go_wp2;exact (((Fr.refl _ _).set _ _).set _ _).alloc _
 ·rintro e q w' ⟨rfl,h1,h2,h3,h4⟩;exact ⟨h1,_,rfl,.tuple #[],by simp [results,Tryz.results30],rfl,rfl,h2,h3,h4⟩
theorem zto {N D Bm Bd:Nat} {mp:Option Nat} {vv pv iv:Value} {m:ByteArray} {K:List Kid} {P:List (ProcD × Value)} {ms ns qs:List ByteArray} {a:Int} {w0:World} (h:DI w D Bm Bd mp vv pv iv m (qE false K) P (qV K) ms ns qs a) (hP:P.map (·.1)=qH false K) (hn:(qY K).length<=20) (hN:N+1<D) (B:Nat) (hBN:B<=N) (hB:Below B w0 w) (x y z p q:Value) : FR (fun b=>iv.ownBlock=some b\/mp=some b) (D+1) (((((w.setCell ⟨N,0,none⟩ x).setCell ⟨N,1,none⟩ y).setCell ⟨N,2,none⟩ z).setCell ⟨N+1,0,none⟩ p).setCell ⟨N+1,1,none⟩ q).drew vv pv (qE false K) P /\ (((((w.setCell ⟨N,0,none⟩ x).setCell ⟨N,1,none⟩ y).setCell ⟨N,2,none⟩ z).setCell ⟨N+1,0,none⟩ p).setCell ⟨N+1,1,none⟩ q).drew.ownsRow (D+1) 9 1 iv (qV K).length (yF (qV K)) /\ Below B w0 (((((w.setCell ⟨N,0,none⟩ x).setCell ⟨N,1,none⟩ y).setCell ⟨N,2,none⟩ z).setCell ⟨N+1,0,none⟩ p).setCell ⟨N+1,1,none⟩ q).drew:=by
 refine ⟨?_,?_,?_⟩;·have h:=(((((h.fr.set (M:=N) (o:=0) (by omega) x).set (M:=N) (o:=1) (by omega) y).set (M:=N) (o:=2) (by omega) z).set (M:=N+1) (o:=0) (by omega) p).set (M:=N+1) (o:=1) (by omega) q).drew;exact h
 ·have n0:iv.ownBlock≠some N:=fun e=>by have:=(h.oi.lt _ e).1;omega
  have n1:iv.ownBlock≠some (N+1):=fun e=>by have:=(h.oi.lt _ e).1;omega
  have r:=jU (a:=⟨N+1,1,none⟩) (jU (a:=⟨N+1,0,none⟩) (jU (a:=⟨N,2,none⟩) (jU (a:=⟨N,1,none⟩) (jU (a:=⟨N,0,none⟩) h.oi n0 x) n0 y) n0 z) n1 p) n1 q;generalize ((((w.setCell ⟨N,0,none⟩ x).setCell ⟨N,1,none⟩ y).setCell ⟨N,2,none⟩ z).setCell ⟨N+1,0,none⟩ p).setCell ⟨N+1,1,none⟩ q=W at *;exact r.drew
 ·exact (((((hB.setCell hBN _).setCell hBN _).setCell hBN _).setCell (Nat.le_succ_of_le hBN) _).setCell (Nat.le_succ_of_le hBN) _).drew
def uD (w:World) (m:ByteArray) (K:List Kid) (e:Ending) (w':World):Prop :=
 match yW K [m] [] 1 with
 | some q=>e=.returned (.tuple #[.agg #[.string ⟨#[]⟩,.slice none 0 0,.slice none 0 0],.slice none 0 0,.agg #[.int .i64 q.1,.int .i64 q.2]])/\Below w.heap.size w w'
 | none=>∃ (X:Nat->Prop) (B:Nat) (vv pv iv:Value) (P:List (ProcD × Value)),w.heap.size<=B/\e=.returned (.tuple #[.agg #[.string m,vv,pv],iv,.agg #[.int .i64 0,.int .i64 0]])/\FR X B w' vv pv (qE false K) P/\P.map (·.1)=qH false K/\(qY K).length<=20/\w'.ownsRow B 9 1 iv (qV K).length (yF (qV K))/\Below w.heap.size w w'
theorem ztm (m:ByteArray) (K:List Kid) (v:Value) (w:World) (hv:kC (·<w.heap.size) w (.node 1 m 0 (K.map Kid.tree)) v) (hm16:m.size<=16) (hgood:∀ k∈K,k.good) (hcnt:kA (K.map Kid.tree)<=1000) (hps:∀ k∈K,k.kids.length<=1000) : Calls Tryz.prog 17 #[v] w (uD w m K):=by
 have c24:=kc25;have c27:=kc28;have c3:Tryz.prog.cellsOf 41=3:=gN;have c8:=kc92;have hmm0:=@run_makeMap Tryz.prog;have hmf:∀ (fn:Fn) (first cap:Array Value) (w:World),(Instr.makeFunc fn first cap).run Tryz.prog w=.ok (.func fn first cap) w:=fun _ _ _ _=>rfl
 obtain ⟨k1,x1,m1,a1,n1,d1,rfl⟩:=lies_shape hv;obtain ⟨w3,hw3⟩:∃ w3,w3=((w.alloc (.cells #[.int .i64 k1,.string x1,.int .i64 m1,.slice a1 n1 d1] 25)).alloc (.cells #[.string ⟨#[]⟩,.slice none 0 0,.slice none 0 0] 41)).alloc (.cells #[.int .i64 0,.int .i64 0] 28):=⟨_,rfl⟩
 have hs3:w3.heap.size=w.heap.size+1+1+1:=by rw [hw3];simp
 have hb3:Below w.heap.size w w3:=by rw [hw3];exact ((bal _).alloc (by simp) _).alloc (by simp;omega) _
 have bF:Box3 w3 (w.heap.size+1) (.string ⟨#[]⟩) (.slice none 0 0) (.slice none 0 0):=by
  have:=(Box3.new (w.alloc (.cells #[.int .i64 k1,.string x1,.int .i64 m1,.slice a1 n1 d1] 25)) (.string ⟨#[]⟩) (.slice none 0 0) (.slice none 0 0) 41).alloc (.cells #[.int .i64 0,.int .i64 0] 28);rw [jO] at this;rw [hw3];exact this
 have bG:Box2 w3 (w.heap.size+1+1) (.int .i64 0) (.int .i64 0):=by
  have:=Box2.new ((w.alloc (.cells #[.int .i64 k1,.string x1,.int .i64 m1,.slice a1 n1 d1] 25)).alloc (.cells #[.string ⟨#[]⟩,.slice none 0 0,.slice none 0 0] 41)) (.int .i64 0) (.int .i64 0) 28;rw [jO,jO] at this;rw [hw3];exact this
 have hI:=DI.new w3 92
 have hv3:kC (·<w3.heap.size) (((w3.alloc (.map #[] 0)).alloc (.map #[] 0)).alloc (.cells #[.string ⟨#[]⟩,.slice none 0 0,.slice none 0 0,.slice none 0 0,.map (some w3.heap.size),.map (some (w3.heap.size+1)),.map none,.int .i64 0] 92)) (.node 1 m 0 (K.map Kid.tree)) (.agg #[.int .i64 k1,.string x1,.int .i64 m1,.slice a1 n1 d1]) :=
  hv.to (fun b hb=>by show b<w3.heap.size;have:b<w.heap.size:=hb;omega) (fun b hb o=>by
   have h1:=hb3.cell (p:=⟨b,o,none⟩) hb;have h2:=((((Below.refl w3.heap.size w3).alloc (jE _) (.map #[] 0)).alloc (by simp) (.map #[] 0)).alloc (by simp;omega) (.cells #[.string ⟨#[]⟩,.slice none 0 0,.slice none 0 0,.slice none 0 0,.map (some w3.heap.size),.map (some (w3.heap.size+1)),.map none,.int .i64 0] 92)).cell (p:=⟨b,o,none⟩) (by show b<w3.heap.size;have:b<w.heap.size:=hb;omega)
   exact h2.trans h1)
 have hM:=yba m K _ _ hv3 hI hm16 hgood hcnt hps;have hb34:=((((Below.refl w3.heap.size w3).alloc (jE _) (.map #[] 0)).alloc (by simp) (.map #[] 0)).alloc (by simp;omega) (.cells #[.string ⟨#[]⟩,.slice none 0 0,.slice none 0 0,.slice none 0 0,.map (some w3.heap.size),.map (some (w3.heap.size+1)),.map none,.int .i64 0] 92))
 have hs4:(((w3.alloc (.map #[] 0)).alloc (.map #[] 0)).alloc (.cells #[.string ⟨#[]⟩,.slice none 0 0,.slice none 0 0,.slice none 0 0,.map (some w3.heap.size),.map (some (w3.heap.size+1)),.map none,.int .i64 0] 92)).heap.size=w3.heap.size+3:=by simp
 obtain ⟨w4,hw4⟩:∃ w4,w4=(((w3.alloc (.map #[] 0)).alloc (.map #[] 0)).alloc (.cells #[.string ⟨#[]⟩,.slice none 0 0,.slice none 0 0,.slice none 0 0,.map (some w3.heap.size),.map (some (w3.heap.size+1)),.map none,.int .i64 0] 92)):=⟨_,rfl⟩
 rw [<- hw4] at hM hb34 hs4;clear hI hv3 hv;rw [hs3] at hw4;rw [hw3] at hw4;rw [hs3] at hM;go_enter_defers Tryz.func17,Tryz.ntmps17;go_wp2_with (fail);rw [<- hw4];refine hM.mono ?_;clear hw4 hw3 hM;rintro e w5 ⟨hb5,(⟨q,hq,rfl⟩|⟨hq,rfl,mp',vv',pv',iv',P',ms',ns',qs',a',hI5,hP5,hn20,hi6⟩)⟩
 ·have hb35:Below w3.heap.size w3 w5:=hb34.trans (by rw [hs3];exact hb5);have bG5:=bG.below hb35;have bF5:=bF.below hb35;have hz:=bG5.lt;have key:=zy9 (w.heap.size+1+1) q.1 q.2 w5 bG5.c0 bG5.c1 bG5.f0 bG5.f1 hz;have HK:Hid (Below w.heap.size w w5):=hb3.trans (hb35.mono hb3.size);have HQ:Hid (yW K [m] [] 1=some q):=hq;clear hq hb5 hb35 hb34;go_wp2;refine leaves_cons (f:=30) (args:=#[.pointer (some ⟨w.heap.size+1+1,0,none⟩)]) (by simp) (by simp [go_sem]) ?_;refine key.mono ?_;rintro e u' w6 ⟨rfl,rfl,c0,c1,hF6⟩;have bF6:=bF5.block (w':=w6) (hF6.block _ (by omega) (by simp));obtain ⟨t0,t1,t2,_,_,_⟩:=id bF6;have HK6:Below w.heap.size w w6:=⟨hF6.os.trans HK.out.os,hF6.tape.trans HK.out.tape,hF6.output.trans HK.out.output,jp HK.out.size hF6.size,fun j hj=>(hF6.block j (by have:=HK.out.size;omega) (by simp;omega)).trans (HK.out.block j hj)⟩
  refine ⟨.tuple #[.agg #[.string ⟨#[]⟩,.slice none 0 0,.slice none 0 0],.slice none 0 0,.agg #[.int .i64 q.1,.int .i64 q.2]],?_,?_⟩;·simp [results,Tryz.results17,go_sem,t0,t1,t2,c0,c1]
  ·unfold uD;rw [HQ.out];exact ⟨rfl,HK6⟩
 have hb35:Below w3.heap.size w3 w5:=hb34.trans (by rw [hs3];exact hb5);have bG5:=bG.below hb35;have bF5:=bF.below hb35;have hz:=bG5.lt;have HK1:Hid (Below w.heap.size w w5):=hb3.trans (hb35.mono hb3.size);have HQ:Hid (yW K [m] [] 1=none):=hq;have HP:Hid (P'.map (·.1)=qH false K/\(qY K).length<=20/\(qV K).length<=6):=⟨hP5,hn20,hi6⟩
 clear hq hb5 hb35 hb34 hP5 hn20 hi6;obtain ⟨av,cv,rfl⟩:=hI5.fr.shapeV;obtain ⟨ap,cp,rfl⟩:=hI5.fr.shapeP;obtain ⟨ai,ci,rfl,_,_⟩:=lexs.own_shape hI5.oi;obtain ⟨m0,m1,m2,m3,_,_,_,_,_⟩:=id hI5.dc;obtain ⟨t0,t1,t2,t3,t4,t5⟩:=id bF5;obtain ⟨s0,s1,s2,s3⟩:=id bG5;have hDlt:=hI5.dc.lt;have HF:Hid _:=zto (N:=w.heap.size+1) hI5 HP.out.1 HP.out.2.1 (by omega) _ (Nat.le_succ _) HK1.out (.string m) (.slice av (qE false K).length cv) (.slice ap P'.length cp) (.int .i64 0) (.int .i64 0);go_wp2;go_region
 all_goals
  go_wp2;refine leaves_cons (f:=30) (args:=#[.pointer (some ⟨w.heap.size+1+1,0,none⟩)]) (by simp) (by simp [go_sem]) ?_;refine (zpw _ _).mono ?_;rintro e u' w6 ⟨rfl,rfl,hw6⟩;subst hw6;refine ⟨.tuple #[.agg #[.string m,.slice av (qE false K).length cv,.slice ap P'.length cp],.slice ai (qV K).length ci,.agg #[.int .i64 0,.int .i64 0]],?_,?_⟩;·simp [results,Tryz.results17,go_sem,t0,t1,t2,s0,s1]
  ·unfold uD;rw [HQ.out];exact ⟨_,_,_,_,_,_,by omega,rfl,HF.out.1,HP.out.1,HP.out.2.1,HF.out.2⟩
end
theorem zd6 {w w':World} (h:cX w) (hb:Below w.heap.size w w'):cX w':=⟨lexs.hasErr_below h.1 hb,cJ h.2 hb⟩
theorem zw2 (x:ByteArray) (w:World) (hH:cX w) (hc:(kM x).code≠0) : Calls Tryz.prog 8 #[.string x] w (yao w gA [] (kM x).code (kM x).place):=by
 have c24:=kc25;have c27:=kc28;have c3:Tryz.prog.cellsOf 41=3:=gN;have hB:=Joins.below_alloc2 w (.cells #[.string ⟨#[]⟩,.slice none 0 0,.slice none 0 0] 41) (.cells #[.int .i64 0,.int .i64 0] 28);have hP:=zgt x ((w.alloc (.cells #[.string ⟨#[]⟩,.slice none 0 0,.slice none 0 0] 41)).alloc (.cells #[.int .i64 0,.int .i64 0] 28)) (zd6 hH hB);unfold dM at hP;have hcb:((kM x).code==0)=false:=beq_false_of_ne hc;have hcn:((kM x).code != 0)=true:=by simp [bne,hcb]
 generalize (kM x).code=cc at hP hc hcb hcn;generalize (kM x).place=pp at hP;generalize (kM x).tree=tt at hP;have bF:=(Box3.new w (.string ⟨#[]⟩) (.slice none 0 0) (.slice none 0 0) 41).alloc (.cells #[.int .i64 0,.int .i64 0] 28);have bG:=Box2.new (w.alloc (.cells #[.string ⟨#[]⟩,.slice none 0 0,.slice none 0 0] 41)) (.int .i64 0) (.int .i64 0) 28;rw [jO] at bG;go_enter Tryz.func8,Tryz.ntmps8;go_wp2_with (go_at_call 9;refine hP.mono ?_;rintro e w1 ⟨v,rfl,hly,hb1⟩;obtain ⟨k0,x0,m0,a0,n0,d0,rfl⟩:=lies_shape hly;have bF1:=((bF.below hb1).alloc (.cells #[.int .i64 k0,.string x0,.int .i64 m0,.slice a0 n0 d0] 25)).alloc (.cells #[.int .i64 cc,.int .i64 pp] 28);have bG1:=((bG.below hb1).alloc (.cells #[.int .i64 k0,.string x0,.int .i64 m0,.slice a0 n0 d0] 25)).alloc (.cells #[.int .i64 cc,.int .i64 pp] 28);have hB2:=(hB.trans (hb1.mono hB.size)).trans ((Joins.below_alloc2 w1 (.cells #[.int .i64 k0,.string x0,.int .i64 m0,.slice a0 n0 d0] 25) (.cells #[.int .i64 cc,.int .i64 pp] 28)).mono (hB.trans (hb1.mono hB.size)).size);obtain ⟨t0,t1,t2,t3,t4,t5⟩:=id bF1;obtain ⟨s0,s1,s2,s3⟩:=id bG1);have hsz:w.heap.size+1<w1.heap.size:=(bG.below hb1).lt;go_region
 all_goals
  go_wp2;refine jT (v:=.tuple #[.agg #[.string ⟨#[]⟩,.slice none 0 0,.slice none 0 0],.slice none 0 0,.agg #[.int .i64 cc,.int .i64 pp]]) (by simp [results,Tryz.results8,go_sem,t0,t1,t2,s0,s1]) rfl ⟨_,_,rfl,zr1 _,zsn _,?_⟩;exact (((((hB2.setCell (jE _) _).setCell (jE _) _).setCell (jE _) _).setCell (Nat.le_succ _) _).setCell (Nat.le_succ _) _).drew
theorem zy6 {w w5:World} {X:Nat->Prop} {B:Nat} {vv pv iv:Value} {V:List VarD} {P:List (ProcD × Value)} {L:List ByteArray} (hB:w.heap.size+2<=B) (hF:FR X B w5 vv pv V P) (hi:w5.ownsRow B 9 1 iv L.length (yF L)) (hb:Below w.heap.size w w5) (x y z p q:Value) : FR X B (((((w5.setCell ⟨w.heap.size,0,none⟩ x).setCell ⟨w.heap.size,1,none⟩ y).setCell ⟨w.heap.size,2,none⟩ z).setCell ⟨w.heap.size+1,0,none⟩ p).setCell ⟨w.heap.size+1,1,none⟩ q) vv pv V P /\ (((((w5.setCell ⟨w.heap.size,0,none⟩ x).setCell ⟨w.heap.size,1,none⟩ y).setCell ⟨w.heap.size,2,none⟩ z).setCell ⟨w.heap.size+1,0,none⟩ p).setCell ⟨w.heap.size+1,1,none⟩ q).ownsRow B 9 1 iv L.length (yF L) /\ Below w.heap.size w (((((w5.setCell ⟨w.heap.size,0,none⟩ x).setCell ⟨w.heap.size,1,none⟩ y).setCell ⟨w.heap.size,2,none⟩ z).setCell ⟨w.heap.size+1,0,none⟩ p).setCell ⟨w.heap.size+1,1,none⟩ q):=by
 refine ⟨?_,?_,?_⟩;·exact ((((hF.set (M:=w.heap.size) (o:=0) (by omega) x).set (M:=w.heap.size) (o:=1) (by omega) y).set (M:=w.heap.size) (o:=2) (by omega) z).set (M:=w.heap.size+1) (o:=0) (by omega) p).set (M:=w.heap.size+1) (o:=1) (by omega) q
 ·have n0:iv.ownBlock≠some w.heap.size:=fun e=>by have:=(hi.lt _ e).1;omega
  have n1:iv.ownBlock≠some (w.heap.size+1):=fun e=>by have:=(hi.lt _ e).1;omega
  exact jU (a:=⟨w.heap.size+1,1,none⟩) (jU (a:=⟨w.heap.size+1,0,none⟩) (jU (a:=⟨w.heap.size,2,none⟩) (jU (a:=⟨w.heap.size,1,none⟩) (jU (a:=⟨w.heap.size,0,none⟩) hi n0 x) n0 y) n0 z) n1 p) n1 q
 ·exact ((((hb.setCell (jE _) _).setCell (jE _) _).setCell (jE _) _).setCell (Nat.le_succ _) _).setCell (Nat.le_succ _) _
theorem uD.bad {w:World} {m:ByteArray} {K:List Kid} {q:Int × Int} {e:Ending} {w':World} (hq:yW K [m] [] 1=some q):uD w m K e w' ↔ (e=.returned (.tuple #[.agg #[.string ⟨#[]⟩,.slice none 0 0,.slice none 0 0],.slice none 0 0,.agg #[.int .i64 q.1,.int .i64 q.2]])/\Below w.heap.size w w'):=by
 unfold uD;rw [hq]
theorem uD.ok {w:World} {m:ByteArray} {K:List Kid} {e:Ending} {w':World} (hq:yW K [m] [] 1=none):uD w m K e w' ↔ ∃ (X:Nat->Prop) (B:Nat) (vv pv iv:Value) (P:List (ProcD × Value)),w.heap.size<=B/\e=.returned (.tuple #[.agg #[.string m,vv,pv],iv,.agg #[.int .i64 0,.int .i64 0]])/\FR X B w' vv pv (qE false K) P/\P.map (·.1)=qH false K/\(qY K).length<=20/\w'.ownsRow B 9 1 iv (qV K).length (yF (qV K))/\Below w.heap.size w w':=by
 unfold uD;rw [hq]
theorem zz0 (x:ByteArray) (m:ByteArray) (K:List Kid) (w:World) (hH:cX w) (hc:(kM x).code=0) (ht:(kM x).tree=.node 1 m 0 (K.map Kid.tree)) (hm16:m.size<=16) (hgood:∀ k∈K,k.good) (hK:kA (K.map Kid.tree)<=1000) (hps:∀ k∈K,k.kids.length<=1000) : Calls Tryz.prog 8 #[.string x] w (uD w m K):=by
 have c24:=kc25;have c27:=kc28;have c3:Tryz.prog.cellsOf 41=3:=gN;have hB:=Joins.below_alloc2 w (.cells #[.string ⟨#[]⟩,.slice none 0 0,.slice none 0 0] 41) (.cells #[.int .i64 0,.int .i64 0] 28);have hP:=zgt x ((w.alloc (.cells #[.string ⟨#[]⟩,.slice none 0 0,.slice none 0 0] 41)).alloc (.cells #[.int .i64 0,.int .i64 0] 28)) (zd6 hH hB);unfold dM at hP;rw [hc,ht] at hP;generalize (kM x).place=pp at hP;clear hc ht;have bF:=(Box3.new w (.string ⟨#[]⟩) (.slice none 0 0) (.slice none 0 0) 41).alloc (.cells #[.int .i64 0,.int .i64 0] 28);have bG:=Box2.new (w.alloc (.cells #[.string ⟨#[]⟩,.slice none 0 0,.slice none 0 0] 41)) (.int .i64 0) (.int .i64 0) 28;rw [jO] at bG;go_enter Tryz.func8,Tryz.ntmps8
 go_wp2_with first
  | (go_at_call 9;refine hP.mono ?_;rintro e w1 ⟨v,rfl,hly,hb1⟩;obtain ⟨a0,d0,rfl,hlyN⟩:=zrb hly;have hW0:=hB.trans (hb1.mono hB.size);have hWa:=Joins.below_alloc2 w1 (.cells #[.int .i64 1,.string m,.int .i64 0,.slice a0 K.length d0] 25) (.cells #[.int .i64 0,.int .i64 pp] 28);have hW:=hW0.trans (hWa.mono hW0.size);have hlyW:=hlyN.below hWa;have bFn:=(bF.below hb1).below hWa;have bGn:=(bG.below hb1).below hWa;have hsz:w.heap.size+1<w1.heap.size:=(bG.below hb1).lt;have hD:=ztm m K _ _ hlyW hm16 hgood hK hps)
  | fail
 cases hq:yW K [m] [] 1 with
 | some q =>
  refine hD.mono ?_;intro e w4 h4;rw [uD.bad hq] at h4;obtain ⟨rfl,hb4⟩:=h4;obtain ⟨t0,t1,t2,t3,t4,t5⟩:=bFn.below hb4;obtain ⟨s0,s1,s2,s3⟩:=bGn.below hb4;have HB:Hid (Below w.heap.size w w4):=hW.trans (hb4.mono hW.size);have HQ:Hid (yW K [m] [] 1=some q):=hq;clear hq bF bG bFn bGn hP hD hb4 hW hW0 hWa hB;go_wp2;refine jT (v:=.tuple #[.agg #[.string ⟨#[]⟩,.slice none 0 0,.slice none 0 0],.slice none 0 0,.agg #[.int .i64 q.1,.int .i64 q.2]]) (by simp [results,Tryz.results8,go_sem,t0,t1,t2,s0,s1]) rfl ?_;rw [uD.bad HQ.out]
  exact ⟨rfl,((((HB.out.setCell (jE _) _).setCell (jE _) _).setCell (jE _) _).setCell (Nat.le_succ _) _).setCell (Nat.le_succ _) _⟩
 | none =>
  refine hD.mono ?_;intro e w4 h4;rw [uD.ok hq] at h4;obtain ⟨X,B,vv,pv,iv,P,hBB,rfl,hF,hPm,hn,hi,hb4⟩:=h4;obtain ⟨av,cv,rfl⟩:=hF.shapeV;obtain ⟨ap,cp,rfl⟩:=hF.shapeP;obtain ⟨ai,ci,rfl,_,_⟩:=lexs.own_shape hi;obtain ⟨t0,t1,t2,t3,t4,t5⟩:=bFn.below hb4;obtain ⟨s0,s1,s2,s3⟩:=bGn.below hb4;have hsw:w1.heap.size<=B:=by have:=hWa.size;omega
  have HF:Hid _:=zy6 (w:=w) (by omega) hF hi (hW.trans (hb4.mono hW.size)) (.string m) (.slice av (qE false K).length cv) (.slice ap P.length cp) (.int .i64 0) (.int .i64 0);have HP:Hid (P.map (·.1)=qH false K/\(qY K).length<=20/\w.heap.size<=B):=⟨hPm,hn,by omega⟩
  have HQ:Hid (yW K [m] [] 1=none):=hq;clear hq bF bG bFn bGn hP hD hb4 hW hW0 hWa hB hF hi hPm hn;go_wp2;refine jT (v:=.tuple #[.agg #[.string m,.slice av (qE false K).length cv,.slice ap P.length cp],.slice ai (qV K).length ci,.agg #[.int .i64 0,.int .i64 0]]) (by simp [results,Tryz.results8,go_sem,t0,t1,t2,s0,s1]) rfl ?_;rw [uD.ok HQ.out];exact ⟨X,B,_,_,_,P,HP.out.2.2,rfl,HF.out.1,HP.out.1,HP.out.2.1,HF.out.2⟩
end face
namespace face
open Go.RowKit
open lexs (qP)
open syn (kK eqS)
theorem dH (n:Int) (w:World):Calls Tryz.prog 29 #[.int .i64 n] w fun e w'=>e=.returned (.bool (xH n))/\w'=w:=by
 unfold xH;cases h0:(n==0)
 ·cases h1:(n==1)
  all_goals
   go_enter Tryz.func29,Tryz.ntmps29;go_wp2;go_ret;exact ⟨rfl,rfl⟩
 ·go_enter Tryz.func29,Tryz.ntmps29;go_wp2;go_ret;exact ⟨rfl,rfl⟩
theorem qP.below {w w':World} (h:qP w) (hb:Below w.heap.size w w'):qP w':=by
 obtain ⟨v,hc,hv⟩:=h;exact ⟨v,keep hc hb,hv⟩
theorem xN {w w2:World} {cs:Array Value} {T:TypeId} (hb:Below (w.alloc (.cells cs T)).heap.size (w.alloc (.cells cs T)) w2) (k:Nat):w2.cell? ⟨w.heap.size,k,none⟩=cs[k]?:=by
 rw [hb.cell (p:=⟨w.heap.size,k,none⟩) (by simp)];simp
theorem zvr (v:VarD) (w:World) (hw:qP w) : Calls Tryz.prog 15 #[qN v] w fun e w'=>e=.returned (.bool (gP v))/\Below w.heap.size w w':=by
 have c4:Tryz.prog.cellsOf 57=4:=cell4;obtain ⟨x,p,l,z⟩:=v;unfold qN;have hB:=(Below.refl w.heap.size w).alloc (jE _) (.cells #[.string x,.bool p,.int .i64 l,.int .i64 z] 57);have hN:=zay x _ (qP.below hw hB);obtain ⟨V,hV⟩:∃ V,V=gP ⟨x,p,l,z⟩:=⟨_,rfl⟩
 rw [<- hV];have HV:Hid (V=(kK x&&(p&&(xH l&&(decide (0<=z)&&decide (z<=64)))))):=hV;clear hV;cases hn:kK x
 case false =>
  have HF:Hid (V=false):=by show _=_;rw [HV.out,hn];rfl
  go_enter Tryz.func15,Tryz.ntmps15;go_wp2_with (go_at_call 14;refine hN.mono ?_;rw [hn];rintro e w2 ⟨rfl,hb2⟩);go_ret;exact ⟨vP HF.out.symm,hB.trans (hb2.mono (by simp))⟩
 cases hp:p
 case false =>
  subst hp;have HF:Hid (V=false):=by show _=_;rw [HV.out,hn];rfl
  go_enter Tryz.func15,Tryz.ntmps15;go_wp2_with (go_at_call 14;refine hN.mono ?_;rw [hn];rintro e w2 ⟨rfl,hb2⟩;have q1:w2.cell? ⟨w.heap.size,1,none⟩=some (.bool false):=xN hb2 1);go_ret;exact ⟨vP HF.out.symm,hB.trans (hb2.mono (by simp))⟩
 subst hp;cases hl:xH l
 case false =>
  have HF:Hid (V=false):=by show _=_;rw [HV.out,hn,hl];rfl
  go_enter Tryz.func15,Tryz.ntmps15
  go_wp2_with first
   | (go_at_call 14;refine hN.mono ?_;rw [hn];rintro e w2 ⟨rfl,hb2⟩;have q1:w2.cell? ⟨w.heap.size,1,none⟩=some (.bool true):=xN hb2 1;have q2:w2.cell? ⟨w.heap.size,2,none⟩=some (.int .i64 l):=xN hb2 2)
   | (go_at_call 29;refine (dH _ _).mono ?_;rw [hl];rintro e w3 ⟨rfl,hw3⟩;obtain rfl:=hw3.symm)
  go_ret;exact ⟨vP HF.out.symm,hB.trans (hb2.mono (by simp))⟩
 by_cases h0:0<=z
 ·by_cases h64:z<=64
  all_goals
   have HF:Hid (V=decide (z<=64)):=by show _=_;rw [HV.out,hn,hl,decide_eq_true h0];rfl
   go_enter Tryz.func15,Tryz.ntmps15
   go_wp2_with first
    | (go_at_call 14;refine hN.mono ?_;rw [hn];rintro e w2 ⟨rfl,hb2⟩;have q1:w2.cell? ⟨w.heap.size,1,none⟩=some (.bool true):=xN hb2 1;have q2:w2.cell? ⟨w.heap.size,2,none⟩=some (.int .i64 l):=xN hb2 2;have q3:w2.cell? ⟨w.heap.size,3,none⟩=some (.int .i64 z):=xN hb2 3)
    | (go_at_call 29;refine (dH _ _).mono ?_;rw [hl];rintro e w3 ⟨rfl,hw3⟩;obtain rfl:=hw3.symm)
   go_ret;exact ⟨vP (by rw [HF.out]<;>simp [h64]),hB.trans (hb2.mono (by simp))⟩
 ·have HF:Hid (V=false):=by show _=_;rw [HV.out,hn,hl,decide_eq_false h0];rfl
  go_enter Tryz.func15,Tryz.ntmps15
  go_wp2_with first
   | (go_at_call 14;refine hN.mono ?_;rw [hn];rintro e w2 ⟨rfl,hb2⟩;have q1:w2.cell? ⟨w.heap.size,1,none⟩=some (.bool true):=xN hb2 1;have q2:w2.cell? ⟨w.heap.size,2,none⟩=some (.int .i64 l):=xN hb2 2;have q3:w2.cell? ⟨w.heap.size,3,none⟩=some (.int .i64 z):=xN hb2 3)
   | (go_at_call 29;refine (dH _ _).mono ?_;rw [hl];rintro e w3 ⟨rfl,hw3⟩;obtain rfl:=hw3.symm)
  go_ret;exact ⟨vP HF.out.symm,hB.trans (hb2.mono (by simp))⟩
/-! slices.Equal of numbers -/
end face
end Go.Proofs.YtaadmdlbkhcfnaaGreatDoor
