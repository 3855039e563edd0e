/- A region that draws its order: an operation is taken first, its slot written out. -/
import Derived.Test.YtaadmdlbkhcfnaaGreatDoorNC07
set_option maxHeartbeats 4000000
set_option linter.unusedVariables false
set_option linter.unusedSimpArgs false
set_option maxRecDepth 100000
namespace Go.Proofs.YtaadmdlbkhcfnaaGreatDoor
namespace chk
open Go.RowKit Go.Maps
open syn face
def fvO (o:Option FV):Option Value:=o.map fvV
theorem zs9 (D Gb Kb gn kn:Nat) (g k:ByteArray->Option Value) (x:ByteArray) (a:Int) (w:World) (h4:w.cell? ⟨D,4,none⟩=some (.map (some Gb))) (h5:w.cell? ⟨D,5,none⟩=some (.map (some Kb))) (hG:qM w Gb gn g) (hK:qM w Kb kn k) (hx:x.size<=1000) (hkn:kn<=1000) (hne:D≠Kb) (hsh:∀ v,g x=some v->∃ m a1 n1 c1 a2 n2 c2,v=.agg #[.string m,.slice a1 n1 c1,.slice a2 n2 c2]) : Calls Tryz.prog 41 #[.pointer (some ⟨D,0,none⟩),.string x,.int .i64 a] w fun e w' =>
   (g x=none/\e=.panicked (qS 4 a)/\Below w.heap.size w w')\/(∃ v,g x=some v/\e=.returned (.tuple #[])/\qM w' Kb (kn+1) (fun z=>if eqS z x then some v else k z)/\w.grownBy w' (some Kb)):=by
 have c3:Tryz.prog.cellsOf 41=3:=gN;have hx':x.size<=maxLen:=by unfold maxLen;omega
 have hdl:D<w.heap.size:=jR w ⟨D,4,none⟩ h4
 cases hg:g x with
 | none =>
  have HN:Hid (g x=none):=hg;go_enter Tryz.func41,Tryz.ntmps41
  go_wp2_with first
   | (at_lookup;refine za9 (f:=g) rfl _ _ rfl rfl hG x hx' rfl ?_;rw [hg];unfold uE)
   | (go_at_call 67;refine (vL _ _ _).mono ?_;rintro e w7 ⟨rfl,hw7⟩;obtain rfl:=hw7.symm)
   | go_in
  exact ⟨rfl,.inl ⟨trivial,rfl,bal _⟩⟩
 | some v =>
  obtain ⟨m,a1,n1,c1,a2,n2,c2,rfl⟩:=hsh v hg;have hK1:=hK.below ((Below.refl w.heap.size w).alloc (jE _) (.cells #[.string m,.slice a1 n1 c1,.slice a2 n2 c2] 41));go_enter Tryz.func41,Tryz.ntmps41
  go_wp2_with first
   | (at_lookup;refine za9 (f:=g) rfl _ _ rfl rfl hG x hx' rfl ?_;rw [hg])
   | go_in
  have hS:(w.alloc (.cells #[.string m,.slice a1 n1 c1,.slice a2 n2 c2] 41)).drew.cell? ⟨D,5,none⟩=some (.map (some Kb))/\(w.alloc (.cells #[.string m,.slice a1 n1 c1,.slice a2 n2 c2] 41)).drew.cell? ⟨w.heap.size,0,none⟩=some (.string m)/\(w.alloc (.cells #[.string m,.slice a1 n1 c1,.slice a2 n2 c2] 41)).drew.cell? ⟨w.heap.size,1,none⟩=some (.slice a1 n1 c1)/\(w.alloc (.cells #[.string m,.slice a1 n1 c1,.slice a2 n2 c2] 41)).drew.cell? ⟨w.heap.size,2,none⟩=some (.slice a2 n2 c2):=⟨xU h5 _,by simp,by simp,by simp⟩
  have hKW:qM (w.alloc (.cells #[.string m,.slice a1 n1 c1,.slice a2 n2 c2] 41)).drew Kb kn k:=hK1.below (Below.refl _ _).drew;have hBW:Below w.heap.size w (w.alloc (.cells #[.string m,.slice a1 n1 c1,.slice a2 n2 c2] 41)).drew:=(bal _).drew;have hlt:=hK.lt;refine wp_region_held_drew (S:=fun W=>W.cell? ⟨D,5,none⟩=some (.map (some Kb))/\W.cell? ⟨w.heap.size,0,none⟩=some (.string m)/\W.cell? ⟨w.heap.size,1,none⟩=some (.slice a1 n1 c1)/\W.cell? ⟨w.heap.size,2,none⟩=some (.slice a2 n2 c2)) (by kernel_rfl) hS (fun hHeld=>?_);clear hHeld hK1;generalize (w.alloc (.cells #[.string m,.slice a1 n1 c1,.slice a2 n2 c2] 41)).drew=W at *;obtain ⟨W1,hrun,hM1,hg1⟩:=hKW.store (by unfold maxLen;omega) x hx' (.agg #[.string m,.slice a1 n1 c1,.slice a2 n2 c2]);refine tkP 0 (.pointer (some ⟨D,0,none⟩)) hS ?_;simp only [Act.put,jA,jB,jC];refine tkP 1 (.pointer (some ⟨D,0,none⟩)) hS ?_;simp only [Act.put,jA,jB,jC];refine tkP 2 (.pointer (some ⟨D,5,none⟩)) hS ?_;simp only [Act.put,jA,jB,jC];refine tkP 3 (.map (some Kb)) hS ?_;simp only [Act.put,jA,jB,jC];refine tkP 4 (.string x) hS ?_;simp only [Act.put,jA,jB,jC];refine tkP 5 (.agg #[.string m,.slice a1 n1 c1,.slice a2 n2 c2] ) hS ?_;simp only [Act.put,jA,jB,jC];refine wpAnyH_ready (rs:=[6]) (by kernel_rfl) (by simp) ?_;refine AllReadyH.cons rfl (fun KK hKK=>?_) AllReadyH.nil;go_simp;have hne2:Kb≠w.heap.size:=by omega
  refine hKK.out _ _ ⟨vY hg1 hS.1 (by simp;omega),vY hg1 hS.2.1 (by simp;omega),vY hg1 hS.2.2.1 (by simp;omega),vY hg1 hS.2.2.2 (by simp;omega)⟩ (fun hHeld=>?_);clear hKK KK hHeld;refine wpAnyH_done (by kernel_rfl) ?_ _;go_wp2
  go_end0
  exact .inr ⟨_,rfl,rfl,hM1,((za7 hBW).but _).trans hg1⟩
end chk
namespace chk
open Go.RowKit
open syn face
theorem zeq {α:Type} {p:α->Bool} {l:List α} {j:Nat} (hj:j<l.length) (h:∀ i (hi:i<l.length),i<j->p l[i]=false) (hp:p l[j]=true):l.find? p=some l[j]:=by
 induction l generalizing j with
 | nil=>simp at hj
 | cons a r ih =>
  cases j with
  | zero=>exact List.find?_cons_of_pos hp
  | succ j =>
   rw [List.find?_cons_of_neg (by rw [show p a=false from h 0 (by simp) (by omega)];decide)];exact ih (by simpa using hj) (fun i hi hlt=>h (i+1) (by simpa using hi) (by omega)) hp
theorem zjo {α:Type} {p:α->Bool} {l:List α} (h:∀ i (hi:i<l.length),p l[i]=false):l.find? p=none:=by
 rw [List.find?_eq_none];intro a ha;obtain ⟨i,hi,rfl⟩:=List.mem_iff_getElem.1 ha;simp [h i hi]
theorem zkm {w:World} {q:FV} (h:yZ w (fvV q) q.1):∃ a c a' c',q=(q.1,.slice a q.1.vars.length c,.slice a' q.1.procs.length c'):=by
 obtain ⟨vv,pv,e,⟨a,c,rfl,_,_⟩,⟨a',c',rfl,_,_⟩⟩:=h;obtain ⟨f,v1,v2⟩:=q;unfold fvV at e;injection e with e;simp only [Array.mk.injEq,jq,and_true,true_and] at e;obtain ⟨rfl,rfl⟩:=e;exact ⟨a,c,a',c',rfl⟩
theorem zuy {α:Type} {p:α->Bool} {l:List α} {j:Nat} (hj:j<l.length) (h:∀ i (hi:i<l.length),j<i->p l[i]=false) (hp:p l[j]=true):l.reverse.find? p=some l[j]:=by
 have hj2:l.length - 1 - j<l.reverse.length:=by rw [List.length_reverse];omega
 have e:l.reverse[l.length - 1 - j]=l[j]:=by
  rw [List.getElem_reverse]
  congr 1
  omega
 have:=zeq (l:=l.reverse) (p:=p) hj2 (fun i hi hlt=>by
  rw [List.getElem_reverse];rw [List.length_reverse] at hi
  exact h _ _ (by omega)) (by rw [e];exact hp)
 rw [this,e]
theorem zo2 {α:Type} {p:α->Bool} {l:List α} (h:∀ i (hi:i<l.length),p l[i]=false):l.reverse.find? p=none:=by
 rw [List.find?_eq_none];intro a ha;obtain ⟨i,hi,rfl⟩:=List.mem_iff_getElem.1 (List.mem_reverse.1 ha);simp [h i hi]
end chk
namespace face
open Go.RowKit
open syn
section
variable {w w':World} {N M:Nat} {x0 x1 x2 x3:Value}
theorem F4.other (h:F4 w N x0 x1 x2 x3) {o:Nat} (hne:M≠N) (v:Value):F4 (w.setCell ⟨M,o,none⟩ v) N x0 x1 x2 x3:=h.block (jP _ _ _ _ (fun e=>hne (by rw [e])))
theorem F4.other4 (h:F4 w N x0 x1 x2 x3) (hne:M≠N) (a b c d:Value):F4 ((((w.setCell ⟨M,0,none⟩ a).setCell ⟨M,1,none⟩ b).setCell ⟨M,2,none⟩ c).setCell ⟨M,3,none⟩ d) N x0 x1 x2 x3:=(((h.other hne a).other hne b).other hne c).other hne d
theorem F4.set0 (h:F4 w N x0 x1 x2 x3) (v:Value):F4 (w.setCell ⟨N,0,none⟩ v) N v x1 x2 x3 :=
 ⟨jS _ _ _ h.c0,by rw [jD _ _ _ _ (by simp)];exact h.c1,by rw [jD _ _ _ _ (by simp)];exact h.c2,by rw [jD _ _ _ _ (by simp)];exact h.c3,by simp [h.f0],by simp [h.f1],by simp [h.f2],by simp [h.f3]⟩
theorem F4.set1 (h:F4 w N x0 x1 x2 x3) (v:Value):F4 (w.setCell ⟨N,1,none⟩ v) N x0 v x2 x3 :=
 ⟨by rw [jD _ _ _ _ (by simp)];exact h.c0,jS _ _ _ h.c1,by rw [jD _ _ _ _ (by simp)];exact h.c2,by rw [jD _ _ _ _ (by simp)];exact h.c3,by simp [h.f0],by simp [h.f1],by simp [h.f2],by simp [h.f3]⟩
theorem F4.set2 (h:F4 w N x0 x1 x2 x3) (v:Value):F4 (w.setCell ⟨N,2,none⟩ v) N x0 x1 v x3 :=
 ⟨by rw [jD _ _ _ _ (by simp)];exact h.c0,by rw [jD _ _ _ _ (by simp)];exact h.c1,jS _ _ _ h.c2,by rw [jD _ _ _ _ (by simp)];exact h.c3,by simp [h.f0],by simp [h.f1],by simp [h.f2],by simp [h.f3]⟩
theorem F4.set3 (h:F4 w N x0 x1 x2 x3) (v:Value):F4 (w.setCell ⟨N,3,none⟩ v) N x0 x1 x2 v :=
 ⟨by rw [jD _ _ _ _ (by simp)];exact h.c0,by rw [jD _ _ _ _ (by simp)];exact h.c1,by rw [jD _ _ _ _ (by simp)];exact h.c2,jS _ _ _ h.c3,by simp [h.f0],by simp [h.f1],by simp [h.f2],by simp [h.f3]⟩
theorem F4.set4 (h:F4 w N x0 x1 x2 x3) (a b c d:Value):F4 ((((w.setCell ⟨N,0,none⟩ a).setCell ⟨N,1,none⟩ b).setCell ⟨N,2,none⟩ c).setCell ⟨N,3,none⟩ d) N a b c d:=(((h.set0 a).set1 b).set2 c).set3 d
theorem F4.alloc (h:F4 w N x0 x1 x2 x3) (o:Obj):F4 (w.alloc o) N x0 x1 x2 x3:=h.below (bal o)
theorem zee {B:Nat} {a:World} (h:Below B a w) (hM:B<=M) (x0 x1 x2 x3:Value):Below B a ((((w.setCell ⟨M,0,none⟩ x0).setCell ⟨M,1,none⟩ x1).setCell ⟨M,2,none⟩ x2).setCell ⟨M,3,none⟩ x3):=(((h.setCell hM _).setCell hM _).setCell hM _).setCell hM _
end
theorem znx (x:ByteArray) (p l:Bool) (n:Option Int) (v:Value) (w:World) (hv:kC (·<w.heap.size) w (Kid.var x p l n).tree v) : Calls Tryz.prog 65 #[v] w fun e w'=>e=.returned (qN (vD x p l n))/\Below w.heap.size w w':=by
 have c24:=kc25;have c4:Tryz.prog.cellsOf 57=4:=cell4;have HP:(bits BinOp.and IntKind.i64 (2*bI p+bI l) 2 != 0)=p:=by have:=zk0 p l none;rw [show gI none=0 from rfl,Int.add_zero] at this;exact this
 have HL:bits BinOp.and IntKind.i64 (2*bI p+bI l) 1=bI l:=by have:=zka p l none;rw [show gI none=0 from rfl,Int.add_zero] at this;exact this
 rw [Kid.tree_is] at hv;unfold kC at hv;obtain ⟨a,c,rfl,hl,hk⟩:=hv;simp only [Kid.kind,Kid.text,Kid.num] at *;generalize 2*bI p+bI l=m at HP HL;generalize hkl:(Kid.var x p l n).kids.length=kl
 have hkids:0<kl->∃ (g o:Nat) (k:Int) (ak:Option Addr) (ck:Nat),a=some ⟨g,o,none⟩/\kl=1/\n=some k/\g<w.heap.size/\w.cell? ⟨g,o,none⟩=some (.int .i64 15)/\w.cell? ⟨g,o+1,none⟩=some (.string empty)/\w.cell? ⟨g,o+2,none⟩=some (.int .i64 k)/\w.cell? ⟨g,o+3,none⟩=some (.slice ak 0 ck):=by
  intro h0
  cases n with
  | none=>simp [Kid.kids] at hkl;omega
  | some k =>
   obtain ⟨g,o,rfl,hg,hat⟩:=hk (by simp [Kid.kids]);unfold Kid.kids at hat
   obtain ⟨⟨v1,⟨x0,x1,x2,x3,rfl,c0,c1,c2,c3⟩,hv1⟩,_⟩:=hat
   unfold kC at hv1;obtain ⟨a1,d1,e1,_,_⟩:=hv1;cases e1;simp [Kid.kids] at hkl;exact ⟨g,o,k,a1,d1,rfl,hkl.symm,rfl,hg,c0,c1,c2,c3⟩
 have hzero:kl=0->n.getD 0=0:=by
  intro h0
  cases n with
  | none=>rfl
  | some k=>simp [Kid.kids] at hkl;omega
 have hle:kl<=1:=by
  cases n with
  | none=>simp [Kid.kids] at hkl;omega
  | some k=>simp [Kid.kids] at hkl;omega
 clear hk hl hkl;have hPub:∀ W,Calls Tryz.prog 87 #[.agg #[.int .i64 3,.string x,.int .i64 m,.slice a kl c]] W fun e w'=>e=.returned (.bool p)/\Below W.heap.size W w':=fun W=>by have:=znj 3 x m a kl c W;rw [HP] at this;exact this
 have hLab:∀ W,Calls Tryz.prog 88 #[.agg #[.int .i64 3,.string x,.int .i64 m,.slice a kl c]] W fun e w'=>e=.returned (.int .i64 (bI l))/\Below W.heap.size W w':=fun W=>by have:=cQ 3 x m a kl c W;rw [HL] at this;exact this
 clear HP HL;have hQ:Q4 w.heap.size (.int .i64 3) (.string x) (.int .i64 m) (.slice a kl c) ((w.alloc (.cells #[.int .i64 3,.string x,.int .i64 m,.slice a kl c] 25)).alloc (.cells #[.string ⟨#[]⟩,.bool false,.int .i64 0,.int .i64 0] 57)).drew:=⟨by simp,by simp,by simp,by simp⟩
 have hB:Below w.heap.size w ((w.alloc (.cells #[.int .i64 3,.string x,.int .i64 m,.slice a kl c] 25)).alloc (.cells #[.string ⟨#[]⟩,.bool false,.int .i64 0,.int .i64 0] 57)).drew:=(Joins.below_alloc2 w (.cells #[.int .i64 3,.string x,.int .i64 m,.slice a kl c] 25) (.cells #[.string ⟨#[]⟩,.bool false,.int .i64 0,.int .i64 0] 57)).drew;have hR:F4 ((w.alloc (.cells #[.int .i64 3,.string x,.int .i64 m,.slice a kl c] 25)).alloc (.cells #[.string ⟨#[]⟩,.bool false,.int .i64 0,.int .i64 0] 57)).drew (w.heap.size+1) (.string ⟨#[]⟩) (.bool false) (.int .i64 0) (.int .i64 0):=by constructor<;>simp
 go_enter Tryz.func65,Tryz.ntmps65;go_wp2;refine wp_region_held_drew (S:=fun W=>Q4 w.heap.size (.int .i64 3) (.string x) (.int .i64 m) (.slice a kl c) W) (by kernel_rfl) hQ (fun hHeld=>?_);clear hHeld;generalize ((w.alloc (.cells #[.int .i64 3,.string x,.int .i64 m,.slice a kl c] 25)).alloc (.cells #[.string ⟨#[]⟩,.bool false,.int .i64 0,.int .i64 0] 57)).drew=W at *;refine tkP 0 (.pointer (some ⟨w.heap.size,1,none⟩)) hQ ?_;simp only [Act.put,jA,jB,jC];refine tkP 1 (.string x) hQ ?_;simp only [Act.put,jA,jB,jC];refine tkP 2 (.agg #[.int .i64 3,.string x,.int .i64 m,.slice a kl c] ) hQ ?_;simp only [Act.put,jA,jB,jC];refine tkP 4 (.agg #[.int .i64 3,.string x,.int .i64 m,.slice a kl c] ) hQ ?_;simp only [Act.put,jA,jB,jC];refine wpAnyH_ready (rs:=[3,7]) (by kernel_rfl) (by simp) ?_;refine AllReadyH.cons rfl (fun K hK=>?_) (AllReadyH.cons rfl (fun K hK=>?_) AllReadyH.nil)
 focus
  go_simp;go_at_call 87;refine (hPub _).mono ?_;rintro e W1 ⟨rfl,hb⟩;go_wp2;replace hQ:=Q4.below hQ hb;replace hB:=hB.trans (hb.mono hB.size);replace hR:=hR.below hb;skip;refine hK.out _ _ hQ (fun hHeld=>?_);clear hK K hHeld hb;refine wpAnyH_ready (rs:=[5,7]) (by kernel_rfl) (by simp) ?_;refine AllReadyH.cons rfl (fun K hK=>?_) (AllReadyH.cons rfl (fun K hK=>?_) AllReadyH.nil)
  focus
   go_simp;go_at_call 88;refine (hLab _).mono ?_;rintro e W2 ⟨rfl,hb⟩;go_wp2;replace hQ:=Q4.below hQ hb;replace hB:=hB.trans (hb.mono hB.size);replace hR:=hR.below hb;skip;refine hK.out _ _ hQ (fun hHeld=>?_);clear hK K hHeld hb;refine tkP 6 (.agg #[.string x,.bool p,.int .i64 (bI l),.int .i64 0] ) hQ ?_;simp only [Act.put,jA,jB,jC];refine oneH 7 fun K hK=>?_
   go_simp;have hN:=F4.new W2 (.string ⟨#[]⟩) (.bool false) (.int .i64 0) (.int .i64 0) 57;have hgt:w.heap.size+1<W2.heap.size:=hR.lt;replace hQ:=Q4.alloc hQ (.cells #[.string ⟨#[]⟩,.bool false,.int .i64 0,.int .i64 0] 57);replace hB:=hB.alloc hB.size (.cells #[.string ⟨#[]⟩,.bool false,.int .i64 0,.int .i64 0] 57);replace hR:=hR.alloc (.cells #[.string ⟨#[]⟩,.bool false,.int .i64 0,.int .i64 0] 57);refine hK.out _ _ hQ (fun hHeld=>?_);clear hK K hHeld;generalize W2.alloc (.cells #[.string ⟨#[]⟩,.bool false,.int .i64 0,.int .i64 0] 57)=Wa at *;generalize W2.heap.size=N at *
  rotate_left
  focus
   go_simp;have hN:=F4.new W1 (.string ⟨#[]⟩) (.bool false) (.int .i64 0) (.int .i64 0) 57;have hgt:w.heap.size+1<W1.heap.size:=hR.lt;replace hQ:=Q4.alloc hQ (.cells #[.string ⟨#[]⟩,.bool false,.int .i64 0,.int .i64 0] 57);replace hB:=hB.alloc hB.size (.cells #[.string ⟨#[]⟩,.bool false,.int .i64 0,.int .i64 0] 57);replace hR:=hR.alloc (.cells #[.string ⟨#[]⟩,.bool false,.int .i64 0,.int .i64 0] 57);refine hK.out _ _ hQ (fun hHeld=>?_);clear hK K hHeld;generalize W1.alloc (.cells #[.string ⟨#[]⟩,.bool false,.int .i64 0,.int .i64 0] 57)=Wa at *;generalize W1.heap.size=N at *;refine oneH 5 fun K hK=>?_
   go_simp;go_at_call 88;refine (hLab _).mono ?_;rintro e W2 ⟨rfl,hb⟩;go_wp2;replace hQ:=Q4.below hQ hb;replace hB:=hB.trans (hb.mono hB.size);replace hR:=hR.below hb;replace hN:=hN.below hb;refine hK.out _ _ hQ (fun hHeld=>?_);clear hK K hHeld hb;refine tkP 6 (.agg #[.string x,.bool p,.int .i64 (bI l),.int .i64 0] ) hQ ?_;simp only [Act.put,jA,jB,jC]
 rotate_left 2
 focus
  go_simp;have hN:=F4.new W (.string ⟨#[]⟩) (.bool false) (.int .i64 0) (.int .i64 0) 57;have hgt:w.heap.size+1<W.heap.size:=hR.lt;replace hQ:=Q4.alloc hQ (.cells #[.string ⟨#[]⟩,.bool false,.int .i64 0,.int .i64 0] 57);replace hB:=hB.alloc hB.size (.cells #[.string ⟨#[]⟩,.bool false,.int .i64 0,.int .i64 0] 57);replace hR:=hR.alloc (.cells #[.string ⟨#[]⟩,.bool false,.int .i64 0,.int .i64 0] 57);refine hK.out _ _ hQ (fun hHeld=>?_);clear hK K hHeld;generalize W.alloc (.cells #[.string ⟨#[]⟩,.bool false,.int .i64 0,.int .i64 0] 57)=Wa at *;generalize W.heap.size=N at *;refine oneH 3 fun K hK=>?_
  go_simp;go_at_call 87;refine (hPub _).mono ?_;rintro e W1 ⟨rfl,hb⟩;go_wp2;replace hQ:=Q4.below hQ hb;replace hB:=hB.trans (hb.mono hB.size);replace hR:=hR.below hb;replace hN:=hN.below hb;refine hK.out _ _ hQ (fun hHeld=>?_);clear hK K hHeld hb;refine oneH 5 fun K hK=>?_
  go_simp;go_at_call 88;refine (hLab _).mono ?_;rintro e W2 ⟨rfl,hb⟩;go_wp2;replace hQ:=Q4.below hQ hb;replace hB:=hB.trans (hb.mono hB.size);replace hR:=hR.below hb;replace hN:=hN.below hb;refine hK.out _ _ hQ (fun hHeld=>?_);clear hK K hHeld hb;refine tkP 6 (.agg #[.string x,.bool p,.int .i64 (bI l),.int .i64 0] ) hQ ?_;simp only [Act.put,jA,jB,jC]
 all_goals
  refine oneH 8 fun K hK=>?_
  obtain ⟨n0,n1,n2,n3,g0,g1,g2,g3⟩:=id hN;go_simp;replace hN:=hN.set4 (.string x) (.bool p) (.int .i64 (bI l)) (.int .i64 0);replace hQ:=Q4.set4 (M:=N) (by omega) hQ (.string x) (.bool p) (.int .i64 (bI l)) (.int .i64 0);replace hB:=zee (M:=N) hB (by omega) (.string x) (.bool p) (.int .i64 (bI l)) (.int .i64 0);replace hR:=hR.other4 (M:=N) (by omega) (.string x) (.bool p) (.int .i64 (bI l)) (.int .i64 0);refine hK.out _ _ hQ (fun hHeld=>?_);clear hK K hHeld n0 n1 n2 n3 g0 g1 g2 g3;generalize (World.setCell _ ⟨N,3,none⟩ _)=Wz at *;refine wpAnyH_done (by kernel_rfl) ?_ _;obtain ⟨q0,q1,q2,q3⟩:=id hQ;go_wp2;go_loopw [16] (fun t wr=>∃ (j:Nat) (y:Int),j<=kl/\Hid (j=kl->y=n.getD 0)/\t=.int .i64 j/\Below w.heap.size w wr/\F4 wr N (.string x) (.bool p) (.int .i64 (bI l)) (.int .i64 y)/\F4 wr (w.heap.size+1) (.string ⟨#[]⟩) (.bool false) (.int .i64 0) (.int .i64 0)) (fun t _=>kl - (intOf t).toNat)
  case atStart=>exact ⟨0,0,jz _,fun e=>(hzero e.symm).symm,rfl,hB,hN,hR⟩
  case round =>
   clear hB hN hR q0 q1 q2 q3 hQ;obtain ⟨j,y,hj,HY,rfl,hbw,b3,b1⟩:=hrel;have hs3:=b3.lt;have hs1:=b1.lt;obtain ⟨a0,a1,a2,a3,f0,f1,f2,f3⟩:=id b3;obtain ⟨d0,d1,d2,d3,e0,e1,e2,e3⟩:=id b1;by_cases hlt:j<kl
   ·obtain ⟨g,o,k,ak,ck,rfl,rfl,rfl,hg,c0,c1,c2,c3⟩:=hkids (by omega);have hj0:j=0:=by omega
    subst hj0;have k0:=keep c0 hbw;have k1:=keep c1 hbw;have k2:=keep c2 hbw;have k3:=keep c3 hbw;go_wp2;go_roundw
    case rel=>exact ⟨1,k,by omega,fun _=>rfl,by go_num,(hbw.setCell (by show w.heap.size<=N;omega) _).alloc (by rw [jQ];exact hbw.size) _,(b3.set3 _).alloc _,(b1.other (by omega) _).alloc _⟩
    case measure=>simp [intOf]
   ·have hj0:j=kl:=by omega
    subst hj0;have HZ:Hid (y=n.getD 0):=HY.out rfl;clear HY;go_wp2;refine jT (v:=.agg #[.string x,.bool p,.int .i64 (bI l),.int .i64 y]) (by simp [results,Tryz.results65,go_sem,d0,d1,d2,d3]) rfl ⟨by rw [HZ.out];rfl,zee hbw (by omega) _ _ _ _⟩
section
variable {w w':World} {N M:Nat} {x0 x1 x2 x3 x4 x5:Value}
theorem Box6.other6 (h:Box6 w N x0 x1 x2 x3 x4 x5) (hne:M≠N) (a b c d e f:Value):Box6 ((((((w.setCell ⟨M,0,none⟩ a).setCell ⟨M,1,none⟩ b).setCell ⟨M,2,none⟩ c).setCell ⟨M,3,none⟩ d).setCell ⟨M,4,none⟩ e).setCell ⟨M,5,none⟩ f) N x0 x1 x2 x3 x4 x5:=(((((h.other hne a).other hne b).other hne c).other hne d).other hne e).other hne f
theorem Q4.other {y0 y1 y2 y3:Value} (hne:M≠N) (h:Q4 N y0 y1 y2 y3 w) (o:Nat) (v:Value):Q4 N y0 y1 y2 y3 (w.setCell ⟨M,o,none⟩ v) :=
 ⟨by rw [jD _ _ _ _ (by intro e;cases e;exact hne rfl)];exact h.1,by rw [jD _ _ _ _ (by intro e;cases e;exact hne rfl)];exact h.2.1,by rw [jD _ _ _ _ (by intro e;cases e;exact hne rfl)];exact h.2.2.1,by rw [jD _ _ _ _ (by intro e;cases e;exact hne rfl)];exact h.2.2.2⟩
theorem Q4.other6 {y0 y1 y2 y3:Value} (hne:M≠N) (h:Q4 N y0 y1 y2 y3 w) (a b c d e f:Value):Q4 N y0 y1 y2 y3 ((((((w.setCell ⟨M,0,none⟩ a).setCell ⟨M,1,none⟩ b).setCell ⟨M,2,none⟩ c).setCell ⟨M,3,none⟩ d).setCell ⟨M,4,none⟩ e).setCell ⟨M,5,none⟩ f) :=
 Q4.other hne (Q4.other hne (Q4.other hne (Q4.other hne (Q4.other hne (Q4.other hne h 0 a) 1 b) 2 c) 3 d) 4 e) 5 f
theorem zcj {B:Nat} {a:World} (h:Below B a w) (hM:B<=M) (x0 x1 x2 x3 x4 x5:Value):Below B a ((((((w.setCell ⟨M,0,none⟩ x0).setCell ⟨M,1,none⟩ x1).setCell ⟨M,2,none⟩ x2).setCell ⟨M,3,none⟩ x3).setCell ⟨M,4,none⟩ x4).setCell ⟨M,5,none⟩ x5):=(((((h.setCell hM _).setCell hM _).setCell hM _).setCell hM _).setCell hM _).setCell hM _
theorem Box6.set0 (h:Box6 w N x0 x1 x2 x3 x4 x5) (v:Value):Box6 (w.setCell ⟨N,0,none⟩ v) N v x1 x2 x3 x4 x5 :=
 ⟨jS _ _ _ h.c0,by rw [jD _ _ _ _ (by simp)];exact h.c1,by rw [jD _ _ _ _ (by simp)];exact h.c2,by rw [jD _ _ _ _ (by simp)];exact h.c3,by rw [jD _ _ _ _ (by simp)];exact h.c4,by rw [jD _ _ _ _ (by simp)];exact h.c5,by simp [h.f0],by simp [h.f1],by simp [h.f2],by simp [h.f3],by simp [h.f4],by simp [h.f5]⟩
theorem Box6.set1 (h:Box6 w N x0 x1 x2 x3 x4 x5) (v:Value):Box6 (w.setCell ⟨N,1,none⟩ v) N x0 v x2 x3 x4 x5 :=
 ⟨by rw [jD _ _ _ _ (by simp)];exact h.c0,jS _ _ _ h.c1,by rw [jD _ _ _ _ (by simp)];exact h.c2,by rw [jD _ _ _ _ (by simp)];exact h.c3,by rw [jD _ _ _ _ (by simp)];exact h.c4,by rw [jD _ _ _ _ (by simp)];exact h.c5,by simp [h.f0],by simp [h.f1],by simp [h.f2],by simp [h.f3],by simp [h.f4],by simp [h.f5]⟩
theorem Box6.set3 (h:Box6 w N x0 x1 x2 x3 x4 x5) (v:Value):Box6 (w.setCell ⟨N,3,none⟩ v) N x0 x1 x2 v x4 x5 :=
 ⟨by rw [jD _ _ _ _ (by simp)];exact h.c0,by rw [jD _ _ _ _ (by simp)];exact h.c1,by rw [jD _ _ _ _ (by simp)];exact h.c2,jS _ _ _ h.c3,by rw [jD _ _ _ _ (by simp)];exact h.c4,by rw [jD _ _ _ _ (by simp)];exact h.c5,by simp [h.f0],by simp [h.f1],by simp [h.f2],by simp [h.f3],by simp [h.f4],by simp [h.f5]⟩
theorem Box6.set4 (h:Box6 w N x0 x1 x2 x3 x4 x5) (v:Value):Box6 (w.setCell ⟨N,4,none⟩ v) N x0 x1 x2 x3 v x5 :=
 ⟨by rw [jD _ _ _ _ (by simp)];exact h.c0,by rw [jD _ _ _ _ (by simp)];exact h.c1,by rw [jD _ _ _ _ (by simp)];exact h.c2,by rw [jD _ _ _ _ (by simp)];exact h.c3,jS _ _ _ h.c4,by rw [jD _ _ _ _ (by simp)];exact h.c5,by simp [h.f0],by simp [h.f1],by simp [h.f2],by simp [h.f3],by simp [h.f4],by simp [h.f5]⟩
theorem Box6.set5 (h:Box6 w N x0 x1 x2 x3 x4 x5) (v:Value):Box6 (w.setCell ⟨N,5,none⟩ v) N x0 x1 x2 x3 x4 v :=
 ⟨by rw [jD _ _ _ _ (by simp)];exact h.c0,by rw [jD _ _ _ _ (by simp)];exact h.c1,by rw [jD _ _ _ _ (by simp)];exact h.c2,by rw [jD _ _ _ _ (by simp)];exact h.c3,by rw [jD _ _ _ _ (by simp)];exact h.c4,jS _ _ _ h.c5,by simp [h.f0],by simp [h.f1],by simp [h.f2],by simp [h.f3],by simp [h.f4],by simp [h.f5]⟩
theorem Box6.put (h:Box6 w N x0 x1 x2 x3 x4 x5) (a b c d e f:Value):Box6 ((((((w.setCell ⟨N,0,none⟩ a).setCell ⟨N,1,none⟩ b).setCell ⟨N,2,none⟩ c).setCell ⟨N,3,none⟩ d).setCell ⟨N,4,none⟩ e).setCell ⟨N,5,none⟩ f) N a b c d e f:=(((((h.set0 a).set1 b).set2 c).set3 d).set4 e).set5 f
end
theorem zp6 {w wr:World} {ps:List (ByteArray × Bool)} {b:Tree} {g o:Nat} (hg:g<w.heap.size) (hat:kY (·<w.heap.size) w (ps.map zL++[b]) g o) (hb:Below w.heap.size w wr) {j:Nat} (hj:j<ps.length) : ∃ (y:ByteArray) (a:Option Addr) (c:Nat),wr.cell? ⟨g,o+j*4,none⟩=some (.int .i64 5)/\wr.cell? ⟨g,o+j*4+1,none⟩=some (.string y)/\wr.cell? ⟨g,o+j*4+2,none⟩=some (.int .i64 (bI ps[j].2))/\wr.cell? ⟨g,o+j*4+3,none⟩=some (.slice a 0 c):=by
 obtain ⟨x0,x1,x2,x3,c0,c1,c2,c3,hl⟩:=hat.kid hg hb (j:=j) (by simp;omega);rw [List.getElem_append_left (by simpa using hj),List.getElem_map] at hl;unfold zL kC at hl;obtain ⟨a,c,e,_,_⟩:=hl;cases e;exact ⟨_,a,c,c0,c1,c2,c3⟩
theorem zqg {w wr:World} {ps:List (ByteArray × Bool)} {b:Tree} {g o:Nat} (hg:g<w.heap.size) (hat:kY (·<w.heap.size) w (ps.map zL++[b]) g o) (hb:Below w.heap.size w wr) (hI:InT b) : ∃ (k m:Int) (y:ByteArray) (a:Option Addr) (n c:Nat),k≠5/\wr.cell? ⟨g,o+ps.length*4,none⟩=some (.int .i64 k)/\wr.cell? ⟨g,o+ps.length*4+1,none⟩=some (.string y)/\wr.cell? ⟨g,o+ps.length*4+2,none⟩=some (.int .i64 m)/\wr.cell? ⟨g,o+ps.length*4+3,none⟩=some (.slice a n c):=by
 obtain ⟨x0,x1,x2,x3,c0,c1,c2,c3,hl⟩:=hat.kid hg hb (j:=ps.length) (by simp);rw [List.getElem_append_right (by simp)] at hl;simp only [List.length_map,Nat.sub_self,jI] at hl;obtain ⟨k,y,m,ks⟩:=b;unfold InT at hI;unfold kC at hl;obtain ⟨a,c,e,_,_⟩:=hl;cases e;exact ⟨k,m,y,a,_,c,by omega,c0,c1,c2,c3⟩
theorem zkc {w w':World} {B:Nat} {e:TypeId} {k n:Nat} {v:Value} {xs:List Value} (h:w.ownsRow B e k v n xs) (hb:Below w.heap.size w w'):w'.ownsRow B e k v n xs :=
 h.kept (row:=none) ⟨hb.os,hb.tape,hb.output,hb.size,fun j hj _=>hb.block j hj⟩ (by cases v.ownBlock<;>simp)
theorem zfl {w:World} {B:Nat} {e:TypeId} {k n M:Nat} {v:Value} {xs:List Value} (h:w.ownsRow B e k v n xs) (hne:v.ownBlock≠some M) (x0 x1 x2 x3 x4 x5:Value):((((((w.setCell ⟨M,0,none⟩ x0).setCell ⟨M,1,none⟩ x1).setCell ⟨M,2,none⟩ x2).setCell ⟨M,3,none⟩ x3).setCell ⟨M,4,none⟩ x4).setCell ⟨M,5,none⟩ x5).ownsRow B e k v n xs :=
 jU (jU (jU (jU (jU (jU h hne _) hne _) hne _) hne _) hne _) hne _
theorem Q4.grown {w w':World} {N:Nat} {y0 y1 y2 y3:Value} {row:Option Nat} (h:Q4 N y0 y1 y2 y3 w) (hg:w.grownBy w' row) (hne:row≠some N):Q4 N y0 y1 y2 y3 w':=⟨vY hg h.1 hne,vY hg h.2.1 hne,vY hg h.2.2.1 hne,vY hg h.2.2.2 hne⟩
theorem ztj (q:Bool):bits BinOp.and IntKind.i64 (bI q) 1=bI q:=by cases q<;>decide +kernel
theorem zfo (x:ByteArray) (p l:Bool) (gv:Option Bool) (ps:List (ByteArray × Bool)) (b:Tree) (v:Value) (w:World) (hv:kC (·<w.heap.size) w (Kid.proc x p l gv ps b).tree v) (hP:ps.length<=1000) (hInT:InT b) : Calls Tryz.prog 66 #[v] w fun e w'=>∃ u,e=.returned (yJ (zH x p l gv ps) u)/\w'.ownsRow w.heap.size 3 1 u ps.length (uU (ps.map fun q=>bI q.2))/\Below w.heap.size w w':=by
 have c24:=kc25;have c6:Tryz.prog.cellsOf 62=6:=fL;have c1:Tryz.prog.cellsOf 3=1:=zb6;obtain ⟨i0,hi,hz0,hz1,hz2⟩:=info_parts zol;have HP:=zk0 p l gv;have HL:=zka p l gv;have HG:Hid (bits BinOp.and IntKind.i64 (2*bI p+bI l+gI gv) 12=gI gv):=zq6 p l gv;unfold Kid.tree kC at hv;obtain ⟨a,c,rfl,hl,hk⟩:=hv;obtain ⟨g,o,rfl,hg,hat⟩:=hk (by simp);clear hk;have hlen:(ps.map zL++[b]).length=ps.length+1:=by simp
 rw [hlen] at hl |-;obtain ⟨n1,hn1⟩:∃ n1,n1=ps.length+1:=⟨_,rfl⟩
 rw [<- hn1] at hl |-;have HN1:Hid (n1=ps.length+1):=hn1;clear hn1 hlen;generalize 2*bI p+bI l+gI gv=m at HP HL HG;have hPub:∀ W,Calls Tryz.prog 87 #[.agg #[.int .i64 4,.string x,.int .i64 m,.slice (some ⟨g,o,none⟩) n1 c]] W fun e w'=>e=.returned (.bool p)/\Below W.heap.size W w':=fun W=>by have:=znj 4 x m (some ⟨g,o,none⟩) n1 c W;rw [HP] at this;exact this
 have hLab:∀ W,Calls Tryz.prog 88 #[.agg #[.int .i64 4,.string x,.int .i64 m,.slice (some ⟨g,o,none⟩) n1 c]] W fun e w'=>e=.returned (.int .i64 (bI l))/\Below W.heap.size W w':=fun W=>by have:=cQ 4 x m (some ⟨g,o,none⟩) n1 c W;rw [HL] at this;exact this
 clear HP HL;have hQ:Q4 w.heap.size (.int .i64 4) (.string x) (.int .i64 m) (.slice (some ⟨g,o,none⟩) n1 c) ((w.alloc (.cells #[.int .i64 4,.string x,.int .i64 m,.slice (some ⟨g,o,none⟩) n1 c] 25)).alloc (.cells #[.string ⟨#[]⟩,.bool false,.slice none 0 0,.int .i64 0,.bool false,.int .i64 0] 62)).drew:=⟨by simp,by simp,by simp,by simp⟩
 have hB:Below w.heap.size w ((w.alloc (.cells #[.int .i64 4,.string x,.int .i64 m,.slice (some ⟨g,o,none⟩) n1 c] 25)).alloc (.cells #[.string ⟨#[]⟩,.bool false,.slice none 0 0,.int .i64 0,.bool false,.int .i64 0] 62)).drew:=(Joins.below_alloc2 w (.cells #[.int .i64 4,.string x,.int .i64 m,.slice (some ⟨g,o,none⟩) n1 c] 25) (.cells #[.string ⟨#[]⟩,.bool false,.slice none 0 0,.int .i64 0,.bool false,.int .i64 0] 62)).drew;have hR:Box6 ((w.alloc (.cells #[.int .i64 4,.string x,.int .i64 m,.slice (some ⟨g,o,none⟩) n1 c] 25)).alloc (.cells #[.string ⟨#[]⟩,.bool false,.slice none 0 0,.int .i64 0,.bool false,.int .i64 0] 62)).drew (w.heap.size+1) (.string ⟨#[]⟩) (.bool false) (.slice none 0 0) (.int .i64 0) (.bool false) (.int .i64 0):=by constructor<;>simp
 go_enter Tryz.func66,Tryz.ntmps66;go_wp2;refine wp_region_held_drew (S:=fun W=>Q4 w.heap.size (.int .i64 4) (.string x) (.int .i64 m) (.slice (some ⟨g,o,none⟩) n1 c) W) (by kernel_rfl) hQ (fun hHeld=>?_);clear hHeld;generalize ((w.alloc (.cells #[.int .i64 4,.string x,.int .i64 m,.slice (some ⟨g,o,none⟩) n1 c] 25)).alloc (.cells #[.string ⟨#[]⟩,.bool false,.slice none 0 0,.int .i64 0,.bool false,.int .i64 0] 62)).drew=W at *;rename_i Q' K0 hK0
 have HF:∀ (N:Nat) (W:World),w.heap.size+1<N->Q4 w.heap.size (.int .i64 4) (.string x) (.int .i64 m) (.slice (some ⟨g,o,none⟩) n1 c) W->Below w.heap.size w W->Box6 W (w.heap.size+1) (.string ⟨#[]⟩) (.bool false) (.slice none 0 0) (.int .i64 0) (.bool false) (.int .i64 0)->Box6 W N (.string x) (.bool p) (.slice none 0 0) (.int .i64 (bI l)) (.bool false) (.int .i64 0)->Exit.then K0 Q' Exit.normal { tmps:=#[.agg #[.int .i64 4,.string x,.int .i64 m,.slice (some ⟨g,o,none⟩) n1 c],.pointer (some ⟨w.heap.size,0,none⟩),.pointer (some ⟨w.heap.size+1,0,none⟩),.pointer (some ⟨N,0,none⟩),undef,undef,.pointer (some ⟨w.heap.size,1,none⟩),.string x,.agg #[.int .i64 4,.string x,.int .i64 m,.slice (some ⟨g,o,none⟩) n1 c],.bool p,.agg #[.int .i64 4,.string x,.int .i64 m,.slice (some ⟨g,o,none⟩) n1 c],.int .i64 (bI l),.agg #[.string x,.bool p,.slice none 0 0,.int .i64 (bI l),.bool false,.int .i64 0],undef,undef,undef,undef,undef,undef,undef,undef,undef,undef,undef,undef,undef,undef,undef,undef,undef,undef,undef,undef,undef,undef,undef,undef,undef,undef,undef,undef,undef,undef],defers:=[] } W:=by
  clear hQ hB hR W;intro N Wz hgt hQ hB hR hN;obtain ⟨_,_,q2,q3⟩:=id hQ;have hsz:=hN.lt;go_wp2
  go_loopw [16] (fun t wr=>∃ (j:Nat) (u:Value),j<=n1/\t=.int .i64 j/\wr.ownsRow (N+1) 3 1 u ((ps.take j).map fun q=>bI q.2).length (uU ((ps.take j).map fun q=>bI q.2))/\Below w.heap.size w wr/\wr.cell? ⟨w.heap.size,2,none⟩=some (.int .i64 m) /\
    Box6 wr (w.heap.size+1) (.string ⟨#[]⟩) (.bool false) (.slice none 0 0) (.int .i64 0) (.bool false) (.int .i64 0)/\Box6 wr N (.string x) (.bool p) u (.int .i64 (bI l)) (.bool false) (.int .i64 0)) (fun t _=>n1 - (intOf t).toNat)
  case atStart=>exact ⟨0,.slice none 0 0,jz _,rfl,World.ownsRow_nil _ _ _ _,hB,q2,hR,hN⟩
  case round =>
   clear hB hN hR q2 q3 hQ hsz;obtain ⟨j,u,hj,rfl,hown,hB,q2,b1,bN⟩:=hrel;have hs2:=bN.lt;by_cases hlt:j<ps.length
   ·skip;obtain ⟨y0,ak,ck,k0,k1,k2,k3⟩:=zp6 hg hat hB hlt;have HT:Hid (((ps.take (j+1)).map fun q=>bI q.2)=((ps.take j).map fun q=>bI q.2)++[bI ps[j].2]):=zum ps j hlt;have hpar:∀ W,Calls Tryz.prog 88 #[.agg #[.int .i64 5,.string y0,.int .i64 (bI ps[j].2),.slice ak 0 ck]] W fun e w'=>e=.returned (.int .i64 (bI ps[j].2))/\Below W.heap.size W w':=fun W=>by have:=cQ 5 y0 (bI ps[j].2) ak 0 ck W;rw [ztj] at this;exact this
    have hj1:j<n1:=by have:=HN1.out;omega
    have hn1:n1<=1001:=by have:=HN1.out;omega
    have hLl:((ps.take j).map fun q=>bI q.2).length=j:=by simp;omega
    generalize bI ps[j].2=y at k2 HT hpar;generalize ((ps.take j).map fun q=>bI q.2)=L at hown HT hLl;clear hat
    rw [hLl] at hown;obtain ⟨an,cn,rfl,_,_⟩:=lexs.own_shape hown;have hrow:∀ k,(Value.slice an j cn).ownBlock=some k->N<k/\k<wr.heap.size:=fun k e=>by have:=hown.lt _ e;omega
    go_wp2;have hQ:Q4 wr.heap.size (.int .i64 5) (.string y0) (.int .i64 y) (.slice ak 0 ck) (wr.alloc (.cells #[.int .i64 5,.string y0,.int .i64 y,.slice ak 0 ck] 25)).drew:=⟨by simp,by simp,by simp,by simp⟩
    replace hB:=(hB.alloc hB.size (.cells #[.int .i64 5,.string y0,.int .i64 y,.slice ak 0 ck] 25)).drew;replace hown:(wr.alloc (.cells #[.int .i64 5,.string y0,.int .i64 y,.slice ak 0 ck] 25)).drew.ownsRow (N+1) 3 1 (.slice an j cn) j (uU L):=hown.alloc _;replace b1:=(b1.alloc (.cells #[.int .i64 5,.string y0,.int .i64 y,.slice ak 0 ck] 25)).drew;replace bN:=(bN.alloc (.cells #[.int .i64 5,.string y0,.int .i64 y,.slice ak 0 ck] 25)).drew;replace q2:(wr.alloc (.cells #[.int .i64 5,.string y0,.int .i64 y,.slice ak 0 ck] 25)).drew.cell? ⟨w.heap.size,2,none⟩=some (.int .i64 m):=xU q2 _;refine wp_region_held_drew (S:=fun W=>Q4 wr.heap.size (.int .i64 5) (.string y0) (.int .i64 y) (.slice ak 0 ck) W) (by kernel_rfl) hQ (fun hHeld=>?_);clear hHeld;generalize (wr.alloc (.cells #[.int .i64 5,.string y0,.int .i64 y,.slice ak 0 ck] 25)).drew=Wk at *;generalize wr.heap.size=bk at *;clear k0 k1 k2 k3;refine tkP 0 (.pointer (some ⟨N,2,none⟩)) hQ ?_;simp only [Act.put,jA,jB,jC];refine tkP 2 (.agg #[.int .i64 5,.string y0,.int .i64 y,.slice ak 0 ck] ) hQ ?_;simp only [Act.put,jA,jB,jC];refine wpAnyH_ready (rs:=[1,3]) (by kernel_rfl) (by simp) ?_;refine AllReadyH.cons rfl (fun K hK=>?_) (AllReadyH.cons rfl (fun K hK=>?_) AllReadyH.nil)
    focus
     have m2:=bN.c2;go_simp;refine hK.out _ _ hQ (fun hHeld=>?_);clear hK K hHeld m2;refine oneH 3 fun K hK=>?_
     go_simp;go_at_call 88;refine (hpar _).mono ?_;rintro e W1 ⟨rfl,hb⟩;go_wp2;replace hQ:=Q4.below hQ hb;replace hB:=hB.trans (hb.mono hB.size);replace b1:=b1.below hb;replace bN:=bN.below hb;replace q2:=keep q2 hb;replace hown:=zkc hown hb;refine hK.out _ _ hQ (fun hHeld=>?_);clear hK K hHeld hb;refine oneH 4 fun K hK=>?_
     go_simp;have hsl:∀ j u,[Value.int .i64 y][j]?=some u->(W1.alloc (.cells #[.int .i64 y] 3)).cell? ((⟨W1.heap.size,0,none⟩:Addr).add j)=some u:=zag _ _ _ rfl;have hss:W1.heap.size+1=(W1.alloc (.cells #[.int .i64 y] 3)).heap.size:=by simp
     have hrw:∀ k,(Value.slice an j cn).ownBlock=some k->k≠W1.heap.size:=fun k e=>by have:=(hown.lt _ e).2;omega
     replace hQ:=Q4.alloc hQ (.cells #[.int .i64 y] 3);replace hB:=hB.alloc hB.size (.cells #[.int .i64 y] 3);replace b1:=b1.alloc (.cells #[.int .i64 y] 3);replace bN:=bN.alloc (.cells #[.int .i64 y] 3);replace q2:=xU q2 (.cells #[.int .i64 y] 3);replace hown:=hown.alloc (.cells #[.int .i64 y] 3);refine hK.out _ _ hQ (fun hHeld=>?_);clear hK K hHeld;generalize W1.alloc (.cells #[.int .i64 y] 3)=W2 at *;generalize W1.heap.size=s0 at *
    rotate_left
    focus
     go_simp;go_at_call 88;refine (hpar _).mono ?_;rintro e W1 ⟨rfl,hb⟩;go_wp2;replace hQ:=Q4.below hQ hb;replace hB:=hB.trans (hb.mono hB.size);replace b1:=b1.below hb;replace bN:=bN.below hb;replace q2:=keep q2 hb;replace hown:=zkc hown hb;refine hK.out _ _ hQ (fun hHeld=>?_);clear hK K hHeld hb;refine wpAnyH_ready (rs:=[1,4]) (by kernel_rfl) (by simp) ?_;refine AllReadyH.cons rfl (fun K hK=>?_) (AllReadyH.cons rfl (fun K hK=>?_) AllReadyH.nil)
     focus
      have m2:=bN.c2;go_simp;refine hK.out _ _ hQ (fun hHeld=>?_);clear hK K hHeld m2;refine oneH 4 fun K hK=>?_
      go_simp;have hsl:∀ j u,[Value.int .i64 y][j]?=some u->(W1.alloc (.cells #[.int .i64 y] 3)).cell? ((⟨W1.heap.size,0,none⟩:Addr).add j)=some u:=zag _ _ _ rfl;have hss:W1.heap.size+1=(W1.alloc (.cells #[.int .i64 y] 3)).heap.size:=by simp
      have hrw:∀ k,(Value.slice an j cn).ownBlock=some k->k≠W1.heap.size:=fun k e=>by have:=(hown.lt _ e).2;omega
      replace hQ:=Q4.alloc hQ (.cells #[.int .i64 y] 3);replace hB:=hB.alloc hB.size (.cells #[.int .i64 y] 3);replace b1:=b1.alloc (.cells #[.int .i64 y] 3);replace bN:=bN.alloc (.cells #[.int .i64 y] 3);replace q2:=xU q2 (.cells #[.int .i64 y] 3);replace hown:=hown.alloc (.cells #[.int .i64 y] 3);refine hK.out _ _ hQ (fun hHeld=>?_);clear hK K hHeld;generalize W1.alloc (.cells #[.int .i64 y] 3)=W2 at *;generalize W1.heap.size=s0 at *
     rotate_left
     focus
      go_simp;have hsl:∀ j u,[Value.int .i64 y][j]?=some u->(W1.alloc (.cells #[.int .i64 y] 3)).cell? ((⟨W1.heap.size,0,none⟩:Addr).add j)=some u:=zag _ _ _ rfl;have hss:W1.heap.size+1=(W1.alloc (.cells #[.int .i64 y] 3)).heap.size:=by simp
      have hrw:∀ k,(Value.slice an j cn).ownBlock=some k->k≠W1.heap.size:=fun k e=>by have:=(hown.lt _ e).2;omega
      replace hQ:=Q4.alloc hQ (.cells #[.int .i64 y] 3);replace hB:=hB.alloc hB.size (.cells #[.int .i64 y] 3);replace b1:=b1.alloc (.cells #[.int .i64 y] 3);replace bN:=bN.alloc (.cells #[.int .i64 y] 3);replace q2:=xU q2 (.cells #[.int .i64 y] 3);replace hown:=hown.alloc (.cells #[.int .i64 y] 3);refine hK.out _ _ hQ (fun hHeld=>?_);clear hK K hHeld;generalize W1.alloc (.cells #[.int .i64 y] 3)=W2 at *;generalize W1.heap.size=s0 at *;refine oneH 1 fun K hK=>?_
      have m2:=bN.c2;go_simp;refine hK.out _ _ hQ (fun hHeld=>?_);clear hK K hHeld m2
    all_goals
     refine oneH 5 fun K hK=>?_
     refine step_append_lies _ (by rfl) (.tmp 24) (.tmp 27) 60 (by rfl) (N+1) 3 i0 (.int .i64 0) 1 8 Tryz.underlying60 hi hz0 hz1 hz2 rfl (by decide) (.slice an j cn) j (uU L) (by simp [Act.eval,Act.put]) hown ⟨s0,0,none⟩ 1 1 [.int .i64 y] (by simp [Act.eval,Act.put]) rfl hsl (zlw _) (by omega) (by unfold maxLen;omega) (by omega) (by have:=bN.lt;omega) (s0+1) hss.symm ?_;intro g5 cap5 w5 hown5 hgrow5 hat5 hlt5;have hrb:(Value.slice an j cn).ownBlock≠some bk:=fun e=>by have:=hrow _ e;omega
     have hr1:(Value.slice an j cn).ownBlock≠some (w.heap.size+1):=fun e=>by have:=hrow _ e;omega
     have hr0:(Value.slice an j cn).ownBlock≠some w.heap.size:=fun e=>by have:=hrow _ e;omega
     have hrN:(Value.slice an j cn).ownBlock≠some N:=fun e=>by have:=hrow _ e;omega
     replace hQ:=Q4.grown hQ hgrow5 hrb;have hgN:N<g5:=by rcases hat5 with e | e;exact (hrow _ e).1;have:=bN.lt;omega
     replace hB:=Below.grown hB hgrow5 hB.size (fun k hk=>by have:=hrow _ hk;omega);replace b1:=b1.grown hgrow5 hr1;replace bN:=bN.grown hgrow5 hrN;replace q2:=vY hgrow5 q2 hr0;refine hK.out _ _ hQ (fun hHeld=>?_);clear hK K hHeld;simp only [Act.put,jA,jB,jC];refine tkP 6 (.pointer (some ⟨N,2,none⟩)) hQ ?_;simp only [Act.put,jA,jB,jC];refine oneH 7 fun K hK=>?_
     have m2:=bN.c2;have mf:=bN.f2;go_simp;refine hK.out _ _ (Q4.other (by omega) hQ _ _) (fun hHeld=>?_);clear hK K hHeld m2 mf;refine wpAnyH_done (by kernel_rfl) ?_ _;go_wp2;go_roundw
     case rel =>
      refine ⟨j+1,.slice (some ⟨g5,0,none⟩) (j+1) cap5,by omega,by go_num,?_,hB.setCell (by show w.heap.size<=N;omega) _,?_,b1.other (by omega) _,bN.set2 _⟩;·rw [HT.out,zj3,jb,hLl];exact jU hown5 (by show some g5≠some N;simp;omega) _
      ·rw [jD _ _ _ _ (by intro e;cases e;omega)];exact q2
     case measure=>simp [intOf];omega
   by_cases hlt2:j<n1
   ·skip;have hje:j=ps.length:=by have:=HN1.out;omega
    subst hje;obtain ⟨k,mm,y0,ak,nk,ck,hk5,k0,k1,k2,k3⟩:=zqg hg hat hB hInT;have hn1:n1<=1001:=by have:=HN1.out;omega
    have HT:Hid (ps.take (ps.length+1)=ps.take ps.length):=by show _=_;rw [List.take_length,jG (by omega)]
    clear hat
    go_wp2;go_roundw
    case rel=>exact ⟨ps.length+1,u,by omega,by go_num,by rw [HT.out];exact hown.alloc _,hB.alloc hB.size _,xU q2 _,b1.alloc _,bN.alloc _⟩
    case measure=>simp [intOf];omega
   have hje:j=n1:=by omega
   subst hje;have hT:ps.take j=ps:=by rw [jG (by have:=HN1.out;omega)]
   rw [hT,List.length_map] at hown;clear hT hat
   obtain ⟨an,cn,rfl,_,_⟩:=lexs.own_shape hown;obtain ⟨a0,a1,a2,a3,a4,a5,f0,f1,f2,f3,f4,f5⟩:=id bN;obtain ⟨d0,d1,d2,d3,d4,d5,e0,e1,e2,e3,e4,e5⟩:=id b1;have hne1:(Value.slice an ps.length cn).ownBlock≠some (w.heap.size+1):=fun e=>by have:=(hown.lt _ e).1;omega
   have hneN:(Value.slice an ps.length cn).ownBlock≠some N:=fun e=>by have:=(hown.lt _ e).1;omega
   have hG:=HG.out;clear HG;rcases gv with _ | gb
   ·have hG0:bits BinOp.and IntKind.i64 m 12=0:=hG;clear hG;go_wp2;refine jT (v:=.agg #[.string x,.bool p,.slice an ps.length cn,.int .i64 (bI l),.bool false,.int .i64 0]) (by simp [results,Tryz.results66,go_sem,d0,d1,d2,d3,d4,d5]) rfl ⟨.slice an ps.length cn,rfl,?_,zcj hB (by omega) _ _ _ _ _ _⟩;exact lexs.ownsRow_le (zfl hown hne1 _ _ _ _ _ _) (by omega)
   cases gb;·have hG0:bits BinOp.and IntKind.i64 m 12=4:=hG;clear hG;go_wp2;refine jT (v:=.agg #[.string x,.bool p,.slice an ps.length cn,.int .i64 (bI l),.bool true,.int .i64 0]) (by simp [results,Tryz.results66,go_sem,d0,d1,d2,d3,d4,d5]) rfl ⟨.slice an ps.length cn,rfl,?_,zcj ((hB.setCell (by show w.heap.size<=N;omega) _).setCell (by show w.heap.size<=N;omega) _) (by omega) _ _ _ _ _ _⟩;exact lexs.ownsRow_le (zfl (jU (jU hown hneN _) hneN _) hne1 _ _ _ _ _ _) (by omega)
   ·have hG0:bits BinOp.and IntKind.i64 m 12=8:=hG;clear hG;go_wp2;refine jT (v:=.agg #[.string x,.bool p,.slice an ps.length cn,.int .i64 (bI l),.bool true,.int .i64 1]) (by simp [results,Tryz.results66,go_sem,d0,d1,d2,d3,d4,d5]) rfl ⟨.slice an ps.length cn,rfl,?_,zcj ((hB.setCell (by show w.heap.size<=N;omega) _).setCell (by show w.heap.size<=N;omega) _) (by omega) _ _ _ _ _ _⟩;exact lexs.ownsRow_le (zfl (jU (jU hown hneN _) hneN _) hne1 _ _ _ _ _ _) (by omega)
 clear hK0
 ·skip;refine tkP 0 (.pointer (some ⟨w.heap.size,1,none⟩)) hQ ?_;simp only [Act.put,jA,jB,jC];refine tkP 1 (.string x) hQ ?_;simp only [Act.put,jA,jB,jC];refine tkP 2 (.agg #[.int .i64 4,.string x,.int .i64 m,.slice (some ⟨g,o,none⟩) n1 c] ) hQ ?_;simp only [Act.put,jA,jB,jC];refine tkP 4 (.agg #[.int .i64 4,.string x,.int .i64 m,.slice (some ⟨g,o,none⟩) n1 c] ) hQ ?_;simp only [Act.put,jA,jB,jC];refine wpAnyH_ready (rs:=[3,7]) (by kernel_rfl) (by simp) ?_;refine AllReadyH.cons rfl (fun K hK=>?_) (AllReadyH.cons rfl (fun K hK=>?_) AllReadyH.nil)
  focus
   go_simp;go_at_call 87;refine (hPub _).mono ?_;rintro e W1 ⟨rfl,hb⟩;go_wp2;replace hQ:=Q4.below hQ hb;replace hB:=hB.trans (hb.mono hB.size);replace hR:=hR.below hb;skip;refine hK.out _ _ hQ (fun hHeld=>?_);clear hK K hHeld hb;refine wpAnyH_ready (rs:=[5,7]) (by kernel_rfl) (by simp) ?_;refine AllReadyH.cons rfl (fun K hK=>?_) (AllReadyH.cons rfl (fun K hK=>?_) AllReadyH.nil)
   focus
    go_simp;go_at_call 88;refine (hLab _).mono ?_;rintro e W2 ⟨rfl,hb⟩;go_wp2;replace hQ:=Q4.below hQ hb;replace hB:=hB.trans (hb.mono hB.size);replace hR:=hR.below hb;skip;refine hK.out _ _ hQ (fun hHeld=>?_);clear hK K hHeld hb;refine tkP 6 (.agg #[.string x,.bool p,.slice none 0 0,.int .i64 (bI l),.bool false,.int .i64 0] ) hQ ?_;simp only [Act.put,jA,jB,jC];refine oneH 7 fun K hK=>?_
    go_simp;have hN:=Box6.new W2 (.string ⟨#[]⟩) (.bool false) (.slice none 0 0) (.int .i64 0) (.bool false) (.int .i64 0) 62;have hgt:w.heap.size+1<W2.heap.size:=hR.lt;replace hQ:=Q4.alloc hQ (.cells #[.string ⟨#[]⟩,.bool false,.slice none 0 0,.int .i64 0,.bool false,.int .i64 0] 62);replace hB:=hB.alloc hB.size (.cells #[.string ⟨#[]⟩,.bool false,.slice none 0 0,.int .i64 0,.bool false,.int .i64 0] 62);replace hR:=hR.alloc (.cells #[.string ⟨#[]⟩,.bool false,.slice none 0 0,.int .i64 0,.bool false,.int .i64 0] 62);refine hK.out _ _ hQ (fun hHeld=>?_);clear hK K hHeld;generalize W2.alloc (.cells #[.string ⟨#[]⟩,.bool false,.slice none 0 0,.int .i64 0,.bool false,.int .i64 0] 62)=Wa at *;generalize W2.heap.size=N at *
   rotate_left
   focus
    go_simp;have hN:=Box6.new W1 (.string ⟨#[]⟩) (.bool false) (.slice none 0 0) (.int .i64 0) (.bool false) (.int .i64 0) 62;have hgt:w.heap.size+1<W1.heap.size:=hR.lt;replace hQ:=Q4.alloc hQ (.cells #[.string ⟨#[]⟩,.bool false,.slice none 0 0,.int .i64 0,.bool false,.int .i64 0] 62);replace hB:=hB.alloc hB.size (.cells #[.string ⟨#[]⟩,.bool false,.slice none 0 0,.int .i64 0,.bool false,.int .i64 0] 62);replace hR:=hR.alloc (.cells #[.string ⟨#[]⟩,.bool false,.slice none 0 0,.int .i64 0,.bool false,.int .i64 0] 62);refine hK.out _ _ hQ (fun hHeld=>?_);clear hK K hHeld;generalize W1.alloc (.cells #[.string ⟨#[]⟩,.bool false,.slice none 0 0,.int .i64 0,.bool false,.int .i64 0] 62)=Wa at *;generalize W1.heap.size=N at *;refine oneH 5 fun K hK=>?_
    go_simp;go_at_call 88;refine (hLab _).mono ?_;rintro e W2 ⟨rfl,hb⟩;go_wp2;replace hQ:=Q4.below hQ hb;replace hB:=hB.trans (hb.mono hB.size);replace hR:=hR.below hb;replace hN:=hN.below hb;refine hK.out _ _ hQ (fun hHeld=>?_);clear hK K hHeld hb;refine tkP 6 (.agg #[.string x,.bool p,.slice none 0 0,.int .i64 (bI l),.bool false,.int .i64 0] ) hQ ?_;simp only [Act.put,jA,jB,jC]
  rotate_left 2
  focus
   go_simp;have hN:=Box6.new W (.string ⟨#[]⟩) (.bool false) (.slice none 0 0) (.int .i64 0) (.bool false) (.int .i64 0) 62;have hgt:w.heap.size+1<W.heap.size:=hR.lt;replace hQ:=Q4.alloc hQ (.cells #[.string ⟨#[]⟩,.bool false,.slice none 0 0,.int .i64 0,.bool false,.int .i64 0] 62);replace hB:=hB.alloc hB.size (.cells #[.string ⟨#[]⟩,.bool false,.slice none 0 0,.int .i64 0,.bool false,.int .i64 0] 62);replace hR:=hR.alloc (.cells #[.string ⟨#[]⟩,.bool false,.slice none 0 0,.int .i64 0,.bool false,.int .i64 0] 62);refine hK.out _ _ hQ (fun hHeld=>?_);clear hK K hHeld;generalize W.alloc (.cells #[.string ⟨#[]⟩,.bool false,.slice none 0 0,.int .i64 0,.bool false,.int .i64 0] 62)=Wa at *;generalize W.heap.size=N at *;refine oneH 3 fun K hK=>?_
   go_simp;go_at_call 87;refine (hPub _).mono ?_;rintro e W1 ⟨rfl,hb⟩;go_wp2;replace hQ:=Q4.below hQ hb;replace hB:=hB.trans (hb.mono hB.size);replace hR:=hR.below hb;replace hN:=hN.below hb;refine hK.out _ _ hQ (fun hHeld=>?_);clear hK K hHeld hb;refine oneH 5 fun K hK=>?_
   go_simp;go_at_call 88;refine (hLab _).mono ?_;rintro e W2 ⟨rfl,hb⟩;go_wp2;replace hQ:=Q4.below hQ hb;replace hB:=hB.trans (hb.mono hB.size);replace hR:=hR.below hb;replace hN:=hN.below hb;refine hK.out _ _ hQ (fun hHeld=>?_);clear hK K hHeld hb;refine tkP 6 (.agg #[.string x,.bool p,.slice none 0 0,.int .i64 (bI l),.bool false,.int .i64 0] ) hQ ?_;simp only [Act.put,jA,jB,jC]
  all_goals
   refine oneH 8 fun K hK=>?_
   obtain ⟨n0,n1,n2,n3,n4,n5,g0,g1,g2,g3,g4,g5⟩:=id hN;go_simp;replace hN:=hN.put (.string x) (.bool p) (.slice none 0 0) (.int .i64 (bI l)) (.bool false) (.int .i64 0);replace hQ:=Q4.other6 (M:=N) (by omega) hQ (.string x) (.bool p) (.slice none 0 0) (.int .i64 (bI l)) (.bool false) (.int .i64 0);replace hB:=zcj (M:=N) hB (by omega) (.string x) (.bool p) (.slice none 0 0) (.int .i64 (bI l)) (.bool false) (.int .i64 0);replace hR:=hR.other6 (M:=N) (by omega) (.string x) (.bool p) (.slice none 0 0) (.int .i64 (bI l)) (.bool false) (.int .i64 0);refine hK.out _ _ hQ (fun hHeld=>?_);clear hK K hHeld n0 n1 n2 n3 n4 n5 g0 g1 g2 g3 g4 g5;generalize (World.setCell _ ⟨N,5,none⟩ _)=Wz at *;refine wpAnyH_done (by kernel_rfl) ?_ _;exact HF N Wz hgt hQ hB hR hN
end face
namespace face
open Go.RowKit Go.Maps
theorem FR.grown' {X:Nat->Prop} {B:Nat} {w w':World} {vv pv:Value} {V:List VarD} {P:List (ProcD × Value)} {row:Option Nat} (h:FR X B w vv pv V P) (hg:w.grownBy w' row) (hr:∀ b,row=some b->vv.ownBlock≠some b/\pv.ownBlock≠some b/\b<B):FR X B w' vv pv V P:=by
 have hv:vv.ownBlock=none\/vv.ownBlock≠row:=by
  cases e:vv.ownBlock with
  | none=>exact .inl rfl
  | some b=>exact .inr (fun e2=>(hr b e2.symm).1 e)
 have hp:pv.ownBlock=none\/pv.ownBlock≠row:=by
  cases e:pv.ownBlock with
  | none=>exact .inl rfl
  | some b=>exact .inr (fun e2=>(hr b e2.symm).2.1 e)
 refine ⟨h.ov.kept hg hv,h.op.kept hg hp,fun q hq=>?_,h.dj,h.xv,h.xp⟩;exact (h.par q hq).to (fun b hb=>⟨hb.1,jo hb.2.1 hg.size,hb.2.2⟩) (fun b hb o v hc=>vY hg hc (fun e=>by have h1:=(hr b e).2.2;have h2:=hb.1;omega))
abbrev gM (w:World) (b:Nat) (l:List ByteArray):Prop:=w.ownsMap Tryz.prog 9 (unitElem (H:=Unit)) b l.length (setD l)
structure DC (w:World) (D:Nat) (x0 x1 x2 x3 x4 x5 x6 x7:Value):Prop where
 c0:w.cell? ⟨D,0,none⟩=some x0
 c1:w.cell? ⟨D,1,none⟩=some x1
 c2:w.cell? ⟨D,2,none⟩=some x2
 c3:w.cell? ⟨D,3,none⟩=some x3
 c4:w.cell? ⟨D,4,none⟩=some x4
 c5:w.cell? ⟨D,5,none⟩=some x5
 c6:w.cell? ⟨D,6,none⟩=some x6
 c7:w.cell? ⟨D,7,none⟩=some x7
 fz:∀ k,w.frozen? ⟨D,k,none⟩=false
section
variable {w w':World} {D:Nat} {x0 x1 x2 x3 x4 x5 x6 x7:Value}
theorem DC.lt (h:DC w D x0 x1 x2 x3 x4 x5 x6 x7):D<w.heap.size:=jR w ⟨D,0,none⟩ h.c0
theorem DC.block (h:DC w D x0 x1 x2 x3 x4 x5 x6 x7) (hb:w'.heap[D]?=w.heap[D]?):DC w' D x0 x1 x2 x3 x4 x5 x6 x7 :=
 ⟨(jM (a:=⟨D,0,none⟩) hb).trans h.c0,(jM (a:=⟨D,1,none⟩) hb).trans h.c1,(jM (a:=⟨D,2,none⟩) hb).trans h.c2,(jM (a:=⟨D,3,none⟩) hb).trans h.c3,(jM (a:=⟨D,4,none⟩) hb).trans h.c4,(jM (a:=⟨D,5,none⟩) hb).trans h.c5,(jM (a:=⟨D,6,none⟩) hb).trans h.c6,(jM (a:=⟨D,7,none⟩) hb).trans h.c7,
   fun k=>(jN (a:=⟨D,k,none⟩) hb).trans (h.fz k)⟩
theorem DC.grown {row:Option Nat} (h:DC w D x0 x1 x2 x3 x4 x5 x6 x7) (hg:w.grownBy w' row) (hne:row≠some D):DC w' D x0 x1 x2 x3 x4 x5 x6 x7:=h.block (hg.block D h.lt (fun e=>hne e.symm))
theorem bT {w:World} {D k o:Nat} {v:Value} (h:∀ k,w.frozen? ⟨D,k,none⟩=false):(w.setCell ⟨D,o,none⟩ v).frozen? ⟨D,k,none⟩=false:=by simp [h k]
theorem DC.set0 (h:DC w D x0 x1 x2 x3 x4 x5 x6 x7) (v:Value):DC (w.setCell ⟨D,0,none⟩ v) D v x1 x2 x3 x4 x5 x6 x7 :=
 ⟨jS _ _ _ h.c0,by rw [jD _ _ _ _ (by simp)];exact h.c1,by rw [jD _ _ _ _ (by simp)];exact h.c2,by rw [jD _ _ _ _ (by simp)];exact h.c3,by rw [jD _ _ _ _ (by simp)];exact h.c4,by rw [jD _ _ _ _ (by simp)];exact h.c5,by rw [jD _ _ _ _ (by simp)];exact h.c6,by rw [jD _ _ _ _ (by simp)];exact h.c7,fun k=>bT h.fz⟩
theorem DC.set1 (h:DC w D x0 x1 x2 x3 x4 x5 x6 x7) (v:Value):DC (w.setCell ⟨D,1,none⟩ v) D x0 v x2 x3 x4 x5 x6 x7 :=
 ⟨by rw [jD _ _ _ _ (by simp)];exact h.c0,jS _ _ _ h.c1,by rw [jD _ _ _ _ (by simp)];exact h.c2,by rw [jD _ _ _ _ (by simp)];exact h.c3,by rw [jD _ _ _ _ (by simp)];exact h.c4,by rw [jD _ _ _ _ (by simp)];exact h.c5,by rw [jD _ _ _ _ (by simp)];exact h.c6,by rw [jD _ _ _ _ (by simp)];exact h.c7,fun k=>bT h.fz⟩
theorem DC.set2 (h:DC w D x0 x1 x2 x3 x4 x5 x6 x7) (v:Value):DC (w.setCell ⟨D,2,none⟩ v) D x0 x1 v x3 x4 x5 x6 x7 :=
 ⟨by rw [jD _ _ _ _ (by simp)];exact h.c0,by rw [jD _ _ _ _ (by simp)];exact h.c1,jS _ _ _ h.c2,by rw [jD _ _ _ _ (by simp)];exact h.c3,by rw [jD _ _ _ _ (by simp)];exact h.c4,by rw [jD _ _ _ _ (by simp)];exact h.c5,by rw [jD _ _ _ _ (by simp)];exact h.c6,by rw [jD _ _ _ _ (by simp)];exact h.c7,fun k=>bT h.fz⟩
theorem DC.set3 (h:DC w D x0 x1 x2 x3 x4 x5 x6 x7) (v:Value):DC (w.setCell ⟨D,3,none⟩ v) D x0 x1 x2 v x4 x5 x6 x7 :=
 ⟨by rw [jD _ _ _ _ (by simp)];exact h.c0,by rw [jD _ _ _ _ (by simp)];exact h.c1,by rw [jD _ _ _ _ (by simp)];exact h.c2,jS _ _ _ h.c3,by rw [jD _ _ _ _ (by simp)];exact h.c4,by rw [jD _ _ _ _ (by simp)];exact h.c5,by rw [jD _ _ _ _ (by simp)];exact h.c6,by rw [jD _ _ _ _ (by simp)];exact h.c7,fun k=>bT h.fz⟩
theorem DC.set6 (h:DC w D x0 x1 x2 x3 x4 x5 x6 x7) (v:Value):DC (w.setCell ⟨D,6,none⟩ v) D x0 x1 x2 x3 x4 x5 v x7 :=
 ⟨by rw [jD _ _ _ _ (by simp)];exact h.c0,by rw [jD _ _ _ _ (by simp)];exact h.c1,by rw [jD _ _ _ _ (by simp)];exact h.c2,by rw [jD _ _ _ _ (by simp)];exact h.c3,by rw [jD _ _ _ _ (by simp)];exact h.c4,by rw [jD _ _ _ _ (by simp)];exact h.c5,jS _ _ _ h.c6,by rw [jD _ _ _ _ (by simp)];exact h.c7,fun k=>bT h.fz⟩
theorem DC.set7 (h:DC w D x0 x1 x2 x3 x4 x5 x6 x7) (v:Value):DC (w.setCell ⟨D,7,none⟩ v) D x0 x1 x2 x3 x4 x5 x6 v :=
 ⟨by rw [jD _ _ _ _ (by simp)];exact h.c0,by rw [jD _ _ _ _ (by simp)];exact h.c1,by rw [jD _ _ _ _ (by simp)];exact h.c2,by rw [jD _ _ _ _ (by simp)];exact h.c3,by rw [jD _ _ _ _ (by simp)];exact h.c4,by rw [jD _ _ _ _ (by simp)];exact h.c5,by rw [jD _ _ _ _ (by simp)];exact h.c6,jS _ _ _ h.c7,fun k=>bT h.fz⟩
end
structure DI (w:World) (D Bm Bd:Nat) (mp:Option Nat) (vv pv iv:Value) (m:ByteArray) (V:List VarD) (P:List (ProcD × Value)) (is ms ns qs:List ByteArray) (a:Int):Prop where
 dc:DC w D (.string m) vv pv iv (.map (some Bm)) (.map (some Bd)) (.map mp) (.int .i64 a)
 lm:Bm<Bd
 ld:Bd<D
 lp:∀ b,mp=some b->D<b
 fr:FR (fun b=>iv.ownBlock=some b\/mp=some b) (D+1) w vv pv V P
 oi:w.ownsRow (D+1) 9 1 iv is.length (yF is)
 xi:∀ b,iv.ownBlock=some b->mp≠some b
 om:gM w Bm ms
 am:xA [] ms=true
 od:gM w Bd ns
 ad:xA [] ns=true
 op:∀ b,mp=some b->gM w b qs
 aq:xA [] qs=true
section
variable {w w':World} {D Bm Bd:Nat} {mp:Option Nat} {vv pv iv:Value} {m:ByteArray} {V:List VarD} {P:List (ProcD × Value)} {is ms ns qs:List ByteArray} {a:Int}
theorem DI.below (h:DI w D Bm Bd mp vv pv iv m V P is ms ns qs a) (hb:Below w.heap.size w w'):DI w' D Bm Bd mp vv pv iv m V P is ms ns qs a :=
 have hg:w.grownBy w' none:=⟨hb.os,hb.tape,hb.output,hb.size,fun j hj _=>hb.block j hj⟩
 ⟨h.dc.grown hg (by simp),h.lm,h.ld,h.lp,h.fr.below hb,ze6 h.oi hb,h.xi,h.om.kept hg (by simp),h.am,h.od.kept hg (by simp),h.ad,fun b e=>(h.op b e).kept hg (by simp),h.aq⟩
theorem dY (h:DI w D Bm Bd mp vv pv iv m V P is ms ns qs a):(∀ b,iv.ownBlock=some b->D<b)/\(∀ b,vv.ownBlock=some b->D<b)/\(∀ b,pv.ownBlock=some b->D<b) :=
 ⟨fun b e=>by have:=(h.oi.lt _ e).1;omega,fun b e=>by have:=(h.fr.ov.lt _ e).1;omega,fun b e=>by have:=(h.fr.op.lt _ e).1;omega⟩
theorem DI.enterM (h:DI w D Bm Bd mp vv pv iv m V P is ms ns qs a) {x:ByteArray} (ho:gM w' Bm (ms++[x])) (ha:xA [] (ms++[x])=true) (hg:w.grownBy w' (some Bm)):DI w' D Bm Bd mp vv pv iv m V P is (ms++[x]) ns qs a:=by
 have hm:=h.lm;have hd:=h.ld;obtain ⟨li,lv,lpv⟩:=dY h;refine ⟨h.dc.grown hg (by simp;omega),h.lm,h.ld,h.lp,?_,h.oi.kept hg ?_,h.xi,ho,ha,h.od.kept hg (by simp;omega),h.ad,fun b e=>(h.op b e).kept hg (by have:=h.lp b e;simp;omega),h.aq⟩;·exact FR.grown' h.fr hg (fun b e=>by cases e;exact ⟨fun e=>by have:=lv _ e;omega,fun e=>by have:=lpv _ e;omega,by omega⟩)
 ·cases e:iv.ownBlock with
  | none=>exact .inl rfl
  | some b=>exact .inr (by have:=li b e;simp;omega)
end
section
variable {w w':World} {D Bm Bd:Nat} {mp:Option Nat} {vv pv iv:Value} {m:ByteArray} {V:List VarD} {P:List (ProcD × Value)} {is ms ns qs:List ByteArray} {a:Int}
theorem zsu {v:Value} {b:Nat} (h:∀ k,v.ownBlock=some k->b<k):v.ownBlock=none\/v.ownBlock≠some b:=by
 cases e:v.ownBlock with
 | none=>exact .inl rfl
 | some k=>exact .inr (by have:=h k e;simp;omega)
theorem DI.enterD (h:DI w D Bm Bd mp vv pv iv m V P is ms ns qs a) {x:ByteArray} (ho:gM w' Bd (ns++[x])) (ha:xA [] (ns++[x])=true) (hg:w.grownBy w' (some Bd)):DI w' D Bm Bd mp vv pv iv m V P is ms (ns++[x]) qs a:=by
 have hm:=h.lm;have hd:=h.ld;obtain ⟨li,lv,lpv⟩:=dY h;refine ⟨h.dc.grown hg (by simp;omega),h.lm,h.ld,h.lp,?_,h.oi.kept hg (zsu (fun k e=>by have:=li k e;omega)),h.xi,h.om.kept hg (by simp;omega),h.am,ho,ha,fun b e=>(h.op b e).kept hg (by have:=h.lp b e;simp;omega),h.aq⟩;exact FR.grown' h.fr hg (fun b e=>by cases e;exact ⟨fun e=>by have:=lv _ e;omega,fun e=>by have:=lpv _ e;omega,by omega⟩)
theorem DI.enterP {b0:Nat} (h:DI w D Bm Bd (some b0) vv pv iv m V P is ms ns qs a) {x:ByteArray} (ho:gM w' b0 (qs++[x])) (ha:xA [] (qs++[x])=true) (hg:w.grownBy w' (some b0)):DI w' D Bm Bd (some b0) vv pv iv m V P is ms ns (qs++[x]) a:=by
 have hm:=h.lm;have hd:=h.ld;have hp:=h.lp b0 rfl;refine ⟨h.dc.grown hg (by simp;omega),h.lm,h.ld,h.lp,h.fr.grown hg (fun b e=>.inr e),h.oi.kept hg ?_,h.xi,h.om.kept hg (by simp;omega),h.am,h.od.kept hg (by simp;omega),h.ad,fun b e=>by cases e;exact ho,ha⟩
 cases e:iv.ownBlock with
 | none=>exact .inl rfl
 | some b=>exact .inr (fun e2=>h.xi b e e2.symm)
theorem DI.rest (h:DI w D Bm Bd mp vv pv iv m V P is ms ns qs a) (o:Nat) (v:Value) : FR (fun b=>iv.ownBlock=some b\/mp=some b) (D+1) (w.setCell ⟨D,o,none⟩ v) vv pv V P/\(w.setCell ⟨D,o,none⟩ v).ownsRow (D+1) 9 1 iv is.length (yF is)/\gM (w.setCell ⟨D,o,none⟩ v) Bm ms/\gM (w.setCell ⟨D,o,none⟩ v) Bd ns/\∀ b,mp=some b->gM (w.setCell ⟨D,o,none⟩ v) b qs:=by
 have hm:=h.lm;have hd:=h.ld;obtain ⟨li,_,_⟩:=dY h;exact ⟨h.fr.set (by omega) v,jU h.oi (fun e=>by have:=li _ e;simp at this) _,h.om.setCell (by show Bm≠D;omega) _,h.od.setCell (by show Bd≠D;omega) _,fun b e=>(h.op b e).setCell (by have:=h.lp b e;show b≠D;omega) _⟩
theorem DI.setAt (h:DI w D Bm Bd mp vv pv iv m V P is ms ns qs a) (a':Int):DI (w.setCell ⟨D,7,none⟩ (.int .i64 a')) D Bm Bd mp vv pv iv m V P is ms ns qs a' :=
 have r:=h.rest 7 (.int .i64 a')
 ⟨h.dc.set7 _,h.lm,h.ld,h.lp,r.1,r.2.1,h.xi,r.2.2.1,h.am,r.2.2.2.1,h.ad,r.2.2.2.2,h.aq⟩
theorem DI.setModule (h:DI w D Bm Bd mp vv pv iv m V P is ms ns qs a) (m':ByteArray):DI (w.setCell ⟨D,0,none⟩ (.string m')) D Bm Bd mp vv pv iv m' V P is ms ns qs a :=
 have r:=h.rest 0 (.string m')
 ⟨h.dc.set0 _,h.lm,h.ld,h.lp,r.1,r.2.1,h.xi,r.2.2.1,h.am,r.2.2.2.1,h.ad,r.2.2.2.2,h.aq⟩
theorem FR.turn {X Y:Nat->Prop} {B:Nat} {row:Option Nat} (h:FR X B w vv pv V P) (hg:w.grownBy w' row) (hr:∀ b,row=some b->X b) (hY:∀ b,b<w.heap.size->Y b->X b):FR Y B w' vv pv V P :=
 have k:=h.grown hg hr
 ⟨k.ov,k.op,fun q hq=>(h.par q hq).to (fun b hb=>⟨hb.1,jo hb.2.1 hg.size,hb.2.2.1,hb.2.2.2.1,fun e=>hb.2.2.2.2 (hY b hb.2.1 e)⟩) (fun b hb o v hc=>vY hg hc (fun e=>hb.2.2.2.2 (hr b e))),h.dj,
  fun b e hy=>h.xv b e (hY b (h.ov.lt _ e).2 hy),fun b e hy=>h.xp b e (hY b (h.op.lt _ e).2 hy)⟩
theorem DI.pushI (h:DI w D Bm Bd mp vv pv iv m V P is ms ns qs a) {x:ByteArray} {g cap:Nat} (ho:w'.ownsRow (D+1) 9 1 (.slice (some ⟨g,0,none⟩) (is.length+1) cap) (is.length+1) (yF is++[.string x])) (hg:w.grownBy w' iv.ownBlock) (hat:iv.ownBlock=some g\/g=w.heap.size) : DI (w'.setCell ⟨D,3,none⟩ (.slice (some ⟨g,0,none⟩) (is.length+1) cap)) D Bm Bd mp vv pv (.slice (some ⟨g,0,none⟩) (is.length+1) cap) m V P (is++[x]) ms ns qs a:=by
 have hm:=h.lm;have hd:=h.ld;obtain ⟨li,lv,lpv⟩:=dY h;have hlow:∀ b,b<=D->some b≠iv.ownBlock:=fun b hb e=>by have:=li b e.symm;omega
 have hdc:=h.dc.grown hg (fun e=>hlow D (jE _) e.symm)
 have hxi:∀ b,(Value.slice (some ⟨g,0,none⟩) (is.length+1) cap).ownBlock=some b->mp≠some b:=fun b e e2=>by
  have e':some g=some b:=e;cases e';rcases hat with h1 | h1
  ·exact h.xi g h1 e2
  ·have:=(h.op g e2).lt;omega
 have hfr:FR (fun b=>(Value.slice (some ⟨g,0,none⟩) (is.length+1) cap).ownBlock=some b\/mp=some b) (D+1) w' vv pv V P:=h.fr.turn hg (fun b e=>.inl e) (fun b hb e=>by
  rcases e with e | e
  ·have e':some g=some b:=e;cases e';rcases hat with h1 | h1
   ·exact .inl h1
   ·omega
  ·exact .inr e)
 have ho':w'.ownsRow (D+1) 9 1 (.slice (some ⟨g,0,none⟩) (is.length+1) cap) (is++[x]).length (yF (is++[x])):=by
  rw [zra,jb];exact ho
 refine ⟨hdc.set3 _,h.lm,h.ld,h.lp,hfr.set (by omega) _,jU ho' (fun e=>by have:=(ho'.lt _ e).1;simp at this;omega) _,hxi,(h.om.kept hg (hlow Bm (by omega))).setCell (by show Bm≠D;omega) _,h.am,(h.od.kept hg (hlow Bd (by omega))).setCell (by show Bd≠D;omega) _,h.ad,fun b e=>((h.op b e).kept hg (fun e2=>h.xi b e2.symm e)).setCell (by have:=h.lp b e;show b≠D;omega) _,h.aq⟩
theorem DI.fresh (h:DI w D Bm Bd mp vv pv iv m V P is ms ns qs a):∀ b,w.heap.size<=b->¬ (iv.ownBlock=some b\/mp=some b):=fun b hb e=>by
 rcases e with e | e
 ·have:=(h.oi.lt _ e).2;omega
 ·have:=(h.op b e).lt;omega
theorem DI.pushV (h:DI w D Bm Bd mp vv pv iv m V P is ms ns qs a) {v:VarD} {g cap:Nat} (ho:w'.ownsRow (D+1) 57 4 (.slice (some ⟨g,0,none⟩) (V.length+1) cap) (V.length+1) (zW V++[.string v.name,.bool v.pub,.int .i64 v.label,.int .i64 v.size])) (hg:w.grownBy w' vv.ownBlock) (hat:vv.ownBlock=some g\/g=w.heap.size) : DI (w'.setCell ⟨D,1,none⟩ (.slice (some ⟨g,0,none⟩) (V.length+1) cap)) D Bm Bd mp (.slice (some ⟨g,0,none⟩) (V.length+1) cap) pv iv m (V++[v]) P is ms ns qs a:=by
 have hm:=h.lm;have hd:=h.ld;obtain ⟨li,lv,lpv⟩:=dY h;have hlow:∀ b,b<=D->some b≠vv.ownBlock:=fun b hb e=>by have:=lv b e.symm;omega
 have hdc:=h.dc.grown hg (fun e=>hlow D (jE _) e.symm);have hfr:=h.fr.pushV ho hg hat h.fresh
 have hoi:=h.oi.kept hg (by
  cases e:iv.ownBlock with
  | none=>exact .inl rfl
  | some b=>exact .inr (fun e2=>h.fr.xv b e2.symm (.inl e)))
 exact ⟨hdc.set1 _,h.lm,h.ld,h.lp,hfr.set (by omega) _,jU hoi (fun e=>by have:=li _ e;simp at this) _,h.xi,(h.om.kept hg (hlow Bm (by omega))).setCell (by show Bm≠D;omega) _,h.am,(h.od.kept hg (hlow Bd (by omega))).setCell (by show Bd≠D;omega) _,h.ad,fun b e=>((h.op b e).kept hg (fun e2=>h.fr.xv b e2.symm (.inr e))).setCell (by have:=h.lp b e;show b≠D;omega) _,h.aq⟩
theorem DI.pushP (h:DI w D Bm Bd mp vv pv iv m V P is ms ns qs a) {q:ProcD × Value} {g cap:Nat} (ho:w'.ownsRow (D+1) 62 6 (.slice (some ⟨g,0,none⟩) (P.length+1) cap) (P.length+1) (vK P++[.string q.1.name,.bool q.1.pub,q.2,.int .i64 q.1.writes,.bool q.1.gives,.int .i64 q.1.given])) (hg:w.grownBy w' pv.ownBlock) (hat:pv.ownBlock=some g\/g=w.heap.size) (hq:xR (fun b=>D+1<=b/\b<w.heap.size/\vv.ownBlock≠some b/\pv.ownBlock≠some b/\¬ (iv.ownBlock=some b\/mp=some b)) w q.2 q.1.params) : DI (w'.setCell ⟨D,2,none⟩ (.slice (some ⟨g,0,none⟩) (P.length+1) cap)) D Bm Bd mp vv (.slice (some ⟨g,0,none⟩) (P.length+1) cap) iv m V (P++[q]) is ms ns qs a:=by
 have hm:=h.lm;have hd:=h.ld;obtain ⟨li,lv,lpv⟩:=dY h;have hlow:∀ b,b<=D->some b≠pv.ownBlock:=fun b hb e=>by have:=lpv b e.symm;omega
 have hdc:=h.dc.grown hg (fun e=>hlow D (jE _) e.symm);have hfr:=h.fr.pushP ho hg hat h.fresh hq
 have hoi:=h.oi.kept hg (by
  cases e:iv.ownBlock with
  | none=>exact .inl rfl
  | some b=>exact .inr (fun e2=>h.fr.xp b e2.symm (.inl e)))
 exact ⟨hdc.set2 _,h.lm,h.ld,h.lp,hfr.set (by omega) _,jU hoi (fun e=>by have:=li _ e;simp at this) _,h.xi,(h.om.kept hg (hlow Bm (by omega))).setCell (by show Bm≠D;omega) _,h.am,(h.od.kept hg (hlow Bd (by omega))).setCell (by show Bd≠D;omega) _,h.ad,fun b e=>((h.op b e).kept hg (fun e2=>h.fr.xp b e2.symm (.inr e))).setCell (by have:=h.lp b e;show b≠D;omega) _,h.aq⟩
theorem DI.newP (h:DI w D Bm Bd mp vv pv iv m V P is ms ns qs a) (hb:Below w.heap.size w w') (ho:gM w' w.heap.size []) : DI (w'.setCell ⟨D,6,none⟩ (.map (some w.heap.size))) D Bm Bd (some w.heap.size) vv pv iv m V P is ms ns [] a:=by
 have hm:=h.lm;have hd:=h.ld;have hD:=h.dc.lt;have hg:w.grownBy w' none:=⟨hb.os,hb.tape,hb.output,hb.size,fun j hj _=>hb.block j hj⟩
 obtain ⟨li,lv,lpv⟩:=dY h;have k:=h.below hb
 have hfr:FR (fun b=>iv.ownBlock=some b\/some w.heap.size=some b) (D+1) w' vv pv V P:=h.fr.turn hg (fun b e=>by cases e) (fun b hb e=>by
  rcases e with e | e
  ·exact .inl e
  ·cases e;omega)
 exact ⟨k.dc.set6 _,h.lm,h.ld,fun b e=>by cases e;exact hD,hfr.set (by omega) _,jU k.oi (fun e=>by have:=li _ e;simp at this) _,fun b e e2=>by cases e2;have:=(h.oi.lt _ e).2;omega,k.om.setCell (by show Bm≠D;omega) _,h.am,k.od.setCell (by show Bd≠D;omega) _,h.ad,fun b e=>by cases e;exact ho.setCell (by show w.heap.size≠D;omega) _,rfl⟩
end
structure KZ (Z:Nat) (w w':World):Prop where
 eq:w'.heap[Z]?=w.heap[Z]?
 lt:Z<w'.heap.size
section
variable {Z:Nat} {w w' w2:World}
theorem KZ.below (h:KZ Z w w') (hb:Below w'.heap.size w' w2):KZ Z w w2:=⟨(hb.block Z h.lt).trans h.eq,jo h.lt hb.size⟩
theorem KZ.alloc (h:KZ Z w w') (o:Obj):KZ Z w (w'.alloc o):=h.below (bal o)
theorem KZ.drew (h:KZ Z w w'):KZ Z w w'.drew:=⟨h.eq,h.lt⟩
theorem KZ.grown {row:Option Nat} (h:KZ Z w w') (hg:w'.grownBy w2 row) (hne:row≠some Z):KZ Z w w2:=⟨(hg.block Z h.lt (fun e=>hne e.symm)).trans h.eq,jo h.lt hg.size⟩
theorem KZ.set (h:KZ Z w w') {D o:Nat} (hne:Z≠D) (v:Value):KZ Z w (w'.setCell ⟨D,o,none⟩ v):=⟨(jP _ _ _ _ hne).trans h.eq,by rw [jQ];exact h.lt⟩
end
end face
namespace face
open Go.RowKit Go.Maps
open syn
def AV (Z:Nat) (w:World) (D Bm Bd:Nat) (mp:Option Nat) (pv iv:Value) (mo:ByteArray) (V:List VarD) (P:List (ProcD × Value)) (is ms ns qs:List ByteArray) (at_:Int) (x:ByteArray) (p l:Bool) (n:Option Int) (e:Ending) (w':World):Prop :=
 Below Bm w w' /\
  ((qL ns x=true/\e=.panicked (qS 5 at_))\/(qL ns x=false/\20<=ns.length/\e=.panicked (qS 1 at_)) \/
   (qL ns x=false/\ns.length<20/\(∃ k,n=some k/\(k<1\/64<k))/\e=.panicked (qS 6 at_)) \/
   (qL ns x=false/\ns.length<20/\(∀ k,n=some k->1<=k/\k<=64)/\e=.returned (.tuple #[])/\KZ Z w w'/\∃ vv',DI w' D Bm Bd mp vv' pv iv mo (V++if p then [vD x p l n] else []) P is ms (ns++[x]) qs at_))
theorem zws {D Bm Bd:Nat} {mp:Option Nat} {vv pv iv:Value} {mo:ByteArray} {V:List VarD} {P:List (ProcD × Value)} {is ms ns qs:List ByteArray} {at_:Int} (x:ByteArray) (p l:Bool) (n:Option Int) (v:Value) (w:World) (hv:kC (·<Bm) w (Kid.var x p l n).tree v) (h:DI w D Bm Bd mp vv pv iv mo V P is ms ns qs at_) (hx:x.size<=16) (hns:ns.length<=20) (hV:V.length<=20) (Z:Nat) (hZ:Z<w.heap.size) (hZD:D<Z) (hZv:vv.ownBlock≠some Z) : Calls Tryz.prog 49 #[.pointer (some ⟨D,0,none⟩),v] w (AV Z w D Bm Bd mp pv iv mo V P is ms ns qs at_ x p l n):=by
 have c24:=kc25;have c4:Tryz.prog.cellsOf 57=4:=cell4;obtain ⟨i0,hi,hz0,hz1,hz2⟩:=info_parts zd3;have hv0:=hv;rw [Kid.tree_is] at hv;unfold kC at hv;obtain ⟨a,c,rfl,hl,hk⟩:=hv;simp only [Kid.kind,Kid.text,Kid.num] at *
 have hkids:0<(Kid.var x p l n).kids.length->∃ (g o:Nat) (k:Int) (ak:Option Addr) (ck:Nat),a=some ⟨g,o,none⟩/\(Kid.var x p l n).kids.length=1/\n=some k/\g<Bm/\w.cell? ⟨g,o,none⟩=some (.int .i64 15)/\w.cell? ⟨g,o+1,none⟩=some (.string empty)/\w.cell? ⟨g,o+2,none⟩=some (.int .i64 k)/\w.cell? ⟨g,o+3,none⟩=some (.slice ak 0 ck):=by
  intro h0
  cases n with
  | none=>simp [Kid.kids] at h0
  | some k =>
   obtain ⟨g,o,rfl,hg,hat⟩:=hk (by simp [Kid.kids]);unfold Kid.kids at hat
   obtain ⟨⟨v1,⟨x0,x1,x2,x3,rfl,c0,c1,c2,c3⟩,hv1⟩,_⟩:=hat
   unfold kC at hv1;obtain ⟨a1,d1,e1,_,_⟩:=hv1;cases e1;exact ⟨g,o,k,a1,d1,rfl,by simp [Kid.kids],rfl,hg,c0,c1,c2,c3⟩
 have hzero:(Kid.var x p l n).kids.length=0->∀ k,n=some k->1<=k/\k<=64:=by
  intro h0 k e;subst e;simp [Kid.kids] at h0
 have hle1:(Kid.var x p l n).kids.length<=1:=by cases n<;>simp [Kid.kids]
 have hmB:Bm<=w.heap.size:=by have:=h.lm;have:=h.ld;have:=h.dc.lt;omega
 have hVar:∀ W,Below Bm w W->Calls Tryz.prog 65 #[.agg #[.int .i64 3,.string x,.int .i64 (2*bI p+bI l),.slice a (Kid.var x p l n).kids.length c]] W fun e w'=>e=.returned (qN (vD x p l n))/\Below W.heap.size W w':=fun W hW=>znx x p l n _ W (hv0.to (fun b hb=>by have:=hW.size;show b<W.heap.size;have hb':b<Bm:=hb;omega) (fun b hb o=>hW.cell (p:=⟨b,o,none⟩) hb))
 clear hk hl hv0;generalize 2*bI p+bI l=m at *;generalize (Kid.var x p l n).kids.length=kl at *;have hd:=h.dc.lt;have hmm:=h.lm;have hdd:=h.ld;have hI0:=h.below (bal (.cells #[.int .i64 3,.string x,.int .i64 m,.slice a kl c] 25));have hI:DI (w.alloc (.cells #[.int .i64 3,.string x,.int .i64 m,.slice a kl c] 25)).drew D Bm Bd mp vv pv iv mo V P is ms ns qs at_:=hI0.below ⟨rfl,rfl,rfl,jE _,fun _ _=>rfl⟩;clear hI0;have hQ:Q4 w.heap.size (.int .i64 3) (.string x) (.int .i64 m) (.slice a kl c) (w.alloc (.cells #[.int .i64 3,.string x,.int .i64 m,.slice a kl c] 25)).drew:=⟨by simp,by simp,by simp,by simp⟩
 have hB:Below w.heap.size w (w.alloc (.cells #[.int .i64 3,.string x,.int .i64 m,.slice a kl c] 25)).drew:=(bal _).drew;have hKZ:KZ Z w (w.alloc (.cells #[.int .i64 3,.string x,.int .i64 m,.slice a kl c] 25)).drew:=((KZ.mk rfl hZ).alloc _).drew;have hS:(w.alloc (.cells #[.int .i64 3,.string x,.int .i64 m,.slice a kl c] 25)).drew.cell? ⟨D,5,none⟩=some (.map (some Bd))/\(w.alloc (.cells #[.int .i64 3,.string x,.int .i64 m,.slice a kl c] 25)).drew.cell? ⟨w.heap.size,1,none⟩=some (.string x):=⟨hI.dc.c5,hQ.2.1⟩
 go_enter Tryz.func49,Tryz.ntmps49;go_wp2;refine wp_region_held_drew (S:=fun W=>W.cell? ⟨D,5,none⟩=some (.map (some Bd))/\W.cell? ⟨w.heap.size,1,none⟩=some (.string x)) (by kernel_rfl) hS (fun hHeld=>?_);clear hHeld;generalize (w.alloc (.cells #[.int .i64 3,.string x,.int .i64 m,.slice a kl c] 25)).drew=W at *;refine tkP 0 (.pointer (some ⟨D,0,none⟩)) hS ?_;simp only [Act.put,jA,jB,jC];refine tkP 1 (.pointer (some ⟨D,0,none⟩)) hS ?_;simp only [Act.put,jA,jB,jC];refine tkP 2 (.pointer (some ⟨D,0,none⟩)) hS ?_;simp only [Act.put,jA,jB,jC];refine tkP 3 (.pointer (some ⟨D,5,none⟩)) hS ?_;simp only [Act.put,jA,jB,jC];refine tkP 4 (.map (some Bd)) hS ?_;simp only [Act.put,jA,jB,jC];refine tkP 5 (.pointer (some ⟨w.heap.size,1,none⟩)) hS ?_;simp only [Act.put,jA,jB,jC];refine tkP 6 (.string x) hS ?_;simp only [Act.put,jA,jB,jC];refine oneH 7 fun K hK=>?_
 go_simp;go_at_call 48;refine (zcb D Bd ns x 20 at_ W hI.dc.c7 hI.od hI.ad (by omega) (by omega) (by omega)).mono ?_;rintro e W1 (⟨hm1,rfl,hb⟩|⟨hm1,hle,rfl,hb⟩|⟨hm1,hlt,rfl,hom,ham,hg⟩);·go_wp2;exact ⟨rfl,(hB.trans (hb.mono hB.size)).mono (by omega),.inl ⟨hm1,rfl⟩⟩
 ·go_wp2;exact ⟨rfl,(hB.trans (hb.mono hB.size)).mono (by omega),.inr (.inl ⟨hm1,hle,rfl⟩)⟩
 go_wp2;replace hQ:=Q4.grown hQ hg (by simp;omega);have hI1:=hI.enterD hom ham hg;have hB1:Below Bm w W1:=(hB.mono (by omega)).grown hg (by have:=hB.size;omega) (fun k e=>by cases e;omega);have hKZ1:=hKZ.grown hg (by simp;omega);clear hB hom ham hg hI hKZ;refine hK.out _ _ ⟨hI1.dc.c5,hQ.2.1⟩ (fun hHeld=>?_);clear hK K hHeld;refine wpAnyH_done (by kernel_rfl) ?_ _;obtain ⟨q0,q1,q2,q3⟩:=id hQ;go_wp2;go_loopw [18] (fun t wr=>∃ j:Nat,j<=kl/\t=.int .i64 j/\Hid (j=kl->∀ k,n=some k->1<=k/\k<=64)/\DI wr D Bm Bd mp vv pv iv mo V P is ms (ns++[x]) qs at_/\Q4 w.heap.size (.int .i64 3) (.string x) (.int .i64 m) (.slice a kl c) wr/\Below Bm w wr/\KZ Z w wr) (fun t _=>kl - (intOf t).toNat)
 case atStart=>exact ⟨0,jz _,rfl,fun e=>hzero e.symm,hI1,hQ,hB1,hKZ1⟩
 case round =>
  clear hKZ1 hB1 hQ hI1 q0 q1 q2 q3;obtain ⟨j,hj,rfl,HR,hI,hQ,hB,hKZ⟩:=hrel;obtain ⟨q0,q1,q2,q3⟩:=id hQ;by_cases hlt2:j<kl
  ·obtain ⟨g,o,k,ak,ck,rfl,rfl,rfl,hg,c0,c1,c2,c3⟩:=hkids (by omega);have hj0:j=0:=by omega
   subst hj0;have k0:=(hB.cell (p:=⟨g,o,none⟩) hg).trans c0;have k1:=(hB.cell (p:=⟨g,o+1,none⟩) hg).trans c1;have k2:=(hB.cell (p:=⟨g,o+2,none⟩) hg).trans c2;have k3:=(hB.cell (p:=⟨g,o+3,none⟩) hg).trans c3;have hszr:=hB.size;have hIa:=hI.below (bal (.cells #[.int .i64 15,.string empty,.int .i64 k,.slice ak 0 ck] 25));have hBa:=hB.alloc (by omega) (.cells #[.int .i64 15,.string empty,.int .i64 k,.slice ak 0 ck] 25);have hRef:=zdo D 6 at_ _ hIa.dc.c7;clear c0 c1 c2 c3;by_cases hr1:k<1
   ·have HX:Hid (∃ k',some k=some k'/\(k'<1\/64<k')):=⟨k,rfl,.inl hr1⟩
    go_wp2_with (go_at_call 78;refine hRef.mono ?_;rintro e w2 ⟨rfl,hw2⟩;obtain rfl:=hw2.symm);exact ⟨rfl,hBa,.inr (.inr (.inl ⟨hm1,hlt,HX.out,rfl⟩))⟩
   by_cases hr2:64<k
   ·have HX:Hid (∃ k',some k=some k'/\(k'<1\/64<k')):=⟨k,rfl,.inr hr2⟩
    go_wp2_with (go_at_call 78;refine hRef.mono ?_;rintro e w2 ⟨rfl,hw2⟩;obtain rfl:=hw2.symm);exact ⟨rfl,hBa,.inr (.inr (.inl ⟨hm1,hlt,HX.out,rfl⟩))⟩
   go_wp2;go_roundw
   case rel=>exact ⟨1,by omega,by go_num,fun _ k' e=>by cases e;omega,hIa,hQ.alloc _,hBa,hKZ.alloc _⟩
   case measure=>simp [intOf]
  ·have hj0:j=kl:=by omega
   subst hj0;have HR':Hid (∀ k,n=some k->1<=k/\k<=64):=HR.out rfl;clear HR hkids hzero;cases p
   ·go_wp2_with (go_at_call 65;refine (hVar _ hB).mono ?_;rintro e w2 ⟨rfl,hb2⟩;unfold qN vD)
    go_end0
    refine ⟨((hB.trans (hb2.mono (by have:=hB.size;omega)))).alloc (by have:=hB.size;have:=hb2.size;omega) _,.inr (.inr (.inr ⟨hm1,hlt,HR'.out,rfl,(hKZ.below hb2).alloc _,vv,?_⟩))⟩;have hfin:=(hI.below hb2).below (bal (.cells #[.string x,.bool false,.int .i64 (bI l),.int .i64 (n.getD 0)] 57));simpa using hfin
   go_wp2_with (go_at_call 65;refine (hVar _ hB).mono ?_;rintro e w2 ⟨rfl,hb2⟩;unfold qN vD);generalize hy:n.getD 0=y;have hI2:DI (w2.alloc (.cells #[.string x,.bool true,.int .i64 (bI l),.int .i64 y] 57)).drew D Bm Bd mp vv pv iv mo V P is ms (ns++[x]) qs at_:=((hI.below hb2).below (bal (.cells #[.string x,.bool true,.int .i64 (bI l),.int .i64 y] 57))).below ⟨rfl,rfl,rfl,jE _,fun _ _=>rfl⟩;have hB2:Below Bm w (w2.alloc (.cells #[.string x,.bool true,.int .i64 (bI l),.int .i64 y] 57)).drew:=((hB.trans (hb2.mono (by have:=hB.size;omega))).alloc (by have:=hB.size;have:=hb2.size;omega) _).drew;have hS2:Q4 w2.heap.size (.string x) (.bool true) (.int .i64 (bI l)) (.int .i64 y) (w2.alloc (.cells #[.string x,.bool true,.int .i64 (bI l),.int .i64 y] 57)).drew:=⟨by simp,by simp,by simp,by simp⟩
   have hKZ2:KZ Z w (w2.alloc (.cells #[.string x,.bool true,.int .i64 (bI l),.int .i64 y] 57)).drew:=((hKZ.below hb2).alloc _).drew;have hDb:D<w2.heap.size:=by have:=hI.dc.lt;have:=hb2.size;omega
   have hvb:∀ k,vv.ownBlock=some k->k<w2.heap.size:=fun k e=>by have:=(hI.fr.ov.lt _ e).2;have:=hb2.size;omega
   clear hKZ hI hB hQ q0 q1 q2 q3 hb2;refine wp_region_held_drew (S:=fun W=>Q4 w2.heap.size (.string x) (.bool true) (.int .i64 (bI l)) (.int .i64 y) W) (by kernel_rfl) hS2 (fun hHeld=>?_);clear hHeld;generalize (w2.alloc (.cells #[.string x,.bool true,.int .i64 (bI l),.int .i64 y] 57)).drew=W2 at *;generalize w2.heap.size=N at *;obtain ⟨av,cv,rfl⟩:=hI2.fr.shapeV;refine tkP 0 (.pointer (some ⟨D,0,none⟩)) hS2 ?_;simp only [Act.put,jA,jB,jC];refine tkP 1 (.pointer (some ⟨D,0,none⟩)) hS2 ?_;simp only [Act.put,jA,jB,jC];refine tkP 2 (.pointer (some ⟨D,0,none⟩)) hS2 ?_;simp only [Act.put,jA,jB,jC];refine tkP 3 (.pointer (some ⟨D,0,none⟩)) hS2 ?_;simp only [Act.put,jA,jB,jC];refine tkP 4 (.pointer (some ⟨D,1,none⟩)) hS2 ?_;simp only [Act.put,jA,jB,jC];refine tkP 6 (.agg #[.string x,.bool true,.int .i64 (bI l),.int .i64 y] ) hS2 ?_;simp only [Act.put,jA,jB,jC];refine wpAnyH_ready (rs:=[5,7]) (by kernel_rfl) (by simp) ?_;refine AllReadyH.cons rfl (fun K hK=>?_) (AllReadyH.cons rfl (fun K hK=>?_) AllReadyH.nil)
   focus
    have m1:=hI2.dc.c1;go_simp;refine hK.out _ _ hS2 (fun hHeld=>?_);clear hK K hHeld m1;refine oneH 7 fun K hK=>?_
    go_simp;have hsl:∀ j u,[Value.string x,.bool true,.int .i64 (bI l),.int .i64 y][j]?=some u->(W2.alloc (.cells #[.string x,.bool true,.int .i64 (bI l),.int .i64 y] 57)).cell? ((⟨W2.heap.size,0,none⟩:Addr).add j)=some u:=xF _ #[.string x,.bool true,.int .i64 (bI l),.int .i64 y] _ _ rfl;have hss:W2.heap.size+1=(W2.alloc (.cells #[.string x,.bool true,.int .i64 (bI l),.int .i64 y] 57)).heap.size:=by simp
    replace hB2:=hB2.alloc (by have:=hI2.dc.lt;omega) (.cells #[.string x,.bool true,.int .i64 (bI l),.int .i64 y] 57);replace hKZ2:=hKZ2.alloc (.cells #[.string x,.bool true,.int .i64 (bI l),.int .i64 y] 57);replace hI2:=hI2.below (bal (.cells #[.string x,.bool true,.int .i64 (bI l),.int .i64 y] 57));replace hS2:=Q4.alloc hS2 (.cells #[.string x,.bool true,.int .i64 (bI l),.int .i64 y] 57);refine hK.out _ _ hS2 (fun hHeld=>?_);clear hK K hHeld;generalize W2.alloc (.cells #[.string x,.bool true,.int .i64 (bI l),.int .i64 y] 57)=W3 at *;generalize W2.heap.size=s0 at *
   rotate_left
   focus
    go_simp;have hsl:∀ j u,[Value.string x,.bool true,.int .i64 (bI l),.int .i64 y][j]?=some u->(W2.alloc (.cells #[.string x,.bool true,.int .i64 (bI l),.int .i64 y] 57)).cell? ((⟨W2.heap.size,0,none⟩:Addr).add j)=some u:=xF _ #[.string x,.bool true,.int .i64 (bI l),.int .i64 y] _ _ rfl;have hss:W2.heap.size+1=(W2.alloc (.cells #[.string x,.bool true,.int .i64 (bI l),.int .i64 y] 57)).heap.size:=by simp
    replace hB2:=hB2.alloc (by have:=hI2.dc.lt;omega) (.cells #[.string x,.bool true,.int .i64 (bI l),.int .i64 y] 57);replace hKZ2:=hKZ2.alloc (.cells #[.string x,.bool true,.int .i64 (bI l),.int .i64 y] 57);replace hI2:=hI2.below (bal (.cells #[.string x,.bool true,.int .i64 (bI l),.int .i64 y] 57));replace hS2:=Q4.alloc hS2 (.cells #[.string x,.bool true,.int .i64 (bI l),.int .i64 y] 57);refine hK.out _ _ hS2 (fun hHeld=>?_);clear hK K hHeld;generalize W2.alloc (.cells #[.string x,.bool true,.int .i64 (bI l),.int .i64 y] 57)=W3 at *;generalize W2.heap.size=s0 at *;refine oneH 5 fun K hK=>?_
    have m1:=hI2.dc.c1;go_simp;refine hK.out _ _ hS2 (fun hHeld=>?_);clear hK K hHeld m1
   all_goals
    refine oneH 8 fun K hK=>?_
    refine step_append_lies _ (by rfl) (.tmp 42) (.tmp 44) 38 (by rfl) (D+1) 57 i0 (.agg #[.string ⟨#[]⟩,.bool false,.int .i64 0,.int .i64 0]) 4 40 Tryz.underlying38 hi hz0 hz1 hz2 rfl (by decide) (.slice av V.length cv) V.length (zW V) (by simp [Act.eval,Act.put]) hI2.fr.ov ⟨s0,0,none⟩ 1 1 [.string x,.bool true,.int .i64 (bI l),.int .i64 y] (by simp [Act.eval,Act.put]) rfl hsl (by intro u hu;simp at hu;rcases hu with rfl | rfl | rfl | rfl<;>rfl) (by omega) (by unfold maxLen;omega) (by omega) (by have:=hI2.dc.lt;omega) (s0+1) hss.symm ?_;intro g5 cap5 w5 hown5 hgrow5 hat5 hlt5;have hrN:(Value.slice av V.length cv).ownBlock≠some N:=fun e=>by have:=hvb _ e;omega
    have hrD:(Value.slice av V.length cv).ownBlock≠some D:=fun e=>by have:=(hI2.fr.ov.lt _ e).1;omega
    have hfin:=hI2.pushV (v:=⟨x,true,bI l,y⟩) hown5 hgrow5 (hat5.imp id (fun e=>e.trans hss));replace hS2:=Q4.grown hS2 hgrow5 hrN;replace hKZ2:=hKZ2.grown hgrow5 hZv;replace hB2:=hB2.grown hgrow5 (by have:=hI2.dc.lt;omega) (fun k e=>by have:=(hI2.fr.ov.lt _ e).1;omega);have hdc:=hI2.dc.grown hgrow5 hrD;have m1:=hdc.c1;have mf:=hdc.fz 1;clear hI2 hdc;refine hK.out _ _ hS2 (fun hHeld=>?_);clear hK K hHeld;simp only [Act.put,jA,jB,jC];refine tkP 9 (.pointer (some ⟨D,0,none⟩)) hS2 ?_;simp only [Act.put,jA,jB,jC];refine tkP 10 (.pointer (some ⟨D,0,none⟩)) hS2 ?_;simp only [Act.put,jA,jB,jC];refine tkP 11 (.pointer (some ⟨D,1,none⟩)) hS2 ?_;simp only [Act.put,jA,jB,jC];refine oneH 12 fun K hK=>?_
    go_simp;refine hK.out _ _ (Q4.other (by omega) hS2 _ _) (fun hHeld=>?_);clear hK K hHeld m1 mf;refine wpAnyH_done (by kernel_rfl) ?_ _;have HF:Hid (vD x true l n=⟨x,true,bI l,y⟩):=by show _=_;unfold vD;rw [hy]
    clear hy;go_wp2
    go_end0
    exact ⟨hB2.setCell (by show Bm<=D;omega) _,.inr (.inr (.inr ⟨hm1,hlt,HR'.out,rfl,hKZ2.set (by omega) _,_,by rw [jv rfl,HF.out];exact hfin⟩))⟩
end face
namespace face
open Go.RowKit
open lexs (Tok scan cellsOf tok_cells own_shape scan_own qP zn6)
open syn (kK vS eqS empty)
theorem eqS_lit (y:ByteArray) (l:List UInt8):eqS y ⟨l.toArray⟩=(y.toList==l):=by unfold eqS;rw [ByteArray.toList_eq ⟨l.toArray⟩]
theorem eqS_comm (x y:ByteArray):eqS x y=eqS y x:=by unfold eqS;rw [Bool.eq_iff_iff];simp only [beq_iff_eq];exact eq_comm
theorem reserved_any (x:ByteArray):(vS.any fun y=>eqS y x)=((x.toList==[100,111])||(x.toList==[101,108,115,101])||(x.toList==[103,105,118,101,115])||(x.toList==[104,105,103,104])||(x.toList==[105,102])||(x.toList==[105,109,112,111,114,116])||(x.toList==[105,110])||(x.toList==[108,111,119])||(x.toList==[109,111,100,117,108,101])||(x.toList==[111,117,116])||(x.toList==[112,114,111,99])||(x.toList==[112,117,98])||(x.toList==[114,101,116,117,114,110])||(x.toList==[119,104,105,108,101])):=by
 have h:(vS.any fun y=>eqS y x)=(vS.any fun y=>eqS x y):=by
  rw [Bool.eq_iff_iff,List.any_eq_true,List.any_eq_true];constructor;·rintro ⟨y,h1,h2⟩;exact ⟨y,h1,by rw [eqS_comm];exact h2⟩
  ·rintro ⟨y,h1,h2⟩;exact ⟨y,h1,by rw [eqS_comm];exact h2⟩
 rw [h];unfold vS;simp only [List.any_cons,List.any_nil,Bool.or_false];rw [show eqS x ⟨#[100,111]⟩=(x.toList==[100,111]) from eqS_lit x [100,111],show eqS x ⟨#[101,108,115,101]⟩=(x.toList==[101,108,115,101]) from eqS_lit x [101,108,115,101],show eqS x ⟨#[103,105,118,101,115]⟩=(x.toList==[103,105,118,101,115]) from eqS_lit x [103,105,118,101,115],show eqS x ⟨#[104,105,103,104]⟩=(x.toList==[104,105,103,104]) from eqS_lit x [104,105,103,104],show eqS x ⟨#[105,102]⟩=(x.toList==[105,102]) from eqS_lit x [105,102],show eqS x ⟨#[105,109,112,111,114,116]⟩=(x.toList==[105,109,112,111,114,116]) from eqS_lit x [105,109,112,111,114,116],show eqS x ⟨#[105,110]⟩=(x.toList==[105,110]) from eqS_lit x [105,110],show eqS x ⟨#[108,111,119]⟩=(x.toList==[108,111,119]) from eqS_lit x [108,111,119],show eqS x ⟨#[109,111,100,117,108,101]⟩=(x.toList==[109,111,100,117,108,101]) from eqS_lit x [109,111,100,117,108,101],show eqS x ⟨#[111,117,116]⟩=(x.toList==[111,117,116]) from eqS_lit x [111,117,116],show eqS x ⟨#[112,114,111,99]⟩=(x.toList==[112,114,111,99]) from eqS_lit x [112,114,111,99],show eqS x ⟨#[112,117,98]⟩=(x.toList==[112,117,98]) from eqS_lit x [112,117,98],show eqS x ⟨#[114,101,116,117,114,110]⟩=(x.toList==[114,101,116,117,114,110]) from eqS_lit x [114,101,116,117,114,110],show eqS x ⟨#[119,104,105,108,101]⟩=(x.toList==[119,104,105,108,101]) from eqS_lit x [119,104,105,108,101]];simp only [Bool.or_assoc]
theorem oisName (k a:Int) (x:ByteArray) (w:World) : Calls Tryz.prog 28 #[.agg #[.int .i64 k,.string x,.int .i64 a]] w fun e w'=>e=.returned (.bool (!(vS.any fun y=>eqS y x)&&k==1))/\Below w.heap.size w w':=by
 have c29:=kc89;rw [reserved_any];cases h0:(x.toList==[100,111])
 case true =>
  simp only [Bool.true_or,Bool.or_true,Bool.false_or,Bool.not_true,Bool.false_and];go_enter Tryz.func28,Tryz.ntmps28;go_wp2;go_ret;exact ⟨rfl,bal _⟩
 cases h1:(x.toList==[101,108,115,101])
 case true =>
  simp only [Bool.true_or,Bool.or_true,Bool.false_or,Bool.not_true,Bool.false_and];go_enter Tryz.func28,Tryz.ntmps28;go_wp2;go_ret;exact ⟨rfl,bal _⟩
 cases h2:(x.toList==[103,105,118,101,115])
 case true =>
  simp only [Bool.true_or,Bool.or_true,Bool.false_or,Bool.not_true,Bool.false_and];go_enter Tryz.func28,Tryz.ntmps28;go_wp2;go_ret;exact ⟨rfl,bal _⟩
 cases h3:(x.toList==[104,105,103,104])
 case true =>
  simp only [Bool.true_or,Bool.or_true,Bool.false_or,Bool.not_true,Bool.false_and];go_enter Tryz.func28,Tryz.ntmps28;go_wp2;go_ret;exact ⟨rfl,bal _⟩
 cases h4:(x.toList==[105,102])
 case true =>
  simp only [Bool.true_or,Bool.or_true,Bool.false_or,Bool.not_true,Bool.false_and];go_enter Tryz.func28,Tryz.ntmps28;go_wp2;go_ret;exact ⟨rfl,bal _⟩
 cases h5:(x.toList==[105,109,112,111,114,116])
 case true =>
  simp only [Bool.true_or,Bool.or_true,Bool.false_or,Bool.not_true,Bool.false_and];go_enter Tryz.func28,Tryz.ntmps28;go_wp2;go_ret;exact ⟨rfl,bal _⟩
 cases h6:(x.toList==[105,110])
 case true =>
  simp only [Bool.true_or,Bool.or_true,Bool.false_or,Bool.not_true,Bool.false_and];go_enter Tryz.func28,Tryz.ntmps28;go_wp2;go_ret;exact ⟨rfl,bal _⟩
 cases h7:(x.toList==[108,111,119])
 case true =>
  simp only [Bool.true_or,Bool.or_true,Bool.false_or,Bool.not_true,Bool.false_and];go_enter Tryz.func28,Tryz.ntmps28;go_wp2;go_ret;exact ⟨rfl,bal _⟩
 cases h8:(x.toList==[109,111,100,117,108,101])
 case true =>
  simp only [Bool.true_or,Bool.or_true,Bool.false_or,Bool.not_true,Bool.false_and];go_enter Tryz.func28,Tryz.ntmps28;go_wp2;go_ret;exact ⟨rfl,bal _⟩
 cases h9:(x.toList==[111,117,116])
 case true =>
  simp only [Bool.true_or,Bool.or_true,Bool.false_or,Bool.not_true,Bool.false_and];go_enter Tryz.func28,Tryz.ntmps28;go_wp2;go_ret;exact ⟨rfl,bal _⟩
 cases h10:(x.toList==[112,114,111,99])
 case true =>
  simp only [Bool.true_or,Bool.or_true,Bool.false_or,Bool.not_true,Bool.false_and];go_enter Tryz.func28,Tryz.ntmps28;go_wp2;go_ret;exact ⟨rfl,bal _⟩
 cases h11:(x.toList==[112,117,98])
 case true =>
  simp only [Bool.true_or,Bool.or_true,Bool.false_or,Bool.not_true,Bool.false_and];go_enter Tryz.func28,Tryz.ntmps28;go_wp2;go_ret;exact ⟨rfl,bal _⟩
 cases h12:(x.toList==[114,101,116,117,114,110])
 case true =>
  simp only [Bool.true_or,Bool.or_true,Bool.false_or,Bool.not_true,Bool.false_and];go_enter Tryz.func28,Tryz.ntmps28;go_wp2;go_ret;exact ⟨rfl,bal _⟩
 cases h13:(x.toList==[119,104,105,108,101])
 case true =>
  simp only [Bool.true_or,Bool.or_true,Bool.false_or,Bool.not_true,Bool.false_and];go_enter Tryz.func28,Tryz.ntmps28;go_wp2;go_ret;exact ⟨rfl,bal _⟩
 simp only [Bool.or_false,Bool.not_false,Bool.true_and];go_enter Tryz.func28,Tryz.ntmps28;go_wp2;go_ret;exact ⟨rfl,bal _⟩
theorem bQ {w:World} {a:Addr} {v:Value} (h:w.cell? a=some v) (ob:Obj):(w.alloc ob).cell? a=some v:=by
 rw [(bal ob).cell (jR w a h)];exact h
theorem zay (x:ByteArray) (w:World) (hw:qP w) : Calls Tryz.prog 14 #[.string x] w fun e w'=>e=.returned (.bool (kK x))/\Below w.heap.size w w':=by
 have c29:=kc89;rw [<- ztk];have hS:=scan_own x w hw;obtain ⟨V,hV⟩:∃ V,V=bD x:=⟨_,rfl⟩
 rw [<- hV];have HV:Hid (V=bD x):=hV;clear hV;generalize hR:(scan x.data.toList)=R at hS;have HR:Hid (scan x.data.toList=R):=hR;clear hR;generalize hL:R.toks=L at hS;have HL:Hid (R.toks=L):=hL;clear hL;generalize R.code=C,R.place=P at hS
 match L,HL,hS with
 | [],HL,hS =>
  have HF:Hid (V=false):=by show _=_;rw [HV.out];unfold bD;rw [HR.out,HL.out];rfl
  go_enter Tryz.func14,Tryz.ntmps14;go_wp2_with (go_at_call 18;refine hS.mono ?_;rintro e w1 ⟨v,rfl,hown,hb⟩;obtain ⟨a,c,rfl,_,_⟩:=own_shape hown);go_ret
  exact ⟨by rw [HF.out];rfl,hb.alloc hb.size _⟩
 | [t],HL,hS =>
  have HF:Hid (V=(ownName t&&eqS (raw t) x)):=by show _=_;rw [HV.out];unfold bD;rw [HR.out,HL.out];rfl
  cases ho:(!(vS.any fun y=>eqS y (raw t))&&t.kind==1)
  ·have HG:Hid (V=false):=by show _=_;rw [HF.out];unfold ownName;rw [ho];rfl
   go_enter Tryz.func14,Tryz.ntmps14
   go_wp2_with first
    | (go_at_call 18;refine hS.mono ?_;rintro e w1 ⟨v,rfl,hown,hb⟩;obtain ⟨a,c,rfl,_,hg⟩:=own_shape hown;obtain ⟨g,rfl⟩:=hg (by simp);obtain ⟨q0,q1,q2⟩:=tok_cells hown (k:=0) (by simp);simp only [Nat.zero_mul,Nat.zero_add,jI] at q0 q1 q2;have r0:=fun (ob:Obj)=>bQ q0 ob;have r1:=fun (ob:Obj)=>bQ q1 ob;have r2:=fun (ob:Obj)=>bQ q2 ob)
    | (go_at_call 28;refine (oisName _ _ _ _).mono ?_;rw [show (⟨t.text.toArray⟩:ByteArray)=raw t from rfl,ho];rintro e w2 ⟨rfl,hb2⟩)
   go_ret;exact ⟨by rw [HG.out];rfl,lexs.below_next hb hb2⟩
  ·cases he:((raw t).toList==x.toList)
   all_goals
    have HG:Hid (V=((raw t).toList==x.toList)):=by show _=_;rw [HF.out];show ((!(vS.any fun y=>eqS y (raw t))&&t.kind==1)&&eqS (raw t) x)=_;rw [ho];rfl
    rw [he] at HG;go_enter Tryz.func14,Tryz.ntmps14
    go_wp2_with first
     | (go_at_call 18;refine hS.mono ?_;rintro e w1 ⟨v,rfl,hown,hb⟩;obtain ⟨a,c,rfl,_,hg⟩:=own_shape hown;obtain ⟨g,rfl⟩:=hg (by simp);obtain ⟨q0,q1,q2⟩:=tok_cells hown (k:=0) (by simp);simp only [Nat.zero_mul,Nat.zero_add,jI] at q0 q1 q2;rw [show (⟨t.text.toArray⟩:ByteArray)=raw t from rfl] at q1;have hgl:=jR _ _ q1;have r0:=fun (ob:Obj)=>bQ q0 ob;have r1:=fun (ob:Obj)=>bQ q1 ob;have r2:=fun (ob:Obj)=>bQ q2 ob)
     | (go_at_call 28;refine (oisName _ _ _ _).mono ?_;rw [ho];rintro e w2 ⟨rfl,hb2⟩;have q3:=(hb2.cell (p:=⟨g,1,none⟩) (by rw [jO];show g<_;have:g<w1.heap.size:=hgl;omega));rw [r1] at q3)
    go_ret
    exact ⟨by rw [HG.out];rfl,lexs.below_next hb hb2⟩
 | t :: t' :: r,HL,hS =>
  have HF:Hid (V=false):=by show _=_;rw [HV.out];unfold bD;rw [HR.out,HL.out];rfl
  go_enter Tryz.func14,Tryz.ntmps14;go_wp2_with (go_at_call 18;refine hS.mono ?_;rintro e w1 ⟨v,rfl,hown,hb⟩;obtain ⟨a,c,rfl,_,_⟩:=own_shape hown);go_ret;exact ⟨by rw [HF.out];rfl,hb.alloc hb.size _⟩
end face
namespace ord
theorem tkd {P:Program} {ops:Array Oper} {Q:Exit->Act->World->Prop} {md:Region.Mode} {S:World->Prop} {i d:Nat} {oi:Oper} {v:Value} {fuel:Nat} {listed:Array Bool} {a:Act} {w:World} (hi:ops[i]?=some oi) (hd:oi.dst=some d) (hs:Region.noSelect ops=true) (hf:Region.free md ops listed i=true) (hr:(Region.ready md ops listed).contains i=true) (hQ:∀ c a w,Q (.panic c) (a.put oi.dst v) w->Q (.panic c) a w) (hy:YieldsIf P ops S oi v a) (hS:S w) (h:wpAnyH P md ops Q S fuel (listed.setIfInBounds i true) { tmps:=a.tmps.setIfInBounds d v,defers:=a.defers } w):wpAnyH P md ops Q S (fuel+1) listed a w:=by
 refine wpAnyH_take hi hs hf hr hQ hy hS ?_;rw [hd];exact h
end ord
end Go.Proofs.YtaadmdlbkhcfnaaGreatDoor
