/- What the reference's Variable answers: a contract. -/
import Derived.Test.YtfopddgjdaoidaaGreatDoorNM21
set_option linter.unusedVariables false
set_option linter.unusedSimpArgs false
set_option maxRecDepth 100000
namespace Go.Proofs.YtfopddgjdaoidaaGreatDoor.face
open Go.RowKit
structure FR (X:Nat→Prop) (B:Nat) (w:World) (vv pv:Value) (V:List VarD) (P:List (ProcD × Value)):Prop where
  ov:w.ownsRow B 76 4 vv V.length (varCells V)
  op:w.ownsRow B 80 6 pv P.length (procCells P)
  par:∀ q ∈ P,ParIn (fun b=>B≤b∧b<w.heap.size∧vv.ownBlock≠some b∧pv.ownBlock≠some b∧¬ X b) w q.2 q.1.params
  dj:∀ b,vv.ownBlock=some b→pv.ownBlock≠some b
  xv:∀ b,vv.ownBlock=some b→¬ X b
  xp:∀ b,pv.ownBlock=some b→¬ X b
section
variable {X:Nat→Prop} {B:Nat} {w w':World} {vv pv:Value} {V:List VarD} {P:List (ProcD × Value)}
theorem FR.nil (X:Nat→Prop) (B:Nat) (w:World):FR X B w (.slice none 0 0) (.slice none 0 0) [] [] :=
  ⟨World.ownsRow_nil _ _ _ _,World.ownsRow_nil _ _ _ _,(fun q hq=>by cases hq),(fun b h=>by cases h),(fun b h=>by cases h),(fun b h=>by cases h)⟩
theorem FR.grown {row:Option Nat} (h:FR X B w vv pv V P) (hg:w.grownBy w' row) (hr:∀ b,row=some b→X b):FR X B w' vv pv V P:=by
  have hv:vv.ownBlock=none∨vv.ownBlock≠row:=by
    cases e:vv.ownBlock with
    | none=>exact .inl rfl
    | some b=>exact .inr (fun e2=>h.xv b e (hr b e2.symm))
  have hp:pv.ownBlock=none∨pv.ownBlock≠row:=by
    cases e:pv.ownBlock with
    | none=>exact .inl rfl
    | some b=>exact .inr (fun e2=>h.xp b e (hr b e2.symm))
  refine ⟨h.ov.kept hg hv,h.op.kept hg hp,fun q hq=>?_,h.dj,h.xv,h.xp⟩
  exact (h.par q hq).to (fun b hb=>⟨hb.1,Nat.lt_of_lt_of_le hb.2.1 hg.size,hb.2.2⟩) (fun b hb o v hc=>cell_grown hg hc (fun e=>hb.2.2.2.2 (hr b e)))
theorem FR.below (h:FR X B w vv pv V P) (hb:Below w.heap.size w w'):FR X B w' vv pv V P :=
  h.grown (row:=none) ⟨hb.os,hb.tape,hb.output,hb.size,fun j hj _=>hb.block j hj⟩ (fun b e=>by cases e)
theorem FR.alloc (h:FR X B w vv pv V P) (o:Obj):FR X B (w.alloc o) vv pv V P:=h.below ((Below.refl _ _).alloc (jE _) o)
theorem FR.drew (h:FR X B w vv pv V P):FR X B w.drew vv pv V P:=⟨h.ov,h.op,h.par,h.dj,h.xv,h.xp⟩
theorem FR.set (h:FR X B w vv pv V P) {M o:Nat} (hM:M<B) (v:Value):FR X B (w.setCell ⟨M,o,none⟩ v) vv pv V P:=by
  refine ⟨ownsRow_setCell_other h.ov (fun e=>by have:=(h.ov.lt _ e).1;simp at this;omega) _,ownsRow_setCell_other h.op (fun e=>by have:=(h.op.lt _ e).1;simp at this;omega) _,fun q hq=>?_,h.dj,h.xv,h.xp⟩
  exact (h.par q hq).to (fun b hb=>⟨hb.1,by rw [World.size_setCell];exact hb.2.1,hb.2.2⟩) (fun b hb o' v' hc=>by
    rw [jD _ _ _ _ (by intro e;have h1:=hb.1;cases e;omega)]
    exact hc)
theorem FR.pushV (h:FR X B w vv pv V P) {v:VarD} {g cap:Nat} (ho:w'.ownsRow B 76 4 (.slice (some ⟨g,0,none⟩) (V.length+1) cap) (V.length+1) (varCells V++[.string v.name,.bool v.pub,.int .i64 v.label,.int .i64 v.size])) (hg:w.grownBy w' vv.ownBlock)
    (hat:vv.ownBlock=some g∨g=w.heap.size) (hX:∀ b,w.heap.size≤b→¬ X b):FR X B w' (.slice (some ⟨g,0,none⟩) (V.length+1) cap) pv (V++[v]) P:=by
  have hpne:pv.ownBlock=none∨pv.ownBlock≠vv.ownBlock:=by
    cases e:pv.ownBlock with
    | none=>exact .inl rfl
    | some b=>exact .inr (fun e2=>h.dj b e2.symm e)
  have hgp:∀ b,some g=some b→pv.ownBlock≠some b:=fun b e e2=>by
    cases e
    rcases hat with h1 | h1
    · exact h.dj g h1 e2
    · have:=(h.op.lt _ e2).2;omega
  refine ⟨by rw [varCells_snoc,List.length_append];exact ho,h.op.kept hg hpne,fun q hq=>?_,hgp,fun b e=>?_,h.xp⟩
  · refine (h.par q hq).to (fun b hb=>⟨hb.1,Nat.lt_of_lt_of_le hb.2.1 hg.size,fun e=>?_,hb.2.2.2⟩) (fun b hb o v hc=>cell_grown hg hc hb.2.2.1)
    have e':some g=some b:=e
    cases e'
    rcases hat with h1 | h1
    · exact hb.2.2.1 h1
    · have:=hb.2.1;omega
  · have e':some g=some b:=e
    cases e'
    rcases hat with h1 | h1
    · exact h.xv g h1
    · exact hX g (by omega)
theorem FR.pushP (h:FR X B w vv pv V P) {q:ProcD × Value} {g cap:Nat} (ho:w'.ownsRow B 80 6 (.slice (some ⟨g,0,none⟩) (P.length+1) cap) (P.length+1) (procCells P++[.string q.1.name,.bool q.1.pub,q.2,.int .i64 q.1.writes,.bool q.1.gives,.int .i64 q.1.given])) (hg:w.grownBy w' pv.ownBlock)
    (hat:pv.ownBlock=some g∨g=w.heap.size) (hX:∀ b,w.heap.size≤b→¬ X b) (hq:ParIn (fun b=>B≤b∧b<w.heap.size∧vv.ownBlock≠some b∧pv.ownBlock≠some b∧¬ X b) w q.2 q.1.params):FR X B w' vv (.slice (some ⟨g,0,none⟩) (P.length+1) cap) V (P++[q]):=by
  have hvne:vv.ownBlock=none∨vv.ownBlock≠pv.ownBlock:=by
    cases e:vv.ownBlock with
    | none=>exact .inl rfl
    | some b=>exact .inr (fun e2=>h.dj b e e2.symm)
  refine ⟨h.ov.kept hg hvne,by rw [procCells_snoc,List.length_append];exact ho,fun q' hq'=>?_,fun b e e2=>?_,h.xv,fun b e=>?_⟩
  · have hone:ParIn (fun b=>B≤b∧b<w.heap.size∧vv.ownBlock≠some b∧pv.ownBlock≠some b∧¬ X b) w q'.2 q'.1.params:=by
      rw [List.mem_append] at hq'
      rcases hq' with h1 | h1
      · exact h.par q' h1
      · simp only [List.mem_singleton] at h1;subst h1;exact hq
    refine hone.to (fun b hb=>⟨hb.1,Nat.lt_of_lt_of_le hb.2.1 hg.size,hb.2.2.1,fun e=>?_,hb.2.2.2.2⟩) (fun b hb o v hc=>cell_grown hg hc hb.2.2.2.1)
    have e':some g=some b:=e
    cases e'
    rcases hat with h1 | h1
    · exact hb.2.2.2.1 h1
    · have:=hb.2.1;omega
  · have e':some g=some b:=e2
    cases e'
    rcases hat with h1 | h1
    · exact h.dj g e h1
    · have:=(h.ov.lt _ e).2;omega
  · have e':some g=some b:=e
    cases e'
    rcases hat with h1 | h1
    · exact h.xp g h1
    · exact hX g (by omega)
theorem FR.face {m:ByteArray} (h:FR X B w vv pv V P) (hV:V.length≤1000) (hP:P.length≤1000):FaceIn w (.agg #[.string m,vv,pv]) ⟨m,V,P.map (·.1)⟩ :=
  ⟨vv,pv,rfl,vars_in h.ov (by show V.length≤_;omega),procs_in h.op (by omega) (fun q hq=>(h.par q hq).ints)⟩
theorem FR.shapeV (h:FR X B w vv pv V P):∃ a c,vv=.slice a V.length c:=by
  obtain ⟨a,c,e,_⟩:=lexs.own_shape h.ov
  exact ⟨a,c,e⟩
theorem FR.shapeP (h:FR X B w vv pv V P):∃ a c,pv=.slice a P.length c:=by
  obtain ⟨a,c,e,_⟩:=lexs.own_shape h.op
  exact ⟨a,c,e⟩
end
structure Box3 (w:World) (N:Nat) (x0 x1 x2:Value):Prop where
  c0:w.cell? ⟨N,0,none⟩=some x0
  c1:w.cell? ⟨N,1,none⟩=some x1
  c2:w.cell? ⟨N,2,none⟩=some x2
  f0:w.frozen? ⟨N,0,none⟩=false
  f1:w.frozen? ⟨N,1,none⟩=false
  f2:w.frozen? ⟨N,2,none⟩=false
section
variable {w w':World} {N:Nat} {x0 x1 x2:Value}
theorem Box3.new (w:World) (x0 x1 x2:Value) (T:TypeId):Box3 (w.alloc (.cells #[x0,x1,x2] T)) w.heap.size x0 x1 x2:=by constructor <;> simp
theorem Box3.lt (h:Box3 w N x0 x1 x2):N<w.heap.size:=World.block_lt_of_cell? w ⟨N,0,none⟩ h.c0
theorem Box3.block (h:Box3 w N x0 x1 x2) (hb:w'.heap[N]?=w.heap[N]?):Box3 w' N x0 x1 x2 :=
  ⟨(World.cell?_of_block (a:=⟨N,0,none⟩) hb).trans h.c0,(World.cell?_of_block (a:=⟨N,1,none⟩) hb).trans h.c1,(World.cell?_of_block (a:=⟨N,2,none⟩) hb).trans h.c2,(World.frozen?_of_block (a:=⟨N,0,none⟩) hb).trans h.f0,(World.frozen?_of_block (a:=⟨N,1,none⟩) hb).trans h.f1,(World.frozen?_of_block (a:=⟨N,2,none⟩) hb).trans h.f2⟩
theorem Box3.below (h:Box3 w N x0 x1 x2) (hb:Below w.heap.size w w'):Box3 w' N x0 x1 x2:=h.block (hb.block N h.lt)
theorem Box3.alloc (h:Box3 w N x0 x1 x2) (o:Obj):Box3 (w.alloc o) N x0 x1 x2:=h.below ((Below.refl _ _).alloc (jE _) o)
end
end Go.Proofs.YtfopddgjdaoidaaGreatDoor.face
namespace Go.Proofs.YtfopddgjdaoidaaGreatDoor.face
open Go.RowKit
open syn (isName eqS)
def StrsIn (w:World) (v:Value) (l:List ByteArray):Prop:=∃ a c,v=.slice a l.length c∧l.length≤9223372036854775807 ∧
  (l≠[]→∃ g o,a=some ⟨g,o,none⟩∧∀ i (h:i<l.length),w.cell? ⟨g,o+i,none⟩=some (.string l[i]))
theorem among_hit {l:List ByteArray} {x:ByteArray} (i:Nat) (h:i<l.length) (he:eqS l[i] x=true):among l x=true:=by
  unfold among
  rw [List.any_eq_true]
  exact ⟨l[i],List.getElem_mem h,he⟩
theorem among_none {l:List ByteArray} {x:ByteArray} (hp:∀ i (h:i<l.length),eqS l[i] x=false):among l x=false:=by
  unfold among
  rw [List.any_eq_false]
  intro y hy
  obtain ⟨k,hk,rfl⟩:=List.mem_iff_getElem.1 hy
  simp [hp k hk]
end Go.Proofs.YtfopddgjdaoidaaGreatDoor.face
namespace Go.Proofs.YtfopddgjdaoidaaGreatDoor.face
open Go.RowKit
open syn
theorem news_new (w:World) (cs:Array Value) (T:TypeId) (n:Nat) (hn:n=w.heap.size):∀ j u,cs.toList[j]?=some u→(w.alloc (.cells cs T)).cell? ((⟨n,0,none⟩:Addr).add j)=some u:=by
  subst hn
  exact World.news_of_block (MapKept.heap_alloc w _).1
theorem varsK_len (all:Bool):∀ K:List Kid,(varsK all K).length≤K.length
  | []=>jE _
  | .imp x :: r=>by have:=varsK_len all r;show (varsK all r).length≤r.length+1;omega
  | .var x p l n :: r=>by
    have:=varsK_len all r
    show (if all || p then varD x p l n :: varsK all r else varsK all r).length≤r.length+1
    split <;> (try simp only [List.length_cons]) <;> omega
  | .proc _ _ _ _ _ _ :: r=>by have:=varsK_len all r;show (varsK all r).length≤r.length+1;omega
theorem procsK_len (all:Bool):∀ K:List Kid,(procsK all K).length≤K.length
  | []=>jE _
  | .imp x :: r=>by have:=procsK_len all r;show (procsK all r).length≤r.length+1;omega
  | .var x p l n :: r=>by have:=procsK_len all r;show (procsK all r).length≤r.length+1;omega
  | .proc x p l g ps b :: r=>by
    have:=procsK_len all r
    show (if all || p then procD x p l g ps :: procsK all r else procsK all r).length≤r.length+1
    split <;> (try simp only [List.length_cons]) <;> omega
theorem strs_own {w:World} {B:Nat} {v:Value} {L:List ByteArray} (h:w.ownsRow B 9 1 v L.length (strV L)):StrsIn w v L:=by
  rcases h.2 with ⟨rfl,hn⟩ | ⟨g,cap,cur,rfl,_,_,h1,h2,_⟩
  · have:L=[]:=List.length_eq_zero_iff.1 hn
    subst this
    exact ⟨none,0,rfl,by simp,fun h=>absurd rfl h⟩
  · refine ⟨some ⟨g,0,none⟩,cap,rfl,by unfold maxLen at h2;omega,fun _=>⟨g,0,rfl,fun i hi=>?_⟩⟩
    have:=h.cellAt i (by omega)
    rw [Nat.zero_add,this]
    unfold strV
    rw [List.getElem?_map,List.getElem?_eq_getElem hi]
    rfl
theorem own_keep {w w':World} {B:Nat} {e:TypeId} {k n:Nat} {v:Value} {xs:List Value} (h:w.ownsRow B e k v n xs) (hb:Below w.heap.size w w'):w'.ownsRow B e k v n xs :=
  h.kept (row:=none) ⟨hb.os,hb.tape,hb.output,hb.size,fun j hj _=>hb.block j hj⟩ (by cases v.ownBlock <;> simp)
section
variable {w wr w2:World} {m:ByteArray} {kv iv nv:Value} {is ns:List ByteArray}
end
end Go.Proofs.YtfopddgjdaoidaaGreatDoor.face
namespace Go.Proofs.YtfopddgjdaoidaaGreatDoor.chk
open Go.RowKit
open syn face
section
variable {w w':World} {D:Nat} {x0 x1 x2 x3 x4 x5 x6 x7 x8 x9 x10 x11 x12 x13 x14:Value}
end
abbrev FV:=FaceD × Value × Value
def fvV (q:FV):Value:=.agg #[.string q.1.module,q.2.1,q.2.2]
section
variable {w0 w w':World} {D:Nat} {own:FV} {fs:List FV} {fv lv:Value} {L:List Loc} {at_:Int} {p0 p1 p2 p3 p4 p5:Value} {fc fa:Int} {st:Bool}
end
end Go.Proofs.YtfopddgjdaoidaaGreatDoor.chk
namespace Go.Proofs.YtfopddgjdaoidaaGreatDoor.chk
open Go.RowKit Go.Maps
open syn face
def fvO (o:Option FV):Option Value:=o.map fvV
set_option maxHeartbeats 2000000 in
theorem oImported (D Gb Kb gn kn:Nat) (g k:ByteArray→Option Value) (x:ByteArray) (a:Int) (w:World) (h4:w.cell? ⟨D,4,none⟩=some (.map (some Gb))) (h5:w.cell? ⟨D,5,none⟩=some (.map (some Kb))) (hG:MapF w Gb gn g) (hK:MapF w Kb kn k) (hx:x.size≤1000) (hkn:kn≤1000) (hne:D≠Kb)
    (hsh:∀ v,g x=some v→∃ m a1 n1 c1 a2 n2 c2,v=.agg #[.string m,.slice a1 n1 c1,.slice a2 n2 c2]) :
    Calls Tryz.prog 83 #[.pointer (some ⟨D,0,none⟩),.string x,.int .i64 a] w fun e w' =>
      (g x=none∧e=.panicked (Thrown 4 a)∧Below w.heap.size w w')∨(∃ v,g x=some v∧e=.returned (.tuple #[])∧MapF w' Kb (kn+1) (fun z=>if eqS z x then some v else k z)∧w.grownBy w' (some Kb)):=by
  have c3:Tryz.prog.cellsOf 44=3:=cell3
  have hx':x.size≤maxLen:=by unfold maxLen;omega
  have hdl:D<w.heap.size:=World.block_lt_of_cell? w ⟨D,4,none⟩ h4
  cases hg:g x with
  | none =>
    have HN:Hid (g x=none):=hg
    go_enter Tryz.func83,Tryz.ntmps83
    go_wp2_with first
      | (at_lookup;refine wpList_look (f:=g) rfl _ _ rfl rfl hG x hx' rfl ?_;rw [hg];unfold noFaceV)
      | (go_at_call 131;refine (oRefuseC _ _ _).mono ?_;rintro e w7 ⟨rfl,hw7⟩;obtain rfl:=hw7.symm)
      | go_in
    exact ⟨rfl,.inl ⟨trivial,rfl,(Below.refl _ _).alloc (jE _) _⟩⟩
  | some v =>
    obtain ⟨m,a1,n1,c1,a2,n2,c2,rfl⟩:=hsh v hg
    have hK1:=hK.below ((Below.refl w.heap.size w).alloc (jE _) (.cells #[.string m,.slice a1 n1 c1,.slice a2 n2 c2] 44))
    go_enter Tryz.func83,Tryz.ntmps83
    go_wp2_with first
      | (at_lookup;refine wpList_look (f:=g) rfl _ _ rfl rfl hG x hx' rfl ?_;rw [hg])
      | go_in
    have hS:(w.alloc (.cells #[.string m,.slice a1 n1 c1,.slice a2 n2 c2] 44)).drew.cell? ⟨D,5,none⟩=some (.map (some Kb))∧(w.alloc (.cells #[.string m,.slice a1 n1 c1,.slice a2 n2 c2] 44)).drew.cell? ⟨w.heap.size,0,none⟩=some (.string m)∧(w.alloc (.cells #[.string m,.slice a1 n1 c1,.slice a2 n2 c2] 44)).drew.cell? ⟨w.heap.size,1,none⟩=some (.slice a1 n1 c1)∧(w.alloc (.cells #[.string m,.slice a1 n1 c1,.slice a2 n2 c2] 44)).drew.cell? ⟨w.heap.size,2,none⟩=some (.slice a2 n2 c2):=⟨cell_new h5 _,by simp,by simp,by simp⟩
    have hKW:MapF (w.alloc (.cells #[.string m,.slice a1 n1 c1,.slice a2 n2 c2] 44)).drew Kb kn k:=hK1.below (Below.refl _ _).drew
    have hBW:Below w.heap.size w (w.alloc (.cells #[.string m,.slice a1 n1 c1,.slice a2 n2 c2] 44)).drew:=((Below.refl _ _).alloc (jE _) _).drew
    have hlt:=hK.lt
    refine wp_region_held_drew (S:=fun W=>W.cell? ⟨D,5,none⟩=some (.map (some Kb))∧W.cell? ⟨w.heap.size,0,none⟩=some (.string m)∧W.cell? ⟨w.heap.size,1,none⟩=some (.slice a1 n1 c1)∧W.cell? ⟨w.heap.size,2,none⟩=some (.slice a2 n2 c2)) (by kernel_rfl) hS (fun hHeld=>?_)
    clear hHeld hK1
    generalize (w.alloc (.cells #[.string m,.slice a1 n1 c1,.slice a2 n2 c2] 44)).drew=W at *
    obtain ⟨W1,hrun,hM1,hg1⟩:=hKW.store (by unfold maxLen;omega) x hx' (.agg #[.string m,.slice a1 n1 c1,.slice a2 n2 c2])
    refine tkH (i:=0) (v:=.pointer (some ⟨D,0,none⟩)) rfl (Or.inl ⟨by rfl,fun w hSw=>by obtain ⟨z0,z1,z2,z3⟩:=hSw;go_simp⟩) hS ?_
    simp only [Act.put,jA,jB,jC]
    refine tkH (i:=1) (v:=.pointer (some ⟨D,0,none⟩)) rfl (Or.inl ⟨by rfl,fun w hSw=>by obtain ⟨z0,z1,z2,z3⟩:=hSw;go_simp⟩) hS ?_
    simp only [Act.put,jA,jB,jC]
    refine tkH (i:=2) (v:=.pointer (some ⟨D,5,none⟩)) rfl (Or.inl ⟨by rfl,fun w hSw=>by obtain ⟨z0,z1,z2,z3⟩:=hSw;go_simp⟩) hS ?_
    simp only [Act.put,jA,jB,jC]
    refine tkH (i:=3) (v:=.map (some Kb)) rfl (Or.inl ⟨by rfl,fun w hSw=>by obtain ⟨z0,z1,z2,z3⟩:=hSw;go_simp⟩) hS ?_
    simp only [Act.put,jA,jB,jC]
    refine tkH (i:=4) (v:=.string x) rfl (Or.inl ⟨by rfl,fun w hSw=>by obtain ⟨z0,z1,z2,z3⟩:=hSw;go_simp⟩) hS ?_
    simp only [Act.put,jA,jB,jC]
    refine tkH (i:=5) (v:=.agg #[.string m,.slice a1 n1 c1,.slice a2 n2 c2] ) rfl (Or.inl ⟨by rfl,fun w hSw=>by obtain ⟨z0,z1,z2,z3⟩:=hSw;go_simp⟩) hS ?_
    simp only [Act.put,jA,jB,jC]
    refine wpAnyH_ready (rs:=[6]) (by kernel_rfl) (by simp) ?_
    refine AllReadyH.cons rfl (fun KK hKK=>?_) AllReadyH.nil
    go_simp
    have hne2:Kb≠w.heap.size:=by omega
    refine hKK.out _ _ ⟨cell_grown hg1 hS.1 (by simp;omega),cell_grown hg1 hS.2.1 (by simp;omega),cell_grown hg1 hS.2.2.1 (by simp;omega),cell_grown hg1 hS.2.2.2 (by simp;omega)⟩ (fun hHeld=>?_)
    clear hKK KK hHeld
    refine wpAnyH_done (by kernel_rfl) ?_ _
    go_wp2
    go_end0
    exact .inr ⟨_,rfl,rfl,hM1,((grown_of_below hBW).but _).trans hg1⟩
end Go.Proofs.YtfopddgjdaoidaaGreatDoor.chk
namespace Go.Proofs.YtfopddgjdaoidaaGreatDoor.chk
open Go.RowKit
open syn face
theorem find_take {α:Type} {p:α→Bool} {l:List α} {j:Nat} (hj:j<l.length) (h:∀ i (hi:i<l.length),i<j→p l[i]=false) (hp:p l[j]=true):l.find? p=some l[j]:=by
  induction l generalizing j with
  | nil=>simp at hj
  | cons a r ih =>
    cases j with
    | zero=>exact List.find?_cons_of_pos hp
    | succ j =>
      rw [List.find?_cons_of_neg (by rw [show p a=false from h 0 (by simp) (by omega)];decide)]
      exact ih (by simpa using hj) (fun i hi hlt=>h (i+1) (by simpa using hi) (by omega)) hp
theorem find_none {α:Type} {p:α→Bool} {l:List α} (h:∀ i (hi:i<l.length),p l[i]=false):l.find? p=none:=by
  rw [List.find?_eq_none]
  intro a ha
  obtain ⟨i,hi,rfl⟩:=List.mem_iff_getElem.1 ha
  simp [h i hi]
theorem fv_shape {w:World} {q:FV} (h:FaceIn w (fvV q) q.1):∃ a c a' c',q=(q.1,.slice a q.1.vars.length c,.slice a' q.1.procs.length c'):=by
  obtain ⟨vv,pv,e,⟨a,c,rfl,_,_⟩,⟨a',c',rfl,_,_⟩⟩:=h
  obtain ⟨f,v1,v2⟩:=q
  unfold fvV at e
  injection e with e
  simp only [Array.mk.injEq,List.cons.injEq,and_true,true_and] at e
  obtain ⟨rfl,rfl⟩:=e
  exact ⟨a,c,a',c',rfl⟩
section
variable {w0 w w':World} {D:Nat} {own:FV} {fs:List FV} {fv lv:Value} {L:List Loc} {at_:Int} {p0 p1 p2 p3 p4 p5:Value} {fc fa:Int} {st:Bool}
end
theorem find_rev {α:Type} {p:α→Bool} {l:List α} {j:Nat} (hj:j<l.length) (h:∀ i (hi:i<l.length),j<i→p l[i]=false) (hp:p l[j]=true):l.reverse.find? p=some l[j]:=by
  have hj2:l.length - 1 - j<l.reverse.length:=by rw [List.length_reverse];omega
  have e:l.reverse[l.length - 1 - j]=l[j]:=by
    rw [List.getElem_reverse]
    congr 1
    omega
  have:=find_take (l:=l.reverse) (p:=p) hj2 (fun i hi hlt=>by
    rw [List.getElem_reverse]
    rw [List.length_reverse] at hi
    exact h _ _ (by omega)) (by rw [e];exact hp)
  rw [this,e]
theorem find_rev_none {α:Type} {p:α→Bool} {l:List α} (h:∀ i (hi:i<l.length),p l[i]=false):l.reverse.find? p=none:=by
  rw [List.find?_eq_none]
  intro a ha
  obtain ⟨i,hi,rfl⟩:=List.mem_iff_getElem.1 (List.mem_reverse.1 ha)
  simp [h i hi]
section
variable {w0 w w':World} {D:Nat} {own:FV} {fs:List FV} {fv lv:Value} {L:List Loc} {at_:Int} {p0 p1 p2 p3 p4 p5:Value} {fc fa:Int} {st:Bool}
end
end Go.Proofs.YtfopddgjdaoidaaGreatDoor.chk
