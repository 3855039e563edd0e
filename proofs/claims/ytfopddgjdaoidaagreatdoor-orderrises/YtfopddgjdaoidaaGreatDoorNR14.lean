/- The checker's state when a local is added; what addLocal is to come to. -/
import Derived.Test.YtfopddgjdaoidaaGreatDoorNR13
set_option linter.unusedVariables false
set_option linter.unusedSimpArgs false
set_option maxRecDepth 100000
namespace Go.Proofs.YtfopddgjdaoidaaGreatDoor
namespace face
open Go.RowKit Go.Maps
theorem FR.grown' {X:Nat→Prop} {B:Nat} {w w':World} {vv pv:Value} {V:List VarD} {P:List (ProcD × Value)} {row:Option Nat} (h:FR X B w vv pv V P) (hg:w.grownBy w' row) (hr:∀ b,row=some b→vv.ownBlock≠some b∧pv.ownBlock≠some b∧b<B):FR X B w' vv pv V P:=by
 have hv:vv.ownBlock=none∨vv.ownBlock≠row:=by
  cases e:vv.ownBlock with
  | none=>exact .inl rfl
  | some b=>exact .inr (fun e2=>(hr b e2.symm).1 e)
 have hp:pv.ownBlock=none∨pv.ownBlock≠row:=by
  cases e:pv.ownBlock with
  | none=>exact .inl rfl
  | some b=>exact .inr (fun e2=>(hr b e2.symm).2.1 e)
 refine ⟨h.ov.kept hg hv,h.op.kept hg hp,fun q hq=>?_,h.dj,h.xv,h.xp⟩
 exact (h.par q hq).to (fun b hb=>⟨hb.1,Nat.lt_of_lt_of_le hb.2.1 hg.size,hb.2.2⟩) (fun b hb o v hc=>cell_grown hg hc (fun e=>by have h1:=(hr b e).2.2;have h2:=hb.1;omega))
abbrev SetIn (w:World) (b:Nat) (l:List ByteArray):Prop:=w.ownsMap Tryz.prog 9 (unitElem (H:=Unit)) b l.length (setD l)
structure DC (w:World) (D:Nat) (x0 x1 x2 x3 x4 x5 x6 x7:Value):Prop where
 c0:w.cell? ⟨D,0,none⟩=some x0
 c1:w.cell? ⟨D,1,none⟩=some x1
 c2:w.cell? ⟨D,2,none⟩=some x2
 c3:w.cell? ⟨D,3,none⟩=some x3
 c4:w.cell? ⟨D,4,none⟩=some x4
 c5:w.cell? ⟨D,5,none⟩=some x5
 c6:w.cell? ⟨D,6,none⟩=some x6
 c7:w.cell? ⟨D,7,none⟩=some x7
 fz:∀ k,w.frozen? ⟨D,k,none⟩=false
section
variable {w w':World} {D:Nat} {x0 x1 x2 x3 x4 x5 x6 x7:Value}
theorem DC.lt (h:DC w D x0 x1 x2 x3 x4 x5 x6 x7):D<w.heap.size:=World.block_lt_of_cell? w ⟨D,0,none⟩ h.c0
theorem DC.block (h:DC w D x0 x1 x2 x3 x4 x5 x6 x7) (hb:w'.heap[D]?=w.heap[D]?):DC w' D x0 x1 x2 x3 x4 x5 x6 x7 :=
 ⟨(World.cell?_of_block (a:=⟨D,0,none⟩) hb).trans h.c0,(World.cell?_of_block (a:=⟨D,1,none⟩) hb).trans h.c1,(World.cell?_of_block (a:=⟨D,2,none⟩) hb).trans h.c2,(World.cell?_of_block (a:=⟨D,3,none⟩) hb).trans h.c3,(World.cell?_of_block (a:=⟨D,4,none⟩) hb).trans h.c4,(World.cell?_of_block (a:=⟨D,5,none⟩) hb).trans h.c5,(World.cell?_of_block (a:=⟨D,6,none⟩) hb).trans h.c6,(World.cell?_of_block (a:=⟨D,7,none⟩) hb).trans h.c7,
   fun k=>(World.frozen?_of_block (a:=⟨D,k,none⟩) hb).trans (h.fz k)⟩
theorem DC.grown {row:Option Nat} (h:DC w D x0 x1 x2 x3 x4 x5 x6 x7) (hg:w.grownBy w' row) (hne:row≠some D):DC w' D x0 x1 x2 x3 x4 x5 x6 x7:=h.block (hg.block D h.lt (fun e=>hne e.symm))
theorem frozen_set {w:World} {D k o:Nat} {v:Value} (h:∀ k,w.frozen? ⟨D,k,none⟩=false):(w.setCell ⟨D,o,none⟩ v).frozen? ⟨D,k,none⟩=false:=by simp [h k]
theorem DC.set0 (h:DC w D x0 x1 x2 x3 x4 x5 x6 x7) (v:Value):DC (w.setCell ⟨D,0,none⟩ v) D v x1 x2 x3 x4 x5 x6 x7 :=
 ⟨World.cell?_setCell_same _ _ _ h.c0,by rw [jD _ _ _ _ (by simp)];exact h.c1,by rw [jD _ _ _ _ (by simp)];exact h.c2,by rw [jD _ _ _ _ (by simp)];exact h.c3,by rw [jD _ _ _ _ (by simp)];exact h.c4,by rw [jD _ _ _ _ (by simp)];exact h.c5,by rw [jD _ _ _ _ (by simp)];exact h.c6,by rw [jD _ _ _ _ (by simp)];exact h.c7,fun k=>frozen_set h.fz⟩
theorem DC.set1 (h:DC w D x0 x1 x2 x3 x4 x5 x6 x7) (v:Value):DC (w.setCell ⟨D,1,none⟩ v) D x0 v x2 x3 x4 x5 x6 x7 :=
 ⟨by rw [jD _ _ _ _ (by simp)];exact h.c0,World.cell?_setCell_same _ _ _ h.c1,by rw [jD _ _ _ _ (by simp)];exact h.c2,by rw [jD _ _ _ _ (by simp)];exact h.c3,by rw [jD _ _ _ _ (by simp)];exact h.c4,by rw [jD _ _ _ _ (by simp)];exact h.c5,by rw [jD _ _ _ _ (by simp)];exact h.c6,by rw [jD _ _ _ _ (by simp)];exact h.c7,fun k=>frozen_set h.fz⟩
theorem DC.set2 (h:DC w D x0 x1 x2 x3 x4 x5 x6 x7) (v:Value):DC (w.setCell ⟨D,2,none⟩ v) D x0 x1 v x3 x4 x5 x6 x7 :=
 ⟨by rw [jD _ _ _ _ (by simp)];exact h.c0,by rw [jD _ _ _ _ (by simp)];exact h.c1,World.cell?_setCell_same _ _ _ h.c2,by rw [jD _ _ _ _ (by simp)];exact h.c3,by rw [jD _ _ _ _ (by simp)];exact h.c4,by rw [jD _ _ _ _ (by simp)];exact h.c5,by rw [jD _ _ _ _ (by simp)];exact h.c6,by rw [jD _ _ _ _ (by simp)];exact h.c7,fun k=>frozen_set h.fz⟩
theorem DC.set3 (h:DC w D x0 x1 x2 x3 x4 x5 x6 x7) (v:Value):DC (w.setCell ⟨D,3,none⟩ v) D x0 x1 x2 v x4 x5 x6 x7 :=
 ⟨by rw [jD _ _ _ _ (by simp)];exact h.c0,by rw [jD _ _ _ _ (by simp)];exact h.c1,by rw [jD _ _ _ _ (by simp)];exact h.c2,World.cell?_setCell_same _ _ _ h.c3,by rw [jD _ _ _ _ (by simp)];exact h.c4,by rw [jD _ _ _ _ (by simp)];exact h.c5,by rw [jD _ _ _ _ (by simp)];exact h.c6,by rw [jD _ _ _ _ (by simp)];exact h.c7,fun k=>frozen_set h.fz⟩
theorem DC.set6 (h:DC w D x0 x1 x2 x3 x4 x5 x6 x7) (v:Value):DC (w.setCell ⟨D,6,none⟩ v) D x0 x1 x2 x3 x4 x5 v x7 :=
 ⟨by rw [jD _ _ _ _ (by simp)];exact h.c0,by rw [jD _ _ _ _ (by simp)];exact h.c1,by rw [jD _ _ _ _ (by simp)];exact h.c2,by rw [jD _ _ _ _ (by simp)];exact h.c3,by rw [jD _ _ _ _ (by simp)];exact h.c4,by rw [jD _ _ _ _ (by simp)];exact h.c5,World.cell?_setCell_same _ _ _ h.c6,by rw [jD _ _ _ _ (by simp)];exact h.c7,fun k=>frozen_set h.fz⟩
theorem DC.set7 (h:DC w D x0 x1 x2 x3 x4 x5 x6 x7) (v:Value):DC (w.setCell ⟨D,7,none⟩ v) D x0 x1 x2 x3 x4 x5 x6 v :=
 ⟨by rw [jD _ _ _ _ (by simp)];exact h.c0,by rw [jD _ _ _ _ (by simp)];exact h.c1,by rw [jD _ _ _ _ (by simp)];exact h.c2,by rw [jD _ _ _ _ (by simp)];exact h.c3,by rw [jD _ _ _ _ (by simp)];exact h.c4,by rw [jD _ _ _ _ (by simp)];exact h.c5,by rw [jD _ _ _ _ (by simp)];exact h.c6,World.cell?_setCell_same _ _ _ h.c7,fun k=>frozen_set h.fz⟩
end
structure DI (w:World) (D Bm Bd:Nat) (mp:Option Nat) (vv pv iv:Value) (m:ByteArray) (V:List VarD) (P:List (ProcD × Value)) (is ms ns qs:List ByteArray) (a:Int):Prop where
 dc:DC w D (.string m) vv pv iv (.map (some Bm)) (.map (some Bd)) (.map mp) (.int .i64 a)
 lm:Bm<Bd
 ld:Bd<D
 lp:∀ b,mp=some b→D<b
 fr:FR (fun b=>iv.ownBlock=some b∨mp=some b) (D+1) w vv pv V P
 oi:w.ownsRow (D+1) 9 1 iv is.length (strV is)
 xi:∀ b,iv.ownBlock=some b→mp≠some b
 om:SetIn w Bm ms
 am:apartB [] ms=true
 od:SetIn w Bd ns
 ad:apartB [] ns=true
 op:∀ b,mp=some b→SetIn w b qs
 aq:apartB [] qs=true
section
variable {w w':World} {D Bm Bd:Nat} {mp:Option Nat} {vv pv iv:Value} {m:ByteArray} {V:List VarD} {P:List (ProcD × Value)} {is ms ns qs:List ByteArray} {a:Int}
theorem DI.below (h:DI w D Bm Bd mp vv pv iv m V P is ms ns qs a) (hb:Below w.heap.size w w'):DI w' D Bm Bd mp vv pv iv m V P is ms ns qs a :=
 have hg:w.grownBy w' none:=⟨hb.os,hb.tape,hb.output,hb.size,fun j hj _=>hb.block j hj⟩
 ⟨h.dc.grown hg (by simp),h.lm,h.ld,h.lp,h.fr.below hb,own_keep h.oi hb,h.xi,h.om.kept hg (by simp),h.am,h.od.kept hg (by simp),h.ad,fun b e=>(h.op b e).kept hg (by simp),h.aq⟩
theorem own_lt (h:DI w D Bm Bd mp vv pv iv m V P is ms ns qs a):(∀ b,iv.ownBlock=some b→D<b)∧(∀ b,vv.ownBlock=some b→D<b)∧(∀ b,pv.ownBlock=some b→D<b) :=
 ⟨fun b e=>by have:=(h.oi.lt _ e).1;omega,fun b e=>by have:=(h.fr.ov.lt _ e).1;omega,fun b e=>by have:=(h.fr.op.lt _ e).1;omega⟩
theorem DI.enterM (h:DI w D Bm Bd mp vv pv iv m V P is ms ns qs a) {x:ByteArray} (ho:SetIn w' Bm (ms++[x])) (ha:apartB [] (ms++[x])=true) (hg:w.grownBy w' (some Bm)):DI w' D Bm Bd mp vv pv iv m V P is (ms++[x]) ns qs a:=by
 have hm:=h.lm
 have hd:=h.ld
 obtain ⟨li,lv,lpv⟩:=own_lt h
 refine ⟨h.dc.grown hg (by simp;omega),h.lm,h.ld,h.lp,?_,h.oi.kept hg ?_,h.xi,ho,ha,h.od.kept hg (by simp;omega),h.ad,fun b e=>(h.op b e).kept hg (by have:=h.lp b e;simp;omega),h.aq⟩
 ·exact FR.grown' h.fr hg (fun b e=>by cases e;exact ⟨fun e=>by have:=lv _ e;omega,fun e=>by have:=lpv _ e;omega,by omega⟩)
 ·cases e:iv.ownBlock with
  | none=>exact .inl rfl
  | some b=>exact .inr (by have:=li b e;simp;omega)
end
section
variable {w w':World} {D Bm Bd:Nat} {mp:Option Nat} {vv pv iv:Value} {m:ByteArray} {V:List VarD} {P:List (ProcD × Value)} {is ms ns qs:List ByteArray} {a:Int}
theorem ne_of_low {v:Value} {b:Nat} (h:∀ k,v.ownBlock=some k→b<k):v.ownBlock=none∨v.ownBlock≠some b:=by
 cases e:v.ownBlock with
 | none=>exact .inl rfl
 | some k=>exact .inr (by have:=h k e;simp;omega)
theorem DI.enterD (h:DI w D Bm Bd mp vv pv iv m V P is ms ns qs a) {x:ByteArray} (ho:SetIn w' Bd (ns++[x])) (ha:apartB [] (ns++[x])=true) (hg:w.grownBy w' (some Bd)):DI w' D Bm Bd mp vv pv iv m V P is ms (ns++[x]) qs a:=by
 have hm:=h.lm
 have hd:=h.ld
 obtain ⟨li,lv,lpv⟩:=own_lt h
 refine ⟨h.dc.grown hg (by simp;omega),h.lm,h.ld,h.lp,?_,h.oi.kept hg (ne_of_low (fun k e=>by have:=li k e;omega)),h.xi,h.om.kept hg (by simp;omega),h.am,ho,ha,fun b e=>(h.op b e).kept hg (by have:=h.lp b e;simp;omega),h.aq⟩
 exact FR.grown' h.fr hg (fun b e=>by cases e;exact ⟨fun e=>by have:=lv _ e;omega,fun e=>by have:=lpv _ e;omega,by omega⟩)
theorem DI.enterP {b0:Nat} (h:DI w D Bm Bd (some b0) vv pv iv m V P is ms ns qs a) {x:ByteArray} (ho:SetIn w' b0 (qs++[x])) (ha:apartB [] (qs++[x])=true) (hg:w.grownBy w' (some b0)):DI w' D Bm Bd (some b0) vv pv iv m V P is ms ns (qs++[x]) a:=by
 have hm:=h.lm
 have hd:=h.ld
 have hp:=h.lp b0 rfl
 refine ⟨h.dc.grown hg (by simp;omega),h.lm,h.ld,h.lp,h.fr.grown hg (fun b e=>.inr e),h.oi.kept hg ?_,h.xi,h.om.kept hg (by simp;omega),h.am,h.od.kept hg (by simp;omega),h.ad,fun b e=>by cases e;exact ho,ha⟩
 cases e:iv.ownBlock with
 | none=>exact .inl rfl
 | some b=>exact .inr (fun e2=>h.xi b e e2.symm)
theorem DI.rest (h:DI w D Bm Bd mp vv pv iv m V P is ms ns qs a) (o:Nat) (v:Value) :
  FR (fun b=>iv.ownBlock=some b∨mp=some b) (D+1) (w.setCell ⟨D,o,none⟩ v) vv pv V P∧(w.setCell ⟨D,o,none⟩ v).ownsRow (D+1) 9 1 iv is.length (strV is)∧SetIn (w.setCell ⟨D,o,none⟩ v) Bm ms∧SetIn (w.setCell ⟨D,o,none⟩ v) Bd ns∧∀ b,mp=some b→SetIn (w.setCell ⟨D,o,none⟩ v) b qs:=by
 have hm:=h.lm
 have hd:=h.ld
 obtain ⟨li,_,_⟩:=own_lt h
 exact ⟨h.fr.set (by omega) v,ownsRow_setCell_other h.oi (fun e=>by have:=li _ e;simp at this) _,h.om.setCell (by show Bm≠D;omega) _,h.od.setCell (by show Bd≠D;omega) _,fun b e=>(h.op b e).setCell (by have:=h.lp b e;show b≠D;omega) _⟩
theorem DI.setAt (h:DI w D Bm Bd mp vv pv iv m V P is ms ns qs a) (a':Int):DI (w.setCell ⟨D,7,none⟩ (.int .i64 a')) D Bm Bd mp vv pv iv m V P is ms ns qs a' :=
 have r:=h.rest 7 (.int .i64 a')
 ⟨h.dc.set7 _,h.lm,h.ld,h.lp,r.1,r.2.1,h.xi,r.2.2.1,h.am,r.2.2.2.1,h.ad,r.2.2.2.2,h.aq⟩
theorem DI.setModule (h:DI w D Bm Bd mp vv pv iv m V P is ms ns qs a) (m':ByteArray):DI (w.setCell ⟨D,0,none⟩ (.string m')) D Bm Bd mp vv pv iv m' V P is ms ns qs a :=
 have r:=h.rest 0 (.string m')
 ⟨h.dc.set0 _,h.lm,h.ld,h.lp,r.1,r.2.1,h.xi,r.2.2.1,h.am,r.2.2.2.1,h.ad,r.2.2.2.2,h.aq⟩
theorem FR.turn {X Y:Nat→Prop} {B:Nat} {row:Option Nat} (h:FR X B w vv pv V P) (hg:w.grownBy w' row) (hr:∀ b,row=some b→X b) (hY:∀ b,b<w.heap.size→Y b→X b):FR Y B w' vv pv V P :=
 have k:=h.grown hg hr
 ⟨k.ov,k.op,fun q hq=>(h.par q hq).to (fun b hb=>⟨hb.1,Nat.lt_of_lt_of_le hb.2.1 hg.size,hb.2.2.1,hb.2.2.2.1,fun e=>hb.2.2.2.2 (hY b hb.2.1 e)⟩) (fun b hb o v hc=>cell_grown hg hc (fun e=>hb.2.2.2.2 (hr b e))),h.dj,
  fun b e hy=>h.xv b e (hY b (h.ov.lt _ e).2 hy),fun b e hy=>h.xp b e (hY b (h.op.lt _ e).2 hy)⟩
theorem DI.pushI (h:DI w D Bm Bd mp vv pv iv m V P is ms ns qs a) {x:ByteArray} {g cap:Nat} (ho:w'.ownsRow (D+1) 9 1 (.slice (some ⟨g,0,none⟩) (is.length+1) cap) (is.length+1) (strV is++[.string x])) (hg:w.grownBy w' iv.ownBlock) (hat:iv.ownBlock=some g∨g=w.heap.size) :
  DI (w'.setCell ⟨D,3,none⟩ (.slice (some ⟨g,0,none⟩) (is.length+1) cap)) D Bm Bd mp vv pv (.slice (some ⟨g,0,none⟩) (is.length+1) cap) m V P (is++[x]) ms ns qs a:=by
 have hm:=h.lm
 have hd:=h.ld
 obtain ⟨li,lv,lpv⟩:=own_lt h
 have hlow:∀ b,b≤D→some b≠iv.ownBlock:=fun b hb e=>by have:=li b e.symm;omega
 have hdc:=h.dc.grown hg (fun e=>hlow D (jE _) e.symm)
 have hxi:∀ b,(Value.slice (some ⟨g,0,none⟩) (is.length+1) cap).ownBlock=some b→mp≠some b:=fun b e e2=>by
  have e':some g=some b:=e
  cases e'
  rcases hat with h1 | h1
  ·exact h.xi g h1 e2
  ·have:=(h.op g e2).lt;omega
 have hfr:FR (fun b=>(Value.slice (some ⟨g,0,none⟩) (is.length+1) cap).ownBlock=some b∨mp=some b) (D+1) w' vv pv V P:=h.fr.turn hg (fun b e=>.inl e) (fun b hb e=>by
  rcases e with e | e
  ·have e':some g=some b:=e
   cases e'
   rcases hat with h1 | h1
   ·exact .inl h1
   ·omega
  ·exact .inr e)
 have ho':w'.ownsRow (D+1) 9 1 (.slice (some ⟨g,0,none⟩) (is.length+1) cap) (is++[x]).length (strV (is++[x])):=by
  rw [strV_snoc,List.length_append]
  exact ho
 refine ⟨hdc.set3 _,h.lm,h.ld,h.lp,hfr.set (by omega) _,ownsRow_setCell_other ho' (fun e=>by have:=(ho'.lt _ e).1;simp at this;omega) _,hxi,(h.om.kept hg (hlow Bm (by omega))).setCell (by show Bm≠D;omega) _,h.am,(h.od.kept hg (hlow Bd (by omega))).setCell (by show Bd≠D;omega) _,h.ad,fun b e=>((h.op b e).kept hg (fun e2=>h.xi b e2.symm e)).setCell (by have:=h.lp b e;show b≠D;omega) _,h.aq⟩
theorem DI.fresh (h:DI w D Bm Bd mp vv pv iv m V P is ms ns qs a):∀ b,w.heap.size≤b→¬ (iv.ownBlock=some b∨mp=some b):=fun b hb e=>by
 rcases e with e | e
 ·have:=(h.oi.lt _ e).2;omega
 ·have:=(h.op b e).lt;omega
theorem DI.pushV (h:DI w D Bm Bd mp vv pv iv m V P is ms ns qs a) {v:VarD} {g cap:Nat} (ho:w'.ownsRow (D+1) 76 4 (.slice (some ⟨g,0,none⟩) (V.length+1) cap) (V.length+1) (varCells V++[.string v.name,.bool v.pub,.int .i64 v.label,.int .i64 v.size])) (hg:w.grownBy w' vv.ownBlock) (hat:vv.ownBlock=some g∨g=w.heap.size) :
  DI (w'.setCell ⟨D,1,none⟩ (.slice (some ⟨g,0,none⟩) (V.length+1) cap)) D Bm Bd mp (.slice (some ⟨g,0,none⟩) (V.length+1) cap) pv iv m (V++[v]) P is ms ns qs a:=by
 have hm:=h.lm
 have hd:=h.ld
 obtain ⟨li,lv,lpv⟩:=own_lt h
 have hlow:∀ b,b≤D→some b≠vv.ownBlock:=fun b hb e=>by have:=lv b e.symm;omega
 have hdc:=h.dc.grown hg (fun e=>hlow D (jE _) e.symm)
 have hfr:=h.fr.pushV ho hg hat h.fresh
 have hoi:=h.oi.kept hg (by
  cases e:iv.ownBlock with
  | none=>exact .inl rfl
  | some b=>exact .inr (fun e2=>h.fr.xv b e2.symm (.inl e)))
 exact ⟨hdc.set1 _,h.lm,h.ld,h.lp,hfr.set (by omega) _,ownsRow_setCell_other hoi (fun e=>by have:=li _ e;simp at this) _,h.xi,(h.om.kept hg (hlow Bm (by omega))).setCell (by show Bm≠D;omega) _,h.am,(h.od.kept hg (hlow Bd (by omega))).setCell (by show Bd≠D;omega) _,h.ad,fun b e=>((h.op b e).kept hg (fun e2=>h.fr.xv b e2.symm (.inr e))).setCell (by have:=h.lp b e;show b≠D;omega) _,h.aq⟩
theorem DI.pushP (h:DI w D Bm Bd mp vv pv iv m V P is ms ns qs a) {q:ProcD × Value} {g cap:Nat} (ho:w'.ownsRow (D+1) 80 6 (.slice (some ⟨g,0,none⟩) (P.length+1) cap) (P.length+1) (procCells P++[.string q.1.name,.bool q.1.pub,q.2,.int .i64 q.1.writes,.bool q.1.gives,.int .i64 q.1.given])) (hg:w.grownBy w' pv.ownBlock) (hat:pv.ownBlock=some g∨g=w.heap.size)
  (hq:ParIn (fun b=>D+1≤b∧b<w.heap.size∧vv.ownBlock≠some b∧pv.ownBlock≠some b∧¬ (iv.ownBlock=some b∨mp=some b)) w q.2 q.1.params) :
  DI (w'.setCell ⟨D,2,none⟩ (.slice (some ⟨g,0,none⟩) (P.length+1) cap)) D Bm Bd mp vv (.slice (some ⟨g,0,none⟩) (P.length+1) cap) iv m V (P++[q]) is ms ns qs a:=by
 have hm:=h.lm
 have hd:=h.ld
 obtain ⟨li,lv,lpv⟩:=own_lt h
 have hlow:∀ b,b≤D→some b≠pv.ownBlock:=fun b hb e=>by have:=lpv b e.symm;omega
 have hdc:=h.dc.grown hg (fun e=>hlow D (jE _) e.symm)
 have hfr:=h.fr.pushP ho hg hat h.fresh hq
 have hoi:=h.oi.kept hg (by
  cases e:iv.ownBlock with
  | none=>exact .inl rfl
  | some b=>exact .inr (fun e2=>h.fr.xp b e2.symm (.inl e)))
 exact ⟨hdc.set2 _,h.lm,h.ld,h.lp,hfr.set (by omega) _,ownsRow_setCell_other hoi (fun e=>by have:=li _ e;simp at this) _,h.xi,(h.om.kept hg (hlow Bm (by omega))).setCell (by show Bm≠D;omega) _,h.am,(h.od.kept hg (hlow Bd (by omega))).setCell (by show Bd≠D;omega) _,h.ad,fun b e=>((h.op b e).kept hg (fun e2=>h.fr.xp b e2.symm (.inr e))).setCell (by have:=h.lp b e;show b≠D;omega) _,h.aq⟩
theorem DI.newP (h:DI w D Bm Bd mp vv pv iv m V P is ms ns qs a) (hb:Below w.heap.size w w') (ho:SetIn w' w.heap.size []) :
  DI (w'.setCell ⟨D,6,none⟩ (.map (some w.heap.size))) D Bm Bd (some w.heap.size) vv pv iv m V P is ms ns [] a:=by
 have hm:=h.lm
 have hd:=h.ld
 have hD:=h.dc.lt
 have hg:w.grownBy w' none:=⟨hb.os,hb.tape,hb.output,hb.size,fun j hj _=>hb.block j hj⟩
 obtain ⟨li,lv,lpv⟩:=own_lt h
 have k:=h.below hb
 have hfr:FR (fun b=>iv.ownBlock=some b∨some w.heap.size=some b) (D+1) w' vv pv V P:=h.fr.turn hg (fun b e=>by cases e) (fun b hb e=>by
  rcases e with e | e
  ·exact .inl e
  ·cases e;omega)
 exact ⟨k.dc.set6 _,h.lm,h.ld,fun b e=>by cases e;exact hD,hfr.set (by omega) _,ownsRow_setCell_other k.oi (fun e=>by have:=li _ e;simp at this) _,fun b e e2=>by cases e2;have:=(h.oi.lt _ e).2;omega,k.om.setCell (by show Bm≠D;omega) _,h.am,k.od.setCell (by show Bd≠D;omega) _,h.ad,fun b e=>by cases e;exact ho.setCell (by show w.heap.size≠D;omega) _,rfl⟩
end
structure KZ (Z:Nat) (w w':World):Prop where
 eq:w'.heap[Z]?=w.heap[Z]?
 lt:Z<w'.heap.size
section
variable {Z:Nat} {w w' w2:World}
theorem KZ.below (h:KZ Z w w') (hb:Below w'.heap.size w' w2):KZ Z w w2:=⟨(hb.block Z h.lt).trans h.eq,Nat.lt_of_lt_of_le h.lt hb.size⟩
theorem KZ.alloc (h:KZ Z w w') (o:Obj):KZ Z w (w'.alloc o):=h.below (bal o)
theorem KZ.drew (h:KZ Z w w'):KZ Z w w'.drew:=⟨h.eq,h.lt⟩
theorem KZ.grown {row:Option Nat} (h:KZ Z w w') (hg:w'.grownBy w2 row) (hne:row≠some Z):KZ Z w w2:=⟨(hg.block Z h.lt (fun e=>hne e.symm)).trans h.eq,Nat.lt_of_lt_of_le h.lt hg.size⟩
theorem KZ.set (h:KZ Z w w') {D o:Nat} (hne:Z≠D) (v:Value):KZ Z w (w'.setCell ⟨D,o,none⟩ v):=⟨(Below.heap_setCell _ _ _ _ hne).trans h.eq,by rw [World.size_setCell];exact h.lt⟩
end
end face
namespace face
open Go.RowKit Go.Maps
open syn
def AV (Z:Nat) (w:World) (D Bm Bd:Nat) (mp:Option Nat) (pv iv:Value) (mo:ByteArray) (V:List VarD) (P:List (ProcD × Value)) (is ms ns qs:List ByteArray) (at_:Int) (x:ByteArray) (p l:Bool) (n:Option Int) (e:Ending) (w':World):Prop :=
 Below Bm w w' ∧
  ((among ns x=true∧e=.panicked (Thrown 5 at_))∨(among ns x=false∧20≤ns.length∧e=.panicked (Thrown 1 at_)) ∨
   (among ns x=false∧ns.length<20∧(∃ k,n=some k∧(k<1∨64<k))∧e=.panicked (Thrown 6 at_)) ∨
   (among ns x=false∧ns.length<20∧(∀ k,n=some k→1≤k∧k≤64)∧e=.returned (.tuple #[])∧KZ Z w w'∧∃ vv',DI w' D Bm Bd mp vv' pv iv mo (V++if p then [varD x p l n] else []) P is ms (ns++[x]) qs at_))
set_option maxHeartbeats 4000000 in
theorem oAddVar {D Bm Bd:Nat} {mp:Option Nat} {vv pv iv:Value} {mo:ByteArray} {V:List VarD} {P:List (ProcD × Value)} {is ms ns qs:List ByteArray} {at_:Int} (x:ByteArray) (p l:Bool) (n:Option Int) (v:Value) (w:World) (hv:Lies (·<Bm) w (Kid.var x p l n).tree v)
  (h:DI w D Bm Bd mp vv pv iv mo V P is ms ns qs at_) (hx:x.size≤16) (hns:ns.length≤20) (hV:V.length≤20) (Z:Nat) (hZ:Z<w.heap.size) (hZD:D<Z) (hZv:vv.ownBlock≠some Z) :
  Calls Tryz.prog 118 #[.pointer (some ⟨D,0,none⟩),v] w (AV Z w D Bm Bd mp pv iv mo V P is ms ns qs at_ x p l n):=by
 have c24:=kc25
 have c4:Tryz.prog.cellsOf 76=4:=cell4
 obtain ⟨i0,hi,hz0,hz1,hz2⟩:=info_parts infoV
 have hv0:=hv
 rw [Kid.tree_is] at hv
 unfold Lies at hv
 obtain ⟨a,c,rfl,hl,hk⟩:=hv
 simp only [Kid.kind,Kid.text,Kid.num] at *
 have hkids:0<(Kid.var x p l n).kids.length→∃ (g o:Nat) (k:Int) (ak:Option Addr) (ck:Nat),a=some ⟨g,o,none⟩∧(Kid.var x p l n).kids.length=1∧n=some k∧g<Bm∧w.cell? ⟨g,o,none⟩=some (.int .i64 15)∧w.cell? ⟨g,o+1,none⟩=some (.string empty)∧w.cell? ⟨g,o+2,none⟩=some (.int .i64 k)∧w.cell? ⟨g,o+3,none⟩=some (.slice ak 0 ck):=by
  intro h0
  cases n with
  | none=>simp [Kid.kids] at h0
  | some k =>
   obtain ⟨g,o,rfl,hg,hat⟩:=hk (by simp [Kid.kids])
   unfold Kid.kids at hat
   obtain ⟨⟨v1,⟨x0,x1,x2,x3,rfl,c0,c1,c2,c3⟩,hv1⟩,_⟩:=hat
   unfold Lies at hv1
   obtain ⟨a1,d1,e1,_,_⟩:=hv1
   cases e1
   exact ⟨g,o,k,a1,d1,rfl,by simp [Kid.kids],rfl,hg,c0,c1,c2,c3⟩
 have hzero:(Kid.var x p l n).kids.length=0→∀ k,n=some k→1≤k∧k≤64:=by
  intro h0 k e
  subst e
  simp [Kid.kids] at h0
 have hle1:(Kid.var x p l n).kids.length≤1:=by cases n<;>simp [Kid.kids]
 have hmB:Bm≤w.heap.size:=by have:=h.lm;have:=h.ld;have:=h.dc.lt;omega
 have hVar:∀ W,Below Bm w W→Calls Tryz.prog 129 #[.agg #[.int .i64 3,.string x,.int .i64 (2*bI p+bI l),.slice a (Kid.var x p l n).kids.length c]] W fun e w'=>e=.returned (varV (varD x p l n))∧Below W.heap.size W w':=fun W hW=>oVarOf x p l n _ W (hv0.to (fun b hb=>by have:=hW.size;show b<W.heap.size;have hb':b<Bm:=hb;omega) (fun b hb o=>hW.cell (p:=⟨b,o,none⟩) hb))
 clear hk hl hv0
 generalize 2*bI p+bI l=m at *
 generalize (Kid.var x p l n).kids.length=kl at *
 have hd:=h.dc.lt
 have hmm:=h.lm
 have hdd:=h.ld
 have hI0:=h.below (bal (.cells #[.int .i64 3,.string x,.int .i64 m,.slice a kl c] 25))
 have hI:DI (w.alloc (.cells #[.int .i64 3,.string x,.int .i64 m,.slice a kl c] 25)).drew D Bm Bd mp vv pv iv mo V P is ms ns qs at_:=hI0.below ⟨rfl,rfl,rfl,jE _,fun _ _=>rfl⟩
 clear hI0
 have hQ:Q4 w.heap.size (.int .i64 3) (.string x) (.int .i64 m) (.slice a kl c) (w.alloc (.cells #[.int .i64 3,.string x,.int .i64 m,.slice a kl c] 25)).drew:=⟨by simp,by simp,by simp,by simp⟩
 have hB:Below w.heap.size w (w.alloc (.cells #[.int .i64 3,.string x,.int .i64 m,.slice a kl c] 25)).drew:=(bal _).drew
 have hKZ:KZ Z w (w.alloc (.cells #[.int .i64 3,.string x,.int .i64 m,.slice a kl c] 25)).drew:=((KZ.mk rfl hZ).alloc _).drew
 have hS:(w.alloc (.cells #[.int .i64 3,.string x,.int .i64 m,.slice a kl c] 25)).drew.cell? ⟨D,5,none⟩=some (.map (some Bd))∧(w.alloc (.cells #[.int .i64 3,.string x,.int .i64 m,.slice a kl c] 25)).drew.cell? ⟨w.heap.size,1,none⟩=some (.string x):=⟨hI.dc.c5,hQ.2.1⟩
 go_enter Tryz.func118,Tryz.ntmps118
 go_wp2
 refine wp_region_held_drew (S:=fun W=>W.cell? ⟨D,5,none⟩=some (.map (some Bd))∧W.cell? ⟨w.heap.size,1,none⟩=some (.string x)) (by kernel_rfl) hS (fun hHeld=>?_)
 clear hHeld
 generalize (w.alloc (.cells #[.int .i64 3,.string x,.int .i64 m,.slice a kl c] 25)).drew=W at *
 refine tkP 0 (.pointer (some ⟨D,0,none⟩)) hS ?_
 simp only [Act.put,jA,jB,jC]
 refine tkP 1 (.pointer (some ⟨D,0,none⟩)) hS ?_
 simp only [Act.put,jA,jB,jC]
 refine tkP 2 (.pointer (some ⟨D,0,none⟩)) hS ?_
 simp only [Act.put,jA,jB,jC]
 refine tkP 3 (.pointer (some ⟨D,5,none⟩)) hS ?_
 simp only [Act.put,jA,jB,jC]
 refine tkP 4 (.map (some Bd)) hS ?_
 simp only [Act.put,jA,jB,jC]
 refine tkP 5 (.pointer (some ⟨w.heap.size,1,none⟩)) hS ?_
 simp only [Act.put,jA,jB,jC]
 refine tkP 6 (.string x) hS ?_
 simp only [Act.put,jA,jB,jC]
 refine oneH 7 fun K hK=>?_
 go_simp
 go_at_call 117
 refine (oEnter D Bd ns x 20 at_ W hI.dc.c7 hI.od hI.ad (by omega) (by omega) (by omega)).mono ?_
 rintro e W1 (⟨hm1,rfl,hb⟩|⟨hm1,hle,rfl,hb⟩|⟨hm1,hlt,rfl,hom,ham,hg⟩)
 ·go_wp2
  exact ⟨rfl,(hB.trans (hb.mono hB.size)).mono (by omega),.inl ⟨hm1,rfl⟩⟩
 ·go_wp2
  exact ⟨rfl,(hB.trans (hb.mono hB.size)).mono (by omega),.inr (.inl ⟨hm1,hle,rfl⟩)⟩
 go_wp2
 replace hQ:=Q4.grown hQ hg (by simp;omega)
 have hI1:=hI.enterD hom ham hg
 have hB1:Below Bm w W1:=(hB.mono (by omega)).grown hg (by have:=hB.size;omega) (fun k e=>by cases e;omega)
 have hKZ1:=hKZ.grown hg (by simp;omega)
 clear hB hom ham hg hI hKZ
 refine hK.out _ _ ⟨hI1.dc.c5,hQ.2.1⟩ (fun hHeld=>?_)
 clear hK K hHeld
 refine wpAnyH_done (by kernel_rfl) ?_ _
 obtain ⟨q0,q1,q2,q3⟩:=id hQ
 go_wp2
 go_loopw [18] (fun t wr=>∃ j:Nat,j≤kl∧t=.int .i64 j∧Hid (j=kl→∀ k,n=some k→1≤k∧k≤64)∧DI wr D Bm Bd mp vv pv iv mo V P is ms (ns++[x]) qs at_∧Q4 w.heap.size (.int .i64 3) (.string x) (.int .i64 m) (.slice a kl c) wr∧Below Bm w wr∧KZ Z w wr) (fun t _=>kl - (intOf t).toNat)
 case atStart=>exact ⟨0,Nat.zero_le _,rfl,fun e=>hzero e.symm,hI1,hQ,hB1,hKZ1⟩
 case round =>
  clear hKZ1 hB1 hQ hI1 q0 q1 q2 q3
  obtain ⟨j,hj,rfl,HR,hI,hQ,hB,hKZ⟩:=hrel
  obtain ⟨q0,q1,q2,q3⟩:=id hQ
  by_cases hlt2:j<kl
  ·obtain ⟨g,o,k,ak,ck,rfl,rfl,rfl,hg,c0,c1,c2,c3⟩:=hkids (by omega)
   have hj0:j=0:=by omega
   subst hj0
   have k0:=(hB.cell (p:=⟨g,o,none⟩) hg).trans c0
   have k1:=(hB.cell (p:=⟨g,o+1,none⟩) hg).trans c1
   have k2:=(hB.cell (p:=⟨g,o+2,none⟩) hg).trans c2
   have k3:=(hB.cell (p:=⟨g,o+3,none⟩) hg).trans c3
   have hszr:=hB.size
   have hIa:=hI.below (bal (.cells #[.int .i64 15,.string empty,.int .i64 k,.slice ak 0 ck] 25))
   have hBa:=hB.alloc (by omega) (.cells #[.int .i64 15,.string empty,.int .i64 k,.slice ak 0 ck] 25)
   have hRef:=oRefuse D 6 at_ _ hIa.dc.c7
   clear c0 c1 c2 c3
   by_cases hr1:k<1
   ·have HX:Hid (∃ k',some k=some k'∧(k'<1∨64<k')):=⟨k,rfl,.inl hr1⟩
    go_wp2_with (go_at_call 151;refine hRef.mono ?_;rintro e w2 ⟨rfl,hw2⟩;obtain rfl:=hw2.symm)
    exact ⟨rfl,hBa,.inr (.inr (.inl ⟨hm1,hlt,HX.out,rfl⟩))⟩
   by_cases hr2:64<k
   ·have HX:Hid (∃ k',some k=some k'∧(k'<1∨64<k')):=⟨k,rfl,.inr hr2⟩
    go_wp2_with (go_at_call 151;refine hRef.mono ?_;rintro e w2 ⟨rfl,hw2⟩;obtain rfl:=hw2.symm)
    exact ⟨rfl,hBa,.inr (.inr (.inl ⟨hm1,hlt,HX.out,rfl⟩))⟩
   go_wp2
   go_roundw
   case rel=>exact ⟨1,by omega,by go_num,fun _ k' e=>by cases e;omega,hIa,hQ.alloc _,hBa,hKZ.alloc _⟩
   case measure=>simp [intOf]
  ·have hj0:j=kl:=by omega
   subst hj0
   have HR':Hid (∀ k,n=some k→1≤k∧k≤64):=HR.out rfl
   clear HR hkids hzero
   cases p
   ·go_wp2_with (go_at_call 129;refine (hVar _ hB).mono ?_;rintro e w2 ⟨rfl,hb2⟩;unfold varV varD)
    go_end0
    refine ⟨((hB.trans (hb2.mono (by have:=hB.size;omega)))).alloc (by have:=hB.size;have:=hb2.size;omega) _,.inr (.inr (.inr ⟨hm1,hlt,HR'.out,rfl,(hKZ.below hb2).alloc _,vv,?_⟩))⟩
    have hfin:=(hI.below hb2).below (bal (.cells #[.string x,.bool false,.int .i64 (bI l),.int .i64 (n.getD 0)] 76))
    simpa using hfin
   go_wp2_with (go_at_call 129;refine (hVar _ hB).mono ?_;rintro e w2 ⟨rfl,hb2⟩;unfold varV varD)
   generalize hy:n.getD 0=y
   have hI2:DI (w2.alloc (.cells #[.string x,.bool true,.int .i64 (bI l),.int .i64 y] 76)).drew D Bm Bd mp vv pv iv mo V P is ms (ns++[x]) qs at_:=((hI.below hb2).below (bal (.cells #[.string x,.bool true,.int .i64 (bI l),.int .i64 y] 76))).below ⟨rfl,rfl,rfl,jE _,fun _ _=>rfl⟩
   have hB2:Below Bm w (w2.alloc (.cells #[.string x,.bool true,.int .i64 (bI l),.int .i64 y] 76)).drew:=((hB.trans (hb2.mono (by have:=hB.size;omega))).alloc (by have:=hB.size;have:=hb2.size;omega) _).drew
   have hS2:Q4 w2.heap.size (.string x) (.bool true) (.int .i64 (bI l)) (.int .i64 y) (w2.alloc (.cells #[.string x,.bool true,.int .i64 (bI l),.int .i64 y] 76)).drew:=⟨by simp,by simp,by simp,by simp⟩
   have hKZ2:KZ Z w (w2.alloc (.cells #[.string x,.bool true,.int .i64 (bI l),.int .i64 y] 76)).drew:=((hKZ.below hb2).alloc _).drew
   have hDb:D<w2.heap.size:=by have:=hI.dc.lt;have:=hb2.size;omega
   have hvb:∀ k,vv.ownBlock=some k→k<w2.heap.size:=fun k e=>by have:=(hI.fr.ov.lt _ e).2;have:=hb2.size;omega
   clear hKZ hI hB hQ q0 q1 q2 q3 hb2
   refine wp_region_held_drew (S:=fun W=>Q4 w2.heap.size (.string x) (.bool true) (.int .i64 (bI l)) (.int .i64 y) W) (by kernel_rfl) hS2 (fun hHeld=>?_)
   clear hHeld
   generalize (w2.alloc (.cells #[.string x,.bool true,.int .i64 (bI l),.int .i64 y] 76)).drew=W2 at *
   generalize w2.heap.size=N at *
   obtain ⟨av,cv,rfl⟩:=hI2.fr.shapeV
   refine tkP 0 (.pointer (some ⟨D,0,none⟩)) hS2 ?_
   simp only [Act.put,jA,jB,jC]
   refine tkP 1 (.pointer (some ⟨D,0,none⟩)) hS2 ?_
   simp only [Act.put,jA,jB,jC]
   refine tkP 2 (.pointer (some ⟨D,0,none⟩)) hS2 ?_
   simp only [Act.put,jA,jB,jC]
   refine tkP 3 (.pointer (some ⟨D,0,none⟩)) hS2 ?_
   simp only [Act.put,jA,jB,jC]
   refine tkP 4 (.pointer (some ⟨D,1,none⟩)) hS2 ?_
   simp only [Act.put,jA,jB,jC]
   refine tkP 6 (.agg #[.string x,.bool true,.int .i64 (bI l),.int .i64 y] ) hS2 ?_
   simp only [Act.put,jA,jB,jC]
   refine wpAnyH_ready (rs:=[5,7]) (by kernel_rfl) (by simp) ?_
   refine AllReadyH.cons rfl (fun K hK=>?_) ?_
   ·skip
    have m1:=hI2.dc.c1
    go_simp
    refine hK.out _ _ hS2 (fun hHeld=>?_)
    clear hK K hHeld m1
    refine oneH 7 fun K hK=>?_
    go_simp
    have hsl:∀ j u,[Value.string x,.bool true,.int .i64 (bI l),.int .i64 y][j]?=some u→(W2.alloc (.cells #[.string x,.bool true,.int .i64 (bI l),.int .i64 y] 76)).cell? ((⟨W2.heap.size,0,none⟩:Addr).add j)=some u:=news_new _ #[.string x,.bool true,.int .i64 (bI l),.int .i64 y] _ _ rfl
    have hss:W2.heap.size+1=(W2.alloc (.cells #[.string x,.bool true,.int .i64 (bI l),.int .i64 y] 76)).heap.size:=by simp
    replace hB2:=hB2.alloc (by have:=hI2.dc.lt;omega) (.cells #[.string x,.bool true,.int .i64 (bI l),.int .i64 y] 76)
    replace hKZ2:=hKZ2.alloc (.cells #[.string x,.bool true,.int .i64 (bI l),.int .i64 y] 76)
    replace hI2:=hI2.below (bal (.cells #[.string x,.bool true,.int .i64 (bI l),.int .i64 y] 76))
    replace hS2:=Q4.alloc hS2 (.cells #[.string x,.bool true,.int .i64 (bI l),.int .i64 y] 76)
    refine hK.out _ _ hS2 (fun hHeld=>?_)
    clear hK K hHeld
    generalize W2.alloc (.cells #[.string x,.bool true,.int .i64 (bI l),.int .i64 y] 76)=W3 at *
    generalize W2.heap.size=s0 at *
    refine oneH 8 fun K hK=>?_
    refine step_append_lies _ (by rfl) (.tmp 42) (.tmp 44) 41 (by rfl) (D+1) 76 i0 (.agg #[.string ⟨#[]⟩,.bool false,.int .i64 0,.int .i64 0]) 4 40 Tryz.underlying41 hi hz0 hz1 hz2 rfl (by decide) (.slice av V.length cv) V.length (varCells V) (by simp [Act.eval,Act.put]) hI2.fr.ov ⟨s0,0,none⟩ 1 1 [.string x,.bool true,.int .i64 (bI l),.int .i64 y] (by simp [Act.eval,Act.put]) rfl hsl (by intro u hu;simp at hu;rcases hu with rfl | rfl | rfl | rfl<;>rfl) (by omega) (by unfold maxLen;omega) (by omega) (by have:=hI2.dc.lt;omega) (s0+1) hss.symm ?_
    intro g5 cap5 w5 hown5 hgrow5 hat5 hlt5
    have hrN:(Value.slice av V.length cv).ownBlock≠some N:=fun e=>by have:=hvb _ e;omega
    have hrD:(Value.slice av V.length cv).ownBlock≠some D:=fun e=>by have:=(hI2.fr.ov.lt _ e).1;omega
    have hfin:=hI2.pushV (v:=⟨x,true,bI l,y⟩) hown5 hgrow5 (hat5.imp id (fun e=>e.trans hss))
    replace hS2:=Q4.grown hS2 hgrow5 hrN
    replace hKZ2:=hKZ2.grown hgrow5 hZv
    replace hB2:=hB2.grown hgrow5 (by have:=hI2.dc.lt;omega) (fun k e=>by have:=(hI2.fr.ov.lt _ e).1;omega)
    have hdc:=hI2.dc.grown hgrow5 hrD
    have m1:=hdc.c1
    have mf:=hdc.fz 1
    clear hI2 hdc
    refine hK.out _ _ hS2 (fun hHeld=>?_)
    clear hK K hHeld
    simp only [Act.put,jA,jB,jC]
    refine tkP 9 (.pointer (some ⟨D,0,none⟩)) hS2 ?_
    simp only [Act.put,jA,jB,jC]
    refine tkP 10 (.pointer (some ⟨D,0,none⟩)) hS2 ?_
    simp only [Act.put,jA,jB,jC]
    refine tkP 11 (.pointer (some ⟨D,1,none⟩)) hS2 ?_
    simp only [Act.put,jA,jB,jC]
    refine oneH 12 fun K hK=>?_
    go_simp
    refine hK.out _ _ (Q4.other (by omega) hS2 _ _) (fun hHeld=>?_)
    clear hK K hHeld m1 mf
    refine wpAnyH_done (by kernel_rfl) ?_ _
    have HF:Hid (varD x true l n=⟨x,true,bI l,y⟩):=by show _=_;unfold varD;rw [hy]
    clear hy
    go_wp2
    go_end0
    exact ⟨hB2.setCell (by show Bm≤D;omega) _,.inr (.inr (.inr ⟨hm1,hlt,HR'.out,rfl,hKZ2.set (by omega) _,_,by rw [if_pos rfl,HF.out];exact hfin⟩))⟩
   refine AllReadyH.cons rfl (fun K hK=>?_) AllReadyH.nil
   go_simp
   have hsl:∀ j u,[Value.string x,.bool true,.int .i64 (bI l),.int .i64 y][j]?=some u→(W2.alloc (.cells #[.string x,.bool true,.int .i64 (bI l),.int .i64 y] 76)).cell? ((⟨W2.heap.size,0,none⟩:Addr).add j)=some u:=news_new _ #[.string x,.bool true,.int .i64 (bI l),.int .i64 y] _ _ rfl
   have hss:W2.heap.size+1=(W2.alloc (.cells #[.string x,.bool true,.int .i64 (bI l),.int .i64 y] 76)).heap.size:=by simp
   replace hB2:=hB2.alloc (by have:=hI2.dc.lt;omega) (.cells #[.string x,.bool true,.int .i64 (bI l),.int .i64 y] 76)
   replace hKZ2:=hKZ2.alloc (.cells #[.string x,.bool true,.int .i64 (bI l),.int .i64 y] 76)
   replace hI2:=hI2.below (bal (.cells #[.string x,.bool true,.int .i64 (bI l),.int .i64 y] 76))
   replace hS2:=Q4.alloc hS2 (.cells #[.string x,.bool true,.int .i64 (bI l),.int .i64 y] 76)
   refine hK.out _ _ hS2 (fun hHeld=>?_)
   clear hK K hHeld
   generalize W2.alloc (.cells #[.string x,.bool true,.int .i64 (bI l),.int .i64 y] 76)=W3 at *
   generalize W2.heap.size=s0 at *
   refine oneH 5 fun K hK=>?_
   have m1:=hI2.dc.c1
   go_simp
   refine hK.out _ _ hS2 (fun hHeld=>?_)
   clear hK K hHeld m1
   refine oneH 8 fun K hK=>?_
   refine step_append_lies _ (by rfl) (.tmp 42) (.tmp 44) 41 (by rfl) (D+1) 76 i0 (.agg #[.string ⟨#[]⟩,.bool false,.int .i64 0,.int .i64 0]) 4 40 Tryz.underlying41 hi hz0 hz1 hz2 rfl (by decide) (.slice av V.length cv) V.length (varCells V) (by simp [Act.eval,Act.put]) hI2.fr.ov ⟨s0,0,none⟩ 1 1 [.string x,.bool true,.int .i64 (bI l),.int .i64 y] (by simp [Act.eval,Act.put]) rfl hsl (by intro u hu;simp at hu;rcases hu with rfl | rfl | rfl | rfl<;>rfl) (by omega) (by unfold maxLen;omega) (by omega) (by have:=hI2.dc.lt;omega) (s0+1) hss.symm ?_
   intro g5 cap5 w5 hown5 hgrow5 hat5 hlt5
   have hrN:(Value.slice av V.length cv).ownBlock≠some N:=fun e=>by have:=hvb _ e;omega
   have hrD:(Value.slice av V.length cv).ownBlock≠some D:=fun e=>by have:=(hI2.fr.ov.lt _ e).1;omega
   have hfin:=hI2.pushV (v:=⟨x,true,bI l,y⟩) hown5 hgrow5 (hat5.imp id (fun e=>e.trans hss))
   replace hS2:=Q4.grown hS2 hgrow5 hrN
   replace hKZ2:=hKZ2.grown hgrow5 hZv
   replace hB2:=hB2.grown hgrow5 (by have:=hI2.dc.lt;omega) (fun k e=>by have:=(hI2.fr.ov.lt _ e).1;omega)
   have hdc:=hI2.dc.grown hgrow5 hrD
   have m1:=hdc.c1
   have mf:=hdc.fz 1
   clear hI2 hdc
   refine hK.out _ _ hS2 (fun hHeld=>?_)
   clear hK K hHeld
   simp only [Act.put,jA,jB,jC]
   refine tkP 9 (.pointer (some ⟨D,0,none⟩)) hS2 ?_
   simp only [Act.put,jA,jB,jC]
   refine tkP 10 (.pointer (some ⟨D,0,none⟩)) hS2 ?_
   simp only [Act.put,jA,jB,jC]
   refine tkP 11 (.pointer (some ⟨D,1,none⟩)) hS2 ?_
   simp only [Act.put,jA,jB,jC]
   refine oneH 12 fun K hK=>?_
   go_simp
   refine hK.out _ _ (Q4.other (by omega) hS2 _ _) (fun hHeld=>?_)
   clear hK K hHeld m1 mf
   refine wpAnyH_done (by kernel_rfl) ?_ _
   have HF:Hid (varD x true l n=⟨x,true,bI l,y⟩):=by show _=_;unfold varD;rw [hy]
   clear hy
   go_wp2
   go_end0
   exact ⟨hB2.setCell (by show Bm≤D;omega) _,.inr (.inr (.inr ⟨hm1,hlt,HR'.out,rfl,hKZ2.set (by omega) _,_,by rw [if_pos rfl,HF.out];exact hfin⟩))⟩
end face
namespace chk
open Go.RowKit Go.Shelf
open syn face
section
variable {w0 w w':World} {D Kb kn:Nat} {kf:KF} {vs:List VarD} {u:Value} {a:Int}
theorem CS.push (h:CS w0 w D Kb kn kf vs u a) {v:VarD} {g cap:Nat} (ho:w'.ownsRow (D+1) 76 4 (.slice (some ⟨g,0,none⟩) (vs.length+1) cap) (vs.length+1) (varCells vs++[.string v.name,.bool v.pub,.int .i64 v.label,.int .i64 v.size])) (hg:w.grownBy w' u.ownBlock) (hat:u.ownBlock=some g∨g=w.heap.size) :
  CS w0 (w'.setCell ⟨D,6,none⟩ (.slice (some ⟨g,0,none⟩) (vs.length+1) cap)) D Kb kn kf (vs++[v]) (.slice (some ⟨g,0,none⟩) (vs.length+1) cap) a:=by
 have hne:∀ b,u.ownBlock=some b→D+1≤b:=fun b e=>(h.rl.lt _ e).1
 have hgD:D+1≤g:=by
  rcases hat with e | e
  ·exact hne g e
  ·have:=h.lt;omega
 have hbl:=hg.block D h.lt (fun e=>by have:=hne D e.symm;omega)
 have hKl:=h.mp.lt
 refine ⟨(h.bs.grown hg h.bs.size (fun k e=>by have:=hne k e;have:=h.hD;omega)).setCell h.hD _,h.hD,?_,?_,?_,?_,fun k=>?_,(h.mp.kept hg (fun e=>h.nu e.symm)).setCell h.nk _,h.fi,fun p x hc=>⟨(h.fw p x hc).1,(h.fw p x hc).2.1,(World.cell?_of_block (a:=p) ((Below.heap_setCell w' ⟨D,6,none⟩ _ p.block (h.fw p x hc).1).trans (hg.block p.block (Nat.lt_of_lt_of_le (h.fw p x hc).2.1 h.fm) (fun e=>Nat.not_lt.2 (h.fu _ e.symm) (h.fw p x hc).2.1)))).trans (h.fw p x hc).2.2⟩,by rw [World.size_setCell];exact Nat.le_trans h.fm hg.size,h.mM,fun b e=>?_,?_,h.nk,h.mx,?_⟩
 ·rw [jD _ _ _ _ (by simp)];exact (World.cell?_of_block (a:=⟨D,4,none⟩) hbl).trans h.c4
 ·rw [jD _ _ _ _ (by simp)];exact (World.cell?_of_block (a:=⟨D,5,none⟩) hbl).trans h.c5
 ·exact World.cell?_setCell_same' _ _ _ (by rw [(World.cell?_of_block (a:=⟨D,6,none⟩) hbl).trans h.c6];rfl)
 ·rw [jD _ _ _ _ (by simp)];exact (World.cell?_of_block (a:=⟨D,7,none⟩) hbl).trans h.c7
 ·rw [World.frozen?_setCell];exact (World.frozen?_of_block (a:=⟨D,k,none⟩) hbl).trans (h.fz k)
 ·have h2:some g=some b:=e
  cases h2
  rcases hat with e | e
  ·exact h.fu g e
  ·rw [e];exact h.fm
 ·rw [List.length_append,varCells_snoc]
  refine ownsRow_setCell_other ho (fun e=>?_) _
  have h2:some g=some D:=e
  cases h2
  omega
 ·intro e
  have h2:some g=some Kb:=e
  cases h2
  rcases hat with e | e
  ·exact h.nu e
  ·omega
def AL (w0:World) (D Kb kn:Nat) (kf:KF) (vs:List VarD) (u:Value) (a:Int) (v:VarD) (first:Nat) (at_:Int) (w:World) (e:Ending) (w':World):Prop :=
 ((vs.drop first).any (fun o=>eqS o.name v.name)=true∧e=.panicked (Thrown 5 at_)∧Below w0.heap.size w0 w') ∨
 ((vs.drop first).any (fun o=>eqS o.name v.name)=false∧20≤vs.length∧e=.panicked (Thrown 1 at_)∧Below w0.heap.size w0 w') ∨
 ((vs.drop first).any (fun o=>eqS o.name v.name)=false∧vs.length<20∧e=.returned (.tuple #[])∧(∃ u',CS w0 w' D Kb kn kf (vs++[v]) u' a∧∀ b,u'.ownBlock=some b→u.ownBlock=some b∨w.heap.size≤b)∧w.heap.size≤w'.heap.size∧∀ b,b<w.heap.size→b≠D→u.ownBlock≠some b→w'.heap[b]?=w.heap[b]?)
theorem any_at {α:Type} {p:α→Bool} {l:List α} {j:Nat} (h:j<l.length) (hp:p l[j]=true):l.any p=true:=List.any_eq_true.2 ⟨_,List.getElem_mem h,hp⟩
theorem any_none {α:Type} {p:α→Bool} {l:List α} (h:∀ i (hi:i<l.length),p l[i]=false):l.any p=false:=by
 rw [List.any_eq_false]
 intro x hx
 obtain ⟨i,hi,rfl⟩:=List.getElem_of_mem hx
 rw [h i hi]
 decide
end
end chk
end Go.Proofs.YtfopddgjdaoidaaGreatDoor
