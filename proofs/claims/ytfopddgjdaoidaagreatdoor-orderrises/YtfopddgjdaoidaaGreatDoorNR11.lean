/- How far an expression reaches. No Go in sight. -/
import Derived.Test.YtfopddgjdaoidaaGreatDoorNR10
import Derived.Maps.OwnIn
set_option linter.unusedVariables false
set_option linter.unusedSimpArgs false
set_option maxRecDepth 100000
namespace Go.Proofs.YtfopddgjdaoidaaGreatDoor
namespace chk
open Go.RowKit
open syn face
theorem oRefuseC (c a:Int) (w:World) :
  Calls Tryz.prog 131 #[.int .i64 c,.int .i64 a] w fun e w'=>e=.panicked (Thrown c a)∧w'=w:=by
 unfold Thrown
 go_enter Tryz.func131,Tryz.ntmps131
 go_wp2
 exact ⟨rfl,rfl,rfl⟩
theorem oJoin (a b:Int) (w:World):Calls Tryz.prog 188 #[.int .i64 a,.int .i64 b] w fun e w'=>e=.returned (.int .i64 (jn a b))∧w'=w:=by
 unfold jn
 by_cases ha:a=0
 ·by_cases hb:b=0
  ·rw [if_neg (by simp [ha,hb])]
   go_enter Tryz.func188,Tryz.ntmps188
   go_wp2
   go_ret
   exact ⟨rfl,rfl⟩
  ·rw [if_pos (.inr hb)]
   go_enter Tryz.func188,Tryz.ntmps188
   go_wp2
   go_ret
   exact ⟨rfl,rfl⟩
 ·rw [if_pos (.inl ha)]
  go_enter Tryz.func188,Tryz.ntmps188
  go_wp2
  go_ret
  exact ⟨rfl,rfl⟩
theorem oBegin (D:Nat) (n:Int) (w:World) (h:w.cell? ⟨D,7,none⟩=some (.int .i64 n)) (hf:w.frozen? ⟨D,7,none⟩=false) (h0:0≤n) (h1:n≤1000000) :
  Calls Tryz.prog 81 #[.pointer (some ⟨D,0,none⟩)] w fun e w'=>e=.returned (.int .i64 n)∧w'=w.setCell ⟨D,7,none⟩ (.int .i64 (n+1)):=by
 go_enter Tryz.func81,Tryz.ntmps81
 go_wp2
 go_ret
 exact ⟨rfl,rfl⟩
def flows (to:Int) (ls:List Int):Bool:=ls.all fun l=>jn to l==to
def FL (w:World) (to a:Int) (ls:List Int) (e:Ending) (w':World):Prop:=(flows to ls=true∧e=.returned (.tuple #[])∧w'=w)∨(flows to ls=false∧e=.panicked (Thrown 7 a)∧w'=w)
set_option maxHeartbeats 1000000 in
theorem oFlow (a to:Int) (ls:List Int) (u:Value) (w:World) (hu:IntsIn w u ls) :
  Calls Tryz.prog 158 #[.int .i64 a,.int .i64 to,u] w (FL w to a ls):=by
 obtain ⟨ua,uc,rfl,hl,hk⟩:=hu
 have hl':(ls.length:Int)≤9223372036854775807:=by omega
 go_enter Tryz.func158,Tryz.ntmps158
 go_wp2
 go_loopw [10] (fun t wr=>∃ j:Nat,j≤ls.length∧t=.int .i64 j∧Hid (∀ i (hi:i<ls.length),i<j→(jn to ls[i]==to)=true)∧wr=w) (fun t _=>ls.length - (intOf t).toNat)
 case atStart=>exact ⟨0,Nat.zero_le _,rfl,fun i hi h=>absurd h (by omega),rfl⟩
 case round =>
  obtain ⟨j,hj,rfl,HN,rfl⟩:=hrel
  by_cases hlt:j<ls.length
  ·obtain ⟨g,o,rfl,hc⟩:=hk (by intro e;rw [e] at hlt;simp at hlt)
   have k0:=hc j hlt
   have HB:Hid (∀ b,(jn to ls[j]==to)=b→b=false→flows to ls=false):=fun b h1 h2=>by
    unfold flows
    rw [List.all_eq_false]
    exact ⟨ls[j],List.getElem_mem hlt,by rw [h1,h2];decide⟩
   have HS:Hid (∀ b,(jn to ls[j]==to)=b→b=true→∀ i (hi:i<ls.length),i<j+1→(jn to ls[i]==to)=true):=fun b h1 h2 i hi h=>by
    rcases Nat.lt_or_ge i j with h' | h'
    ·exact HN.out i hi h'
    ·obtain rfl:i=j:=by omega
     exact h1.trans h2
   clear hc hk
   generalize ls[j]=l at *
   cases hb:(jn to l==to)
   ·have HF:Hid (flows to ls=false):=HB.out _ hb rfl
    have hne:¬ jn to l=to:=by simpa using hb
    clear HB HS
    go_wp2_with first
     | (go_at_call 188;refine (oJoin _ _ _).mono ?_;rintro e w6 ⟨rfl,hw6⟩;obtain rfl:=hw6.symm)
     | (go_at_call 131;refine (oRefuseC _ _ _).mono ?_;rintro e w7 ⟨rfl,hw7⟩;obtain rfl:=hw7.symm)
    exact ⟨rfl,.inr ⟨HF.out,rfl,rfl⟩⟩
   ·have HS2:=HS.out _ hb rfl
    have heq:jn to l=to:=by simpa using hb
    clear HB HS
    go_wp2_with (go_at_call 188;refine (oJoin _ _ _).mono ?_;rintro e w6 ⟨rfl,hw6⟩;obtain rfl:=hw6.symm)
    go_roundw
    case rel=>exact ⟨j+1,by omega,by go_num,HS2,trivial⟩
    case measure=>simp [intOf];omega
  ·have HF:Hid (flows to ls=true):=by
    show _=_
    unfold flows
    rw [List.all_eq_true]
    intro l hm
    obtain ⟨i,hi,rfl⟩:=List.mem_iff_getElem.1 hm
    exact HN.out i hi (by omega)
   go_wp2
   go_end0
   exact .inl ⟨HF.out,rfl,rfl⟩
end chk
namespace face
open Go.RowKit
structure FR (X:Nat→Prop) (B:Nat) (w:World) (vv pv:Value) (V:List VarD) (P:List (ProcD × Value)):Prop where
 ov:w.ownsRow B 76 4 vv V.length (varCells V)
 op:w.ownsRow B 80 6 pv P.length (procCells P)
 par:∀ q∈P,ParIn (fun b=>B≤b∧b<w.heap.size∧vv.ownBlock≠some b∧pv.ownBlock≠some b∧¬ X b) w q.2 q.1.params
 dj:∀ b,vv.ownBlock=some b→pv.ownBlock≠some b
 xv:∀ b,vv.ownBlock=some b→¬ X b
 xp:∀ b,pv.ownBlock=some b→¬ X b
section
variable {X:Nat→Prop} {B:Nat} {w w':World} {vv pv:Value} {V:List VarD} {P:List (ProcD × Value)}
theorem FR.nil (X:Nat→Prop) (B:Nat) (w:World):FR X B w (.slice none 0 0) (.slice none 0 0) [] [] :=
 ⟨World.ownsRow_nil _ _ _ _,World.ownsRow_nil _ _ _ _,(fun q hq=>by cases hq),(fun b h=>by cases h),(fun b h=>by cases h),(fun b h=>by cases h)⟩
theorem FR.grown {row:Option Nat} (h:FR X B w vv pv V P) (hg:w.grownBy w' row) (hr:∀ b,row=some b→X b):FR X B w' vv pv V P:=by
 have hv:vv.ownBlock=none∨vv.ownBlock≠row:=by
  cases e:vv.ownBlock with
  | none=>exact .inl rfl
  | some b=>exact .inr (fun e2=>h.xv b e (hr b e2.symm))
 have hp:pv.ownBlock=none∨pv.ownBlock≠row:=by
  cases e:pv.ownBlock with
  | none=>exact .inl rfl
  | some b=>exact .inr (fun e2=>h.xp b e (hr b e2.symm))
 refine ⟨h.ov.kept hg hv,h.op.kept hg hp,fun q hq=>?_,h.dj,h.xv,h.xp⟩
 exact (h.par q hq).to (fun b hb=>⟨hb.1,Nat.lt_of_lt_of_le hb.2.1 hg.size,hb.2.2⟩) (fun b hb o v hc=>cell_grown hg hc (fun e=>hb.2.2.2.2 (hr b e)))
theorem FR.below (h:FR X B w vv pv V P) (hb:Below w.heap.size w w'):FR X B w' vv pv V P :=
 h.grown (row:=none) ⟨hb.os,hb.tape,hb.output,hb.size,fun j hj _=>hb.block j hj⟩ (fun b e=>by cases e)
theorem FR.alloc (h:FR X B w vv pv V P) (o:Obj):FR X B (w.alloc o) vv pv V P:=h.below (bal o)
theorem FR.drew (h:FR X B w vv pv V P):FR X B w.drew vv pv V P:=⟨h.ov,h.op,h.par,h.dj,h.xv,h.xp⟩
theorem FR.set (h:FR X B w vv pv V P) {M o:Nat} (hM:M<B) (v:Value):FR X B (w.setCell ⟨M,o,none⟩ v) vv pv V P:=by
 refine ⟨ownsRow_setCell_other h.ov (fun e=>by have:=(h.ov.lt _ e).1;simp at this;omega) _,ownsRow_setCell_other h.op (fun e=>by have:=(h.op.lt _ e).1;simp at this;omega) _,fun q hq=>?_,h.dj,h.xv,h.xp⟩
 exact (h.par q hq).to (fun b hb=>⟨hb.1,by rw [World.size_setCell];exact hb.2.1,hb.2.2⟩) (fun b hb o' v' hc=>by
  rw [jD _ _ _ _ (by intro e;have h1:=hb.1;cases e;omega)]
  exact hc)
theorem FR.pushV (h:FR X B w vv pv V P) {v:VarD} {g cap:Nat} (ho:w'.ownsRow B 76 4 (.slice (some ⟨g,0,none⟩) (V.length+1) cap) (V.length+1) (varCells V++[.string v.name,.bool v.pub,.int .i64 v.label,.int .i64 v.size])) (hg:w.grownBy w' vv.ownBlock)
  (hat:vv.ownBlock=some g∨g=w.heap.size) (hX:∀ b,w.heap.size≤b→¬ X b):FR X B w' (.slice (some ⟨g,0,none⟩) (V.length+1) cap) pv (V++[v]) P:=by
 have hpne:pv.ownBlock=none∨pv.ownBlock≠vv.ownBlock:=by
  cases e:pv.ownBlock with
  | none=>exact .inl rfl
  | some b=>exact .inr (fun e2=>h.dj b e2.symm e)
 have hgp:∀ b,some g=some b→pv.ownBlock≠some b:=fun b e e2=>by
  cases e
  rcases hat with h1 | h1
  ·exact h.dj g h1 e2
  ·have:=(h.op.lt _ e2).2;omega
 refine ⟨by rw [varCells_snoc,List.length_append];exact ho,h.op.kept hg hpne,fun q hq=>?_,hgp,fun b e=>?_,h.xp⟩
 ·refine (h.par q hq).to (fun b hb=>⟨hb.1,Nat.lt_of_lt_of_le hb.2.1 hg.size,fun e=>?_,hb.2.2.2⟩) (fun b hb o v hc=>cell_grown hg hc hb.2.2.1)
  have e':some g=some b:=e
  cases e'
  rcases hat with h1 | h1
  ·exact hb.2.2.1 h1
  ·have:=hb.2.1;omega
 ·have e':some g=some b:=e
  cases e'
  rcases hat with h1 | h1
  ·exact h.xv g h1
  ·exact hX g (by omega)
theorem FR.pushP (h:FR X B w vv pv V P) {q:ProcD × Value} {g cap:Nat} (ho:w'.ownsRow B 80 6 (.slice (some ⟨g,0,none⟩) (P.length+1) cap) (P.length+1) (procCells P++[.string q.1.name,.bool q.1.pub,q.2,.int .i64 q.1.writes,.bool q.1.gives,.int .i64 q.1.given])) (hg:w.grownBy w' pv.ownBlock)
  (hat:pv.ownBlock=some g∨g=w.heap.size) (hX:∀ b,w.heap.size≤b→¬ X b) (hq:ParIn (fun b=>B≤b∧b<w.heap.size∧vv.ownBlock≠some b∧pv.ownBlock≠some b∧¬ X b) w q.2 q.1.params):FR X B w' vv (.slice (some ⟨g,0,none⟩) (P.length+1) cap) V (P++[q]):=by
 have hvne:vv.ownBlock=none∨vv.ownBlock≠pv.ownBlock:=by
  cases e:vv.ownBlock with
  | none=>exact .inl rfl
  | some b=>exact .inr (fun e2=>h.dj b e e2.symm)
 refine ⟨h.ov.kept hg hvne,by rw [procCells_snoc,List.length_append];exact ho,fun q' hq'=>?_,fun b e e2=>?_,h.xv,fun b e=>?_⟩
 ·have hone:ParIn (fun b=>B≤b∧b<w.heap.size∧vv.ownBlock≠some b∧pv.ownBlock≠some b∧¬ X b) w q'.2 q'.1.params:=by
   rw [List.mem_append] at hq'
   rcases hq' with h1 | h1
   ·exact h.par q' h1
   ·simp only [List.mem_singleton] at h1;subst h1;exact hq
  refine hone.to (fun b hb=>⟨hb.1,Nat.lt_of_lt_of_le hb.2.1 hg.size,hb.2.2.1,fun e=>?_,hb.2.2.2.2⟩) (fun b hb o v hc=>cell_grown hg hc hb.2.2.2.1)
  have e':some g=some b:=e
  cases e'
  rcases hat with h1 | h1
  ·exact hb.2.2.2.1 h1
  ·have:=hb.2.1;omega
 ·have e':some g=some b:=e2
  cases e'
  rcases hat with h1 | h1
  ·exact h.dj g e h1
  ·have:=(h.ov.lt _ e).2;omega
 ·have e':some g=some b:=e
  cases e'
  rcases hat with h1 | h1
  ·exact h.xp g h1
  ·exact hX g (by omega)
theorem FR.face {m:ByteArray} (h:FR X B w vv pv V P) (hV:V.length≤1000) (hP:P.length≤1000):FaceIn w (.agg #[.string m,vv,pv]) ⟨m,V,P.map (·.1)⟩ :=
 ⟨vv,pv,rfl,vars_in h.ov (by show V.length≤_;omega),procs_in h.op (by omega) (fun q hq=>(h.par q hq).ints)⟩
theorem FR.shapeV (h:FR X B w vv pv V P):∃ a c,vv=.slice a V.length c:=by
 obtain ⟨a,c,e,_⟩:=lexs.own_shape h.ov
 exact ⟨a,c,e⟩
theorem FR.shapeP (h:FR X B w vv pv V P):∃ a c,pv=.slice a P.length c:=by
 obtain ⟨a,c,e,_⟩:=lexs.own_shape h.op
 exact ⟨a,c,e⟩
end
structure Box3 (w:World) (N:Nat) (x0 x1 x2:Value):Prop where
 c0:w.cell? ⟨N,0,none⟩=some x0
 c1:w.cell? ⟨N,1,none⟩=some x1
 c2:w.cell? ⟨N,2,none⟩=some x2
 f0:w.frozen? ⟨N,0,none⟩=false
 f1:w.frozen? ⟨N,1,none⟩=false
 f2:w.frozen? ⟨N,2,none⟩=false
section
variable {w w':World} {N:Nat} {x0 x1 x2:Value}
theorem Box3.new (w:World) (x0 x1 x2:Value) (T:TypeId):Box3 (w.alloc (.cells #[x0,x1,x2] T)) w.heap.size x0 x1 x2:=by constructor<;>simp
theorem Box3.lt (h:Box3 w N x0 x1 x2):N<w.heap.size:=World.block_lt_of_cell? w ⟨N,0,none⟩ h.c0
theorem Box3.block (h:Box3 w N x0 x1 x2) (hb:w'.heap[N]?=w.heap[N]?):Box3 w' N x0 x1 x2 :=
 ⟨(World.cell?_of_block (a:=⟨N,0,none⟩) hb).trans h.c0,(World.cell?_of_block (a:=⟨N,1,none⟩) hb).trans h.c1,(World.cell?_of_block (a:=⟨N,2,none⟩) hb).trans h.c2,(World.frozen?_of_block (a:=⟨N,0,none⟩) hb).trans h.f0,(World.frozen?_of_block (a:=⟨N,1,none⟩) hb).trans h.f1,(World.frozen?_of_block (a:=⟨N,2,none⟩) hb).trans h.f2⟩
theorem Box3.below (h:Box3 w N x0 x1 x2) (hb:Below w.heap.size w w'):Box3 w' N x0 x1 x2:=h.block (hb.block N h.lt)
theorem Box3.alloc (h:Box3 w N x0 x1 x2) (o:Obj):Box3 (w.alloc o) N x0 x1 x2:=h.below (bal o)
end
end face
namespace face
open Go.RowKit
open syn (isName eqS)
def StrsIn (w:World) (v:Value) (l:List ByteArray):Prop:=∃ a c,v=.slice a l.length c∧l.length≤9223372036854775807 ∧
 (l≠[]→∃ g o,a=some ⟨g,o,none⟩∧∀ i (h:i<l.length),w.cell? ⟨g,o+i,none⟩=some (.string l[i]))
theorem among_hit {l:List ByteArray} {x:ByteArray} (i:Nat) (h:i<l.length) (he:eqS l[i] x=true):among l x=true:=by
 unfold among
 rw [List.any_eq_true]
 exact ⟨l[i],List.getElem_mem h,he⟩
theorem among_none {l:List ByteArray} {x:ByteArray} (hp:∀ i (h:i<l.length),eqS l[i] x=false):among l x=false:=by
 unfold among
 rw [List.any_eq_false]
 intro y hy
 obtain ⟨k,hk,rfl⟩:=List.mem_iff_getElem.1 hy
 simp [hp k hk]
end face
namespace face
open Go.RowKit
open syn
theorem news_new (w:World) (cs:Array Value) (T:TypeId) (n:Nat) (hn:n=w.heap.size):∀ j u,cs.toList[j]?=some u→(w.alloc (.cells cs T)).cell? ((⟨n,0,none⟩:Addr).add j)=some u:=by
 subst hn
 exact World.news_of_block (MapKept.heap_alloc w _).1
theorem varsK_len (all:Bool):∀ K:List Kid,(varsK all K).length≤K.length
 | []=>jE _
 | .imp x :: r=>by have:=varsK_len all r;show (varsK all r).length≤r.length+1;omega
 | .var x p l n :: r=>by
  have:=varsK_len all r
  show (if all||p then varD x p l n :: varsK all r else varsK all r).length≤r.length+1
  split<;>(try simp only [List.length_cons])<;>omega
 | .proc _ _ _ _ _ _ :: r=>by have:=varsK_len all r;show (varsK all r).length≤r.length+1;omega
theorem procsK_len (all:Bool):∀ K:List Kid,(procsK all K).length≤K.length
 | []=>jE _
 | .imp x :: r=>by have:=procsK_len all r;show (procsK all r).length≤r.length+1;omega
 | .var x p l n :: r=>by have:=procsK_len all r;show (procsK all r).length≤r.length+1;omega
 | .proc x p l g ps b :: r=>by
  have:=procsK_len all r
  show (if all||p then procD x p l g ps :: procsK all r else procsK all r).length≤r.length+1
  split<;>(try simp only [List.length_cons])<;>omega
theorem strs_own {w:World} {B:Nat} {v:Value} {L:List ByteArray} (h:w.ownsRow B 9 1 v L.length (strV L)):StrsIn w v L:=by
 rcases h.2 with ⟨rfl,hn⟩|⟨g,cap,cur,rfl,_,_,h1,h2,_⟩
 ·have:L=[]:=List.length_eq_zero_iff.1 hn
  subst this
  exact ⟨none,0,rfl,by simp,fun h=>absurd rfl h⟩
 ·refine ⟨some ⟨g,0,none⟩,cap,rfl,by unfold maxLen at h2;omega,fun _=>⟨g,0,rfl,fun i hi=>?_⟩⟩
  have:=h.cellAt i (by omega)
  rw [Nat.zero_add,this]
  unfold strV
  rw [List.getElem?_map,List.getElem?_eq_getElem hi]
  rfl
theorem own_keep {w w':World} {B:Nat} {e:TypeId} {k n:Nat} {v:Value} {xs:List Value} (h:w.ownsRow B e k v n xs) (hb:Below w.heap.size w w'):w'.ownsRow B e k v n xs :=
 h.kept (row:=none) ⟨hb.os,hb.tape,hb.output,hb.size,fun j hj _=>hb.block j hj⟩ (by cases v.ownBlock<;>simp)
section
variable {w wr w2:World} {m:ByteArray} {kv iv nv:Value} {is ns:List ByteArray}
end
end face
namespace chk
open Go.RowKit
open syn face
section
variable {w w':World} {D:Nat} {x0 x1 x2 x3 x4 x5 x6 x7 x8 x9 x10 x11 x12 x13 x14:Value}
end
abbrev FV:=FaceD × Value × Value
def fvV (q:FV):Value:=.agg #[.string q.1.module,q.2.1,q.2.2]
section
variable {w0 w w':World} {D:Nat} {own:FV} {fs:List FV} {fv lv:Value} {L:List Loc} {at_:Int} {p0 p1 p2 p3 p4 p5:Value} {fc fa:Int} {st:Bool}
end
end chk
namespace chk
open Go.RowKit Go.Maps
open syn face
def fvO (o:Option FV):Option Value:=o.map fvV
set_option maxHeartbeats 2000000 in
theorem oImported (D Gb Kb gn kn:Nat) (g k:ByteArray→Option Value) (x:ByteArray) (a:Int) (w:World) (h4:w.cell? ⟨D,4,none⟩=some (.map (some Gb))) (h5:w.cell? ⟨D,5,none⟩=some (.map (some Kb))) (hG:MapF w Gb gn g) (hK:MapF w Kb kn k) (hx:x.size≤1000) (hkn:kn≤1000) (hne:D≠Kb)
  (hsh:∀ v,g x=some v→∃ m a1 n1 c1 a2 n2 c2,v=.agg #[.string m,.slice a1 n1 c1,.slice a2 n2 c2]) :
  Calls Tryz.prog 83 #[.pointer (some ⟨D,0,none⟩),.string x,.int .i64 a] w fun e w' =>
   (g x=none∧e=.panicked (Thrown 4 a)∧Below w.heap.size w w')∨(∃ v,g x=some v∧e=.returned (.tuple #[])∧MapF w' Kb (kn+1) (fun z=>if eqS z x then some v else k z)∧w.grownBy w' (some Kb)):=by
 have c3:Tryz.prog.cellsOf 44=3:=cell3
 have hx':x.size≤maxLen:=by unfold maxLen;omega
 have hdl:D<w.heap.size:=World.block_lt_of_cell? w ⟨D,4,none⟩ h4
 cases hg:g x with
 | none =>
  have HN:Hid (g x=none):=hg
  go_enter Tryz.func83,Tryz.ntmps83
  go_wp2_with first
   | (at_lookup;refine wpList_look (f:=g) rfl _ _ rfl rfl hG x hx' rfl ?_;rw [hg];unfold noFaceV)
   | (go_at_call 131;refine (oRefuseC _ _ _).mono ?_;rintro e w7 ⟨rfl,hw7⟩;obtain rfl:=hw7.symm)
   | go_in
  exact ⟨rfl,.inl ⟨trivial,rfl,bal _⟩⟩
 | some v =>
  obtain ⟨m,a1,n1,c1,a2,n2,c2,rfl⟩:=hsh v hg
  have hK1:=hK.below ((Below.refl w.heap.size w).alloc (jE _) (.cells #[.string m,.slice a1 n1 c1,.slice a2 n2 c2] 44))
  go_enter Tryz.func83,Tryz.ntmps83
  go_wp2_with first
   | (at_lookup;refine wpList_look (f:=g) rfl _ _ rfl rfl hG x hx' rfl ?_;rw [hg])
   | go_in
  have hS:(w.alloc (.cells #[.string m,.slice a1 n1 c1,.slice a2 n2 c2] 44)).drew.cell? ⟨D,5,none⟩=some (.map (some Kb))∧(w.alloc (.cells #[.string m,.slice a1 n1 c1,.slice a2 n2 c2] 44)).drew.cell? ⟨w.heap.size,0,none⟩=some (.string m)∧(w.alloc (.cells #[.string m,.slice a1 n1 c1,.slice a2 n2 c2] 44)).drew.cell? ⟨w.heap.size,1,none⟩=some (.slice a1 n1 c1)∧(w.alloc (.cells #[.string m,.slice a1 n1 c1,.slice a2 n2 c2] 44)).drew.cell? ⟨w.heap.size,2,none⟩=some (.slice a2 n2 c2):=⟨cell_new h5 _,by simp,by simp,by simp⟩
  have hKW:MapF (w.alloc (.cells #[.string m,.slice a1 n1 c1,.slice a2 n2 c2] 44)).drew Kb kn k:=hK1.below (Below.refl _ _).drew
  have hBW:Below w.heap.size w (w.alloc (.cells #[.string m,.slice a1 n1 c1,.slice a2 n2 c2] 44)).drew:=(bal _).drew
  have hlt:=hK.lt
  refine wp_region_held_drew (S:=fun W=>W.cell? ⟨D,5,none⟩=some (.map (some Kb))∧W.cell? ⟨w.heap.size,0,none⟩=some (.string m)∧W.cell? ⟨w.heap.size,1,none⟩=some (.slice a1 n1 c1)∧W.cell? ⟨w.heap.size,2,none⟩=some (.slice a2 n2 c2)) (by kernel_rfl) hS (fun hHeld=>?_)
  clear hHeld hK1
  generalize (w.alloc (.cells #[.string m,.slice a1 n1 c1,.slice a2 n2 c2] 44)).drew=W at *
  obtain ⟨W1,hrun,hM1,hg1⟩:=hKW.store (by unfold maxLen;omega) x hx' (.agg #[.string m,.slice a1 n1 c1,.slice a2 n2 c2])
  refine tkP 0 (.pointer (some ⟨D,0,none⟩)) hS ?_
  simp only [Act.put,jA,jB,jC]
  refine tkP 1 (.pointer (some ⟨D,0,none⟩)) hS ?_
  simp only [Act.put,jA,jB,jC]
  refine tkP 2 (.pointer (some ⟨D,5,none⟩)) hS ?_
  simp only [Act.put,jA,jB,jC]
  refine tkP 3 (.map (some Kb)) hS ?_
  simp only [Act.put,jA,jB,jC]
  refine tkP 4 (.string x) hS ?_
  simp only [Act.put,jA,jB,jC]
  refine tkP 5 (.agg #[.string m,.slice a1 n1 c1,.slice a2 n2 c2] ) hS ?_
  simp only [Act.put,jA,jB,jC]
  refine wpAnyH_ready (rs:=[6]) (by kernel_rfl) (by simp) ?_
  refine AllReadyH.cons rfl (fun KK hKK=>?_) AllReadyH.nil
  go_simp
  have hne2:Kb≠w.heap.size:=by omega
  refine hKK.out _ _ ⟨cell_grown hg1 hS.1 (by simp;omega),cell_grown hg1 hS.2.1 (by simp;omega),cell_grown hg1 hS.2.2.1 (by simp;omega),cell_grown hg1 hS.2.2.2 (by simp;omega)⟩ (fun hHeld=>?_)
  clear hKK KK hHeld
  refine wpAnyH_done (by kernel_rfl) ?_ _
  go_wp2
  go_end0
  exact .inr ⟨_,rfl,rfl,hM1,((grown_of_below hBW).but _).trans hg1⟩
end chk
namespace chk
open Go.RowKit
open syn face
theorem find_take {α:Type} {p:α→Bool} {l:List α} {j:Nat} (hj:j<l.length) (h:∀ i (hi:i<l.length),i<j→p l[i]=false) (hp:p l[j]=true):l.find? p=some l[j]:=by
 induction l generalizing j with
 | nil=>simp at hj
 | cons a r ih =>
  cases j with
  | zero=>exact List.find?_cons_of_pos hp
  | succ j =>
   rw [List.find?_cons_of_neg (by rw [show p a=false from h 0 (by simp) (by omega)];decide)]
   exact ih (by simpa using hj) (fun i hi hlt=>h (i+1) (by simpa using hi) (by omega)) hp
theorem find_none {α:Type} {p:α→Bool} {l:List α} (h:∀ i (hi:i<l.length),p l[i]=false):l.find? p=none:=by
 rw [List.find?_eq_none]
 intro a ha
 obtain ⟨i,hi,rfl⟩:=List.mem_iff_getElem.1 ha
 simp [h i hi]
theorem fv_shape {w:World} {q:FV} (h:FaceIn w (fvV q) q.1):∃ a c a' c',q=(q.1,.slice a q.1.vars.length c,.slice a' q.1.procs.length c'):=by
 obtain ⟨vv,pv,e,⟨a,c,rfl,_,_⟩,⟨a',c',rfl,_,_⟩⟩:=h
 obtain ⟨f,v1,v2⟩:=q
 unfold fvV at e
 injection e with e
 simp only [Array.mk.injEq,List.cons.injEq,and_true,true_and] at e
 obtain ⟨rfl,rfl⟩:=e
 exact ⟨a,c,a',c',rfl⟩
section
variable {w0 w w':World} {D:Nat} {own:FV} {fs:List FV} {fv lv:Value} {L:List Loc} {at_:Int} {p0 p1 p2 p3 p4 p5:Value} {fc fa:Int} {st:Bool}
end
theorem find_rev {α:Type} {p:α→Bool} {l:List α} {j:Nat} (hj:j<l.length) (h:∀ i (hi:i<l.length),j<i→p l[i]=false) (hp:p l[j]=true):l.reverse.find? p=some l[j]:=by
 have hj2:l.length - 1 - j<l.reverse.length:=by rw [List.length_reverse];omega
 have e:l.reverse[l.length - 1 - j]=l[j]:=by
  rw [List.getElem_reverse]
  congr 1
  omega
 have:=find_take (l:=l.reverse) (p:=p) hj2 (fun i hi hlt=>by
  rw [List.getElem_reverse]
  rw [List.length_reverse] at hi
  exact h _ _ (by omega)) (by rw [e];exact hp)
 rw [this,e]
theorem find_rev_none {α:Type} {p:α→Bool} {l:List α} (h:∀ i (hi:i<l.length),p l[i]=false):l.reverse.find? p=none:=by
 rw [List.find?_eq_none]
 intro a ha
 obtain ⟨i,hi,rfl⟩:=List.mem_iff_getElem.1 (List.mem_reverse.1 ha)
 simp [h i hi]
section
variable {w0 w w':World} {D:Nat} {own:FV} {fs:List FV} {fv lv:Value} {L:List Loc} {at_:Int} {p0 p1 p2 p3 p4 p5:Value} {fc fa:Int} {st:Bool}
end
end chk
namespace chk
open Go.RowKit Go.Shelf
open syn face
attribute [local go_sem] Oper.semAt_some
set_option linter.unusedVariables false
set_option linter.unusedSimpArgs false
set_option maxRecDepth 100000
def Boxed4 (W:World) (B:Nat) (v:VarD):Prop:=W.heap[B]?=some (.cells #[.string v.name,.bool v.pub,.int .i64 v.label,.int .i64 v.size] 76 (0,0))
theorem Boxed4.lt {W:World} {B:Nat} {v:VarD} (h:Boxed4 W B v):B<W.heap.size:=(Array.getElem?_eq_some_iff.1 h).1
theorem Boxed4.kept {W W':World} {row:Option Nat} {B:Nat} {v:VarD} (h:Boxed4 W B v) (hg:W.grownBy W' row) (hne:some B≠row):Boxed4 W' B v:=(hg.block B h.lt hne).trans h
theorem Boxed4.alloc {W:World} {B:Nat} {v:VarD} (h:Boxed4 W B v) (o:Obj):Boxed4 (W.alloc o) B v:=h.kept (World.grownBy_alloc W o none) (by simp)
theorem Boxed4.new (W:World) (v:VarD):Boxed4 (W.alloc (.cells #[.string v.name,.bool v.pub,.int .i64 v.label,.int .i64 v.size] 76)) W.heap.size v:=World.alloc_heap_new W _
theorem boxed4_own {β:Type} (B:Nat) (f:β→VarD):Own (fun s W=>Boxed4 W B (f s)):=fun s X Y row hs hg hrow =>
 hs.kept hg (fun e'=>by obtain ⟨o,ho,hc⟩:=hrow B e'.symm;rw [show X.heap[B]?=_ from hs] at ho;cases ho;cases hc)
theorem Boxed4.cells {W:World} {B:Nat} {v:VarD} (h:Boxed4 W B v):W.cell? ⟨B,0,none⟩=some (.string v.name)∧W.cell? ⟨B,1,none⟩=some (.bool v.pub)∧W.cell? ⟨B,2,none⟩=some (.int .i64 v.label)∧W.cell? ⟨B,3,none⟩=some (.int .i64 v.size)∧∀ k,W.frozen? ⟨B,k,none⟩=false:=by
 refine ⟨?_,?_,?_,?_,?_⟩
 ·simp [World.cell?,show W.heap[B]?=_ from h]
 ·simp [World.cell?,show W.heap[B]?=_ from h]
 ·simp [World.cell?,show W.heap[B]?=_ from h]
 ·simp [World.cell?,show W.heap[B]?=_ from h]
 ·intro k;simp [World.frozen?,show W.heap[B]?=_ from h]
theorem Boxed4.below {W W':World} {n₀ B:Nat} {v:VarD} (h:Boxed4 W B v) (hb:Below n₀ W W') (hB:B<n₀):Boxed4 W' B v:=(hb.block B hB).trans h
theorem Boxed4.put {W:World} {B:Nat} {v0:VarD} (h:Boxed4 W B v0) (v:VarD):Boxed4 ((((W.setCell ⟨B,0,none⟩ (.string v.name)).setCell ⟨B,1,none⟩ (.bool v.pub)).setCell ⟨B,2,none⟩ (.int .i64 v.label)).setCell ⟨B,3,none⟩ (.int .i64 v.size)) B v:=by
 have h1:=heap_setCell_same W B 0 _ 76 (.string v.name) h
 have h2:=heap_setCell_same _ B 1 _ 76 (.bool v.pub) h1
 have h3:=heap_setCell_same _ B 2 _ 76 (.int .i64 v.label) h2
 exact heap_setCell_same _ B 3 _ 76 (.int .i64 v.size) h3
def zeroVar:VarD:=⟨⟨#[]⟩,false,0,0⟩
def locOf (vs:List VarD) (x:ByteArray):Option VarD:=vs.reverse.find? fun v=>eqS v.name x
def NoneIn (x:ByteArray) (pre:List (Nat × VarD)):Prop:=∀ y∈pre,eqS y.2.name x=false
def varP (kf:ByteArray→Option FV) (vs:List VarD) (x:ByteArray):Option VarD:=match locOf vs x with
 | some v=>some v
 | none=>match kf (modOf x) with
  | some q=>varIn q.1.vars (ownOf x)
  | none=>none
def VP (o:Option VarD) (a:Int) (w:World) (e:Ending) (w':World):Prop:=Below w.heap.size w w'∧match o with
 | some v=>e=.returned (varV v)
 | none=>e=.panicked (Thrown 4 a)
theorem bk_at {vs:List VarD} {k:Nat} (hk:k<vs.length):(bk vs k).2=vs[vs.length - 1 - k]:=by
 unfold bk
 rw [List.getElem?_eq_getElem (by omega),Option.getD_some]
theorem none_at {vs:List VarD} {x:ByteArray} {k:Nat} (hk:k≤vs.length) (hn:NoneIn x (upto (bk vs) k)) (i:Nat) (hi:i<vs.length) (h:vs.length≤i+k):eqS vs[i].name x=false:=by
 have:=hn (bk vs (vs.length - 1 - i)) (by unfold upto;exact List.mem_map.2 ⟨_,List.mem_range.2 (by omega),rfl⟩)
 rw [bk_at (by omega)] at this
 simpa [show vs.length - 1 - (vs.length - 1 - i)=i by omega] using this
theorem locOf_some {vs:List VarD} {x:ByteArray} {k:Nat} {pre':List (Nat × VarD)} {y:Nat × VarD} (hk:k≤vs.length) (h:upto (bk vs) k=pre'++[y]) (hn:NoneIn x pre') (hy:eqS y.2.name x=true):locOf vs x=some y.2:=by
 cases k with
 | zero=>exact absurd h (by unfold upto;simp)
 | succ k =>
  rw [upto_succ] at h
  have h2:=List.append_inj' h rfl
  have h3:bk vs k=y:=by have:=h2.2;simp only [List.cons.injEq,and_true] at this;exact this
  rw [← h2.1] at hn
  rw [← h3,bk_at (by omega)] at hy ⊢
  unfold locOf
  rw [find_rev (j:=vs.length - 1 - k) (by omega) (fun i hi h=>none_at (by omega) hn i hi (by omega)) hy]
theorem locOf_none {vs:List VarD} {x:ByteArray} (hn:NoneIn x (upto (bk vs) vs.length)):locOf vs x=none:=by
 unfold locOf
 exact find_rev_none (fun i hi=>none_at (jE _) hn i hi (by omega))
theorem modOf_le {x:ByteArray} (h:LongN x):(modOf x).size≤maxLen:=by
 have hs:=long_size h
 rcases long_cases h with ⟨_,h2,_⟩|⟨a,b,h1,_,_,_,h2,_⟩
 ·rw [h2];exact Nat.zero_le _
 ·rw [h2]
  have e:x.size=x.data.toList.length:=rfl
  rw [h1] at e
  have e2:ByteArray.size ⟨a.toArray⟩=a.length:=by simp [ByteArray.size]
  rw [e2]
  simp at e
  unfold maxLen
  omega
theorem below_put {w W:World} {n d:Nat} (h:Below n w W) (hd:n≤d) {o:Obj} (o':Obj) (ho:W.heap[d]?=some o):Below n w (W.putObj d o'):=h.trans ((Below.refl n W).grown (grownBy_putObj' W d o') (by have:=(Array.getElem?_eq_some_iff.1 ho).1;omega) (fun k e=>by cases e;omega))
theorem field3 (a b c:Value) (w:World):(Instr.field 44 (.agg #[a,b,c]) 1).run Tryz.prog w=.ok b w:=by kernel_rfl
theorem Boxed4.result {W:World} {v:VarD} {a0 a1 a2 a3 a4 a5:Value} (tl:List Value) (B:Nat) (h:Boxed4 W B v):(results Tryz.f202 (List.toArray (a0 :: a1 :: a2 :: a3 :: a4 :: a5 :: .pointer (some ⟨B,0,none⟩) :: tl))).run Tryz.prog W=.ok (varV v) W:=by
 obtain ⟨z0,z1,z2,z3,zf⟩:=h.cells
 unfold varV
 simp [results,Tryz.f202,go_sem,z0,z1,z2,z3]
set_option maxHeartbeats 2000000 in
theorem oVariable_in (D Kb kn:Nat) (kf:ByteArray→Option FV) (vs:List VarD) (u:Value) (x:ByteArray) (at_:Int) (w:World) (h5:w.cell? ⟨D,5,none⟩=some (.map (some Kb))) (h6:w.cell? ⟨D,6,none⟩=some u) (hK:MapF w Kb kn (fun z=>fvO (kf z))) (hkf:∀ z q,kf z=some q→FaceIn w (fvV q) q.1) (hR:RowV w.heap.size w u vs) (hlen:vs.length≤1000) (hx:LongN x) (hm:HasMax w) :
  CallsIn Fence.wide 3 Tryz.prog 202 #[.pointer (some ⟨D,0,none⟩),.string x,.int .i64 at_] w fun e w'=>VP (varP kf vs x) at_ w e w':=by
 obtain ⟨V,HV⟩:∃ V,Hid (varP kf vs x=V):=⟨_,rfl⟩
 rw [HV.out]
 have c3:Tryz.prog.cellsOf 44=3:=cell3
 have c4:Tryz.prog.cellsOf 76=4:=cell4
 have hdl:D<w.heap.size:=World.block_lt_of_cell? w ⟨D,5,none⟩ h5
 obtain ⟨ua,uc,rfl,huk⟩:=id hR
 refine callsIn_of_wp_marks Tryz.func202 rfl trivial ?_ rfl
 simp only [Tryz.ntmps202,List.size_toArray,List.length_cons,List.length_nil,Nat.reduceAdd,Nat.reduceSub,Array.replicate_succ,Array.replicate_zero,List.push_toArray,List.append_toArray,List.nil_append,List.cons_append]
 gi_wp2_with (refine ⟨trivial,?_⟩;gi_at_call 227;refine (back_in Fence.wide 2 trivial rfl _ _ _ _).mono ?_;rintro e w' ⟨rfl,rfl⟩)
 have bS:Boxed (((w.alloc (.cells #[.string x] 9)).alloc (.cells #[.string ⟨#[]⟩,.bool false,.int .i64 0,.int .i64 0] 76)).alloc (.cells #[.slice ua vs.length uc] 41)) w.heap.size 9 (.string x):=((Boxed.new w 9 (.string x)).alloc _).alloc _
 have bR:Boxed4 (((w.alloc (.cells #[.string x] 9)).alloc (.cells #[.string ⟨#[]⟩,.bool false,.int .i64 0,.int .i64 0] 76)).alloc (.cells #[.slice ua vs.length uc] 41)) (w.heap.size+1) zeroVar:=by
  have:=(Boxed4.new (w.alloc (.cells #[.string x] 9)) zeroVar).alloc (.cells #[.slice ua vs.length uc] 41)
  rw [World.size_alloc] at this
  exact this
 have bN:Boxed (((w.alloc (.cells #[.string x] 9)).alloc (.cells #[.string ⟨#[]⟩,.bool false,.int .i64 0,.int .i64 0] 76)).alloc (.cells #[.slice ua vs.length uc] 41)) (w.heap.size+1+1) 41 (.slice ua vs.length uc):=by
  have:=Boxed.new ((w.alloc (.cells #[.string x] 9)).alloc (.cells #[.string ⟨#[]⟩,.bool false,.int .i64 0,.int .i64 0] 76)) 41 (.slice ua vs.length uc)
  rw [World.size_alloc,World.size_alloc] at this
  exact this
 have hB0:Below w.heap.size w (((w.alloc (.cells #[.string x] 9)).alloc (.cells #[.string ⟨#[]⟩,.bool false,.int .i64 0,.int .i64 0] 76)).alloc (.cells #[.slice ua vs.length uc] 41)):=(((Below.refl _ w).alloc (jE _) _).alloc (by simp) _).alloc (by simp;omega) _
 have hR3:=(hR.below hB0).mono (n₁:=w.heap.size+1+1+1) (by omega)
 have hs3:(((w.alloc (.cells #[.string x] 9)).alloc (.cells #[.string ⟨#[]⟩,.bool false,.int .i64 0,.int .i64 0] 76)).alloc (.cells #[.slice ua vs.length uc] 41)).heap.size=w.heap.size+1+1+1:=by simp
 obtain ⟨W3,hW3⟩:∃ W3,((w.alloc (.cells #[.string x] 9)).alloc (.cells #[.string ⟨#[]⟩,.bool false,.int .i64 0,.int .i64 0] 76)).alloc (.cells #[.slice ua vs.length uc] 41)=W3:=⟨_,rfl⟩
 rw [hW3] at bS bR bN hB0 hR3 hs3 ⊢
 refine wpIn_rangeFunc_ownH rfl (by omega) (gf:=241) (lb:=#[.pointer (some ⟨w.heap.size+1+1,0,none⟩)]) rfl trivial (enters_of Tryz.func241 (by kernel_rfl) rfl)
  (back_stops Fence.wide 2 trivial rfl (by omega) (w.heap.size+1+1) (w.heap.size+1+1+1) _ vs hlen W3 (by omega) (by omega) bN.cell hR3) belowK_t (belowK_b (by omega)) (Below.refl _ _) (fun _=>rfl)
  (fun pre W=>(Boxed W w.heap.size 9 (.string x)∧Boxed4 W (w.heap.size+1) zeroVar)∧(Below w.heap.size w W∧(NoneIn x pre∧w.heap.size+1+1+1≤W.heap.size)))
  (fun c pre W=>Boxed4 W (w.heap.size+1) (((pre.getLast?).map (·.2)).getD zeroVar)∧(Below w.heap.size w W∧(c=.ret∧∃ pre' y,pre=pre'++[y]∧NoneIn x pre'∧eqS y.2.name x=true)))
  ?hI ?hIx ?h0
  (fun y a' W=>∃ Bx,w.heap.size+1+1+1≤Bx∧Boxed4 W Bx y.2∧a'={ tmps:=#[.pointer (some ⟨D,0,none⟩),.string x,.int .i64 at_,undef,.pointer (some ⟨w.heap.size,0,none⟩),undef,.pointer (some ⟨w.heap.size+1,0,none⟩),undef,.pointer (some ⟨Bx,0,none⟩),undef,undef,undef,undef,.pointer (some ⟨D,0,none⟩),.pointer (some ⟨D,0,none⟩),.pointer (some ⟨D,6,none⟩),.slice ua vs.length uc,.func (.func 241) #[] #[.pointer (some ⟨w.heap.size+1+1,0,none⟩)],.int .i64 (y.1:Int),.agg #[.string y.2.name,.bool y.2.pub,.int .i64 y.2.label,.int .i64 y.2.size],undef,undef,undef,undef,undef,undef,undef,undef,undef,undef,undef,undef,undef,undef,undef,undef,undef,undef,undef,undef,undef,undef,undef,undef,undef,undef,undef,undef,undef,undef,undef],defers:=[] }) ?hAx ?assign ?body ?done ?stop
 case hI =>
  refine OwnFrom.and (Own.from (fun s A B row hs hg hr=>?_) _) (OwnFrom.and (ownFrom_below (jE _) (by omega)) (fun s A B row hs hg hr=>⟨hs.1,Nat.le_trans hs.2 hg.size⟩))
  exact ⟨boxed_own w.heap.size 9 (fun _:Unit=>.string x) () A B row hs.1 hg hr,boxed4_own (w.heap.size+1) (fun _:Unit=>zeroVar) () A B row hs.2 hg hr⟩
 case hIx =>
  intro c
  refine OwnFrom.and (Own.from (fun s A B row hs hg hr=>?_) _) (OwnFrom.and (ownFrom_below (jE _) (by omega)) (fun s A B row hs hg hr=>hs))
  exact boxed4_own (w.heap.size+1) (fun pre:List (Nat × VarD)=>((pre.getLast?).map (·.2)).getD zeroVar) s A B row hs hg hr
 case h0=>exact ⟨⟨bS,bR⟩,hB0,(fun y hy=>by cases hy),by omega⟩
 case hAx =>
  intro y a'
  refine Own.from (fun s A B row hs hg hr=>?_) _
  obtain ⟨Bx,h1,h2,h3⟩:=hs
  exact ⟨Bx,h1,boxed4_own Bx (fun _:Unit=>y.2) () A B row h2 hg hr,h3⟩
 case assign =>
  rintro l pre y W K ⟨⟨b1,b2⟩,hB,hN,hlo⟩ hKK
  have hsz:=b2.lt
  unfold encV varV
  dsimp only
  simp only [List.zip_toArray,List.zip_cons_cons,List.zip_nil_right,List.foldl_toArray,List.foldl_cons,List.foldl_nil,List.setIfInBounds_toArray,List.set_cons_zero,List.set_cons_succ]
  gi_wp2
  exact hKK _ _ ((KeepsOthers.alloc _ _).from _) ((Below.refl _ W).alloc hlo _) ⟨⟨b1.alloc _,b2.alloc _⟩,hB.alloc hB.size _,hN,by simp;omega⟩ ⟨W.heap.size,hlo,Boxed4.new W y.2,rfl⟩
 case body =>
  rintro l pre y a' W hl ⟨r,hr⟩ ⟨⟨b1,b2⟩,hB,hN,hlo⟩ ⟨Bx,hBx,bX,rfl⟩ hlt
  obtain ⟨z0,z1,z2,z3,zf⟩:=bX.cells
  obtain ⟨r0,r1,r2,r3,rf⟩:=b2.cells
  have k0:=b1.cell
  have rf0:=rf 0
  have rf1:=rf 1
  have rf2:=rf 2
  have rf3:=rf 3
  cases heq:eqS y.2.name x
  ·have hc:(y.2.name.toList==x.toList)=false:=heq
   have HN2:Hid (NoneIn x (pre++[y])):=fun z hz=>by
    rw [List.mem_append] at hz
    rcases hz with hz | hz
    ·exact hN z hz
    ·simp only [List.mem_singleton] at hz;subst hz;exact heq
   gi_wp2
   exact ⟨(KeepsOthers.refl _).from _,Below.refl _ _,⟨b1,b2⟩,hB,HN2.out,hlo⟩
  ·have hc:(y.2.name.toList==x.toList)=true:=heq
   have HN2:Hid (NoneIn x pre):=hN
   have HP:Hid (Boxed4 ((((W.setCell ⟨w.heap.size+1,0,none⟩ (.string y.2.name)).setCell ⟨w.heap.size+1,1,none⟩ (.bool y.2.pub)).setCell ⟨w.heap.size+1,2,none⟩ (.int .i64 y.2.label)).setCell ⟨w.heap.size+1,3,none⟩ (.int .i64 y.2.size)) (w.heap.size+1) y.2):=b2.put y.2
   gi_wp2
   refine ⟨((((KeepsOthers.setCell _ _ _).trans (KeepsOthers.setCell _ _ _)).trans (KeepsOthers.setCell _ _ _)).trans (KeepsOthers.setCell _ _ _)).from _,?_,(((hB.setCell (Nat.le_succ _) _).setCell (Nat.le_succ _) _).setCell (Nat.le_succ _) _).setCell (Nat.le_succ _) _,rfl,pre,y,rfl,HN2.out,heq⟩
   rw [List.getLast?_append]
   exact HP.out
 case done =>
  rintro DD xs W hD hS ⟨⟨b1,b2⟩,hB,hN,hlo⟩ hdef
  have k0:=b1.cell
  have hS2:=oSplit x W hx (hasMax_below hm hB)
  have hms:(modOf x).size≤maxLen:=modOf_le hx
  have hloc:locOf vs x=none:=by rw [show xs=_ from hS] at hN;exact locOf_none hN
  have hdef0:=hdef
  cases hq:kf (modOf x) with
  | none =>
   gi_wp2_with (refine ⟨trivial,?_⟩;gi_at_call 228;refine ((callsIn_wide (n:=2)).2 hS2).mono ?_;rintro e w' ⟨rfl,hb⟩;have h5':w'.cell? ⟨D,5,none⟩=some (.map (some Kb)):=(hB.trans (hb.mono hB.size)).cell (p:=⟨D,5,none⟩) hdl |>.trans h5;have hl:=(hK.below (hB.trans (hb.mono hB.size))).look (modOf x) hms;rw [hq] at hl;simp only [fvO,Option.map_none,Option.getD_none,noFaceV] at hl;have hfd:=field3 (.string ⟨#[]⟩) (.slice none 0 0) (.slice none 0 0) w')
   have HN:Hid (V=none):=by
    show _=_
    rw [← HV.out]
    unfold varP
    rw [hloc,hq]
   have HB2:Hid (Below w.heap.size w w'):=hB.trans (hb.mono hB.size)
   have hdef2:Hid (w'.heap[DD]?=some (.deferred (some []))):=(hb.block DD (Array.getElem?_eq_some_iff.1 hdef).1).trans hdef
   clear hl hfd hS2 hq hb
   gi_loopw [38] (fun t wr=>t=.int .i64 0∧wr=w') (fun _ _=>0)
   case atStart=>exact ⟨rfl,rfl⟩
   case round =>
    obtain ⟨rfl,rfl⟩:=hrel
    gi_wp2_with (refine ⟨trivial,?_⟩;gi_at_call 131;refine ((callsIn_wide (n:=2)).2 (oRefuseC 4 at_ wr)).mono ?_;rintro e w1 ⟨rfl,rfl⟩)
    refine ⟨by simp,.inl ⟨_,_,rfl,run_takeDeferred hdef2.out,?_⟩⟩
    refine ⟨below_put HB2.out (by omega) _ hdef2.out,?_⟩
    rw [HN.out]
  | some q =>
   have hF:=(hkf _ q hq).below hB
   have HE:Hid (V=varIn q.1.vars (ownOf x)):=by
    show _=_
    rw [← HV.out]
    unfold varP
    rw [hloc,hq]
   have hl0:=fun W2 hb2=>(hK.below hb2:MapF W2 _ _ _).look (modOf x) hms
   rw [hq] at hl0
   simp only [fvO,Option.map_some,Option.getD_some] at hl0
   obtain ⟨a1,d1,a2,d2,hsh⟩:=fv_shape hF
   obtain ⟨_,_,ee,hVi,_⟩:=id hF
   rw [hsh] at hl0 ee
   have ee2:_=_:=ee
   unfold fvV at ee2 hl0
   injection ee2 with ee2
   simp only [Array.mk.injEq,List.cons.injEq,and_true,true_and] at ee2
   obtain ⟨rfl,rfl⟩:=ee2
   clear ee hsh hF
   dsimp only at hl0
   generalize q.1=f at *
   obtain ⟨_,_,ee3,hvl,hvk⟩:=hVi
   injection ee3 with ee3 _ ee4
   obtain rfl:=ee3
   obtain rfl:=ee4
   gi_wp2_with (refine ⟨trivial,?_⟩;gi_at_call 228;refine ((callsIn_wide (n:=2)).2 hS2).mono ?_;rintro e w' ⟨rfl,hb⟩;have h5':w'.cell? ⟨D,5,none⟩=some (.map (some Kb)):=(hB.trans (hb.mono hB.size)).cell (p:=⟨D,5,none⟩) hdl |>.trans h5;have hl:=hl0 w' (hB.trans (hb.mono hB.size));have hfd:=field3 (.string f.module) (.slice a1 f.vars.length d1) (.slice a2 f.procs.length d2) w')
   have hvk2:f.vars≠[]→∃ g o,a1=some ⟨g,o,none⟩∧∀ (W2:World),Below w'.heap.size w' W2→∀ i (h:i<f.vars.length),W2.cell? ⟨g,o+i*4,none⟩=some (.string f.vars[i].name)∧W2.cell? ⟨g,o+i*4+1,none⟩=some (.bool f.vars[i].pub)∧W2.cell? ⟨g,o+i*4+2,none⟩=some (.int .i64 f.vars[i].label)∧W2.cell? ⟨g,o+i*4+3,none⟩=some (.int .i64 f.vars[i].size):=fun hne=>by
    obtain ⟨g,o,e1,hc⟩:=hvk hne
    refine ⟨g,o,e1,fun W2 hb2 i hi=>?_⟩
    obtain ⟨e0,e1,e2,e3⟩:=hc i hi
    have hb3:=hb.trans (hb2.mono hb.size)
    exact ⟨keep e0 hb3,keep e1 hb3,keep e2 hb3,keep e3 hb3⟩
   have HB2:Hid (Below w.heap.size w w'):=hB.trans (hb.mono hB.size)
   have hdef2:Hid (w'.heap[DD]?=some (.deferred (some []))):=(hb.block DD (Array.getElem?_eq_some_iff.1 hdef).1).trans hdef
   have hbz:Boxed4 w' (w.heap.size+1) zeroVar:=b2.below hb b2.lt
   have hws:=hb.size
   have hDl:DD<w'.heap.size:=Nat.lt_of_lt_of_le (Array.getElem?_eq_some_iff.1 hdef).1 hws
   generalize ownOf x=ox at *
   clear hl hl0 hfd hS2 hq hb hvk hB hdef hdef0 b1 b2 k0
   gi_loopw [38] (fun t wr=>∃ j:Nat,j≤f.vars.length∧t=.int .i64 j∧Hid (∀ i (hi:i<f.vars.length),i<j→eqS f.vars[i].name ox=false)∧Below w'.heap.size w' wr) (fun t _=>f.vars.length - (intOf t).toNat)
   case atStart=>exact ⟨0,Nat.zero_le _,rfl,fun i hi h=>absurd h (by omega),Below.refl _ _⟩
   case round =>
    obtain ⟨j,hj,rfl,HN,hbr⟩:=hrel
    have hbr2:Hid (Below w'.heap.size w' wr):=hbr
    by_cases hlt:j<f.vars.length
    ·obtain ⟨g,o,rfl,hcs⟩:=hvk2 (by intro e;rw [e] at hlt;simp at hlt)
     obtain ⟨q0,q1,q2,q3⟩:=hcs wr hbr j hlt
     have hz:Boxed4 wr (w.heap.size+1) zeroVar:=hbz.below hbr (by have:=hbz.lt;omega)
     have HF:Hid (∀ b,eqS f.vars[j].name ox=b→b=true→V=some f.vars[j]):=fun b h1 h2=>by
      rw [HE.out]
      unfold varIn
      exact find_take hlt (fun i hi h=>HN.out i hi h) (h1.trans h2)
     have HS:Hid (∀ b,eqS f.vars[j].name ox=b→b=false→∀ i (hi:i<f.vars.length),i<j+1→eqS f.vars[i].name ox=false):=fun b h1 h2 i hi h=>by
      rcases Nat.lt_or_ge i j with h' | h'
      ·exact HN.out i hi h'
      ·obtain rfl:i=j:=by omega
       exact h1.trans h2
     clear hcs hvk2
     generalize f.vars[j]=v at *
     cases heq:eqS v.name ox
     ·have hc:(v.name.toList==ox.toList)=false:=heq
      have HS2:=HS.out _ heq rfl
      clear HS HF
      gi_wp2
      exact ⟨⟨j+1,by omega,by simp,HS2,hbr2.out.alloc hbr2.out.size _⟩,by simp [intOf];omega⟩
     ·have hc:(v.name.toList==ox.toList)=true:=heq
      have HF2:Hid (V=some v):=HF.out _ heq rfl
      clear HS HF
      have hz2:=hz.alloc (.cells #[.string v.name,.bool v.pub,.int .i64 v.label,.int .i64 v.size] 76)
      obtain ⟨r0,r1,r2,r3,rf⟩:=hz2.cells
      have rf0:=rf 0
      have rf1:=rf 1
      have rf2:=rf 2
      have rf3:=rf 3
      have hne:DD≠w.heap.size+1:=by omega
      have HP:Hid (Boxed4 (((((wr.alloc (.cells #[.string v.name,.bool v.pub,.int .i64 v.label,.int .i64 v.size] 76)).setCell ⟨w.heap.size+1,0,none⟩ (.string v.name)).setCell ⟨w.heap.size+1,1,none⟩ (.bool v.pub)).setCell ⟨w.heap.size+1,2,none⟩ (.int .i64 v.label)).setCell ⟨w.heap.size+1,3,none⟩ (.int .i64 v.size)) (w.heap.size+1) v):=hz2.put v
      have HD4:Hid ((((((wr.alloc (.cells #[.string v.name,.bool v.pub,.int .i64 v.label,.int .i64 v.size] 76)).setCell ⟨w.heap.size+1,0,none⟩ (.string v.name)).setCell ⟨w.heap.size+1,1,none⟩ (.bool v.pub)).setCell ⟨w.heap.size+1,2,none⟩ (.int .i64 v.label)).setCell ⟨w.heap.size+1,3,none⟩ (.int .i64 v.size)).heap[DD]?=some (.deferred (some []))) :=
       (Below.heap_setCell _ ⟨w.heap.size+1,3,none⟩ _ DD hne).trans ((Below.heap_setCell _ ⟨w.heap.size+1,2,none⟩ _ DD hne).trans ((Below.heap_setCell _ ⟨w.heap.size+1,1,none⟩ _ DD hne).trans ((Below.heap_setCell _ ⟨w.heap.size+1,0,none⟩ _ DD hne).trans (((hbr2.out.alloc hbr2.out.size _).block DD hDl).trans hdef2.out))))
      have HB4:Hid (Below w.heap.size w (((((wr.alloc (.cells #[.string v.name,.bool v.pub,.int .i64 v.label,.int .i64 v.size] 76)).setCell ⟨w.heap.size+1,0,none⟩ (.string v.name)).setCell ⟨w.heap.size+1,1,none⟩ (.bool v.pub)).setCell ⟨w.heap.size+1,2,none⟩ (.int .i64 v.label)).setCell ⟨w.heap.size+1,3,none⟩ (.int .i64 v.size))) :=
       ((((HB2.out.trans ((hbr2.out.alloc hbr2.out.size _).mono HB2.out.size)).setCell (Nat.le_succ _) _).setCell (Nat.le_succ _) _).setCell (Nat.le_succ _) _).setCell (Nat.le_succ _) _
      gi_wp2
      generalize (((((wr.alloc (.cells #[.string v.name,.bool v.pub,.int .i64 v.label,.int .i64 v.size] 76)).setCell ⟨w.heap.size+1,0,none⟩ (.string v.name)).setCell ⟨w.heap.size+1,1,none⟩ (.bool v.pub)).setCell ⟨w.heap.size+1,2,none⟩ (.int .i64 v.label)).setCell ⟨w.heap.size+1,3,none⟩ (.int .i64 v.size))=W4 at *
      refine ⟨by simp,.inl ⟨_,_,rfl,run_takeDeferred HD4.out,?_⟩⟩
      have bx4:Boxed4 (W4.putObj DD (.deferred none)) (w.heap.size+1) v:=(World.putObj_heap_other (k:=w.heap.size+1) (by omega)).trans HP.out
      refine ⟨varV v,bx4.result _ _,below_put HB4.out (by omega) _ HD4.out,?_⟩
      rw [HF2.out]
    ·obtain rfl:j=f.vars.length:=by omega
     have HN2:Hid (V=none):=by
      show _=_
      rw [HE.out]
      unfold varIn
      exact find_none fun i hi=>HN.out i hi hi
     have hd3:Hid (wr.heap[DD]?=some (.deferred (some []))):=(hbr.block DD hDl).trans hdef2.out
     have HB3:Hid (Below w.heap.size w wr):=HB2.out.trans (hbr.mono HB2.out.size)
     gi_wp2_with (refine ⟨trivial,?_⟩;gi_at_call 131;refine ((callsIn_wide (n:=2)).2 (oRefuseC 4 at_ wr)).mono ?_;rintro e w1 ⟨rfl,rfl⟩)
     refine ⟨by simp,.inl ⟨_,_,rfl,run_takeDeferred hd3.out,?_⟩⟩
     refine ⟨below_put HB3.out (by omega) _ hd3.out,?_⟩
     rw [HN2.out]
 case stop =>
  rintro DD c pre W hD ⟨kk,hkk,rfl⟩ ⟨bx,hB,rfl,pre',y,e,hn,hy⟩ hdef
  rw [e] at bx
  simp only [List.getLast?_append,List.getLast?_singleton,Option.some_or,Option.map_some,Option.getD_some] at bx
  obtain ⟨z0,z1,z2,z3,zf⟩:=bx.cells
  have HB2:=below_put hB (Nat.le_trans (by omega) hD) (.deferred none) hdef
  have bx2:Boxed4 (W.putObj DD (.deferred none)) (w.heap.size+1) y.2:=(World.putObj_heap_other (k:=w.heap.size+1) (by omega)).trans bx
  obtain ⟨y0,y1,y2,y3,yf⟩:=bx2.cells
  gi_wp2
  refine ⟨by simp,.inl ⟨_,_,rfl,run_takeDeferred hdef,?_⟩⟩
  refine ⟨varV y.2,?_,HB2,?_⟩
  ·exact bx2.result _ _
  ·have hv:V=some y.2:=by
    rw [← HV.out]
    unfold varP
    rw [locOf_some hkk e hn hy]
   rw [hv]
theorem oVariable (D Kb kn:Nat) (kf:ByteArray→Option FV) (vs:List VarD) (u:Value) (x:ByteArray) (at_:Int) (w:World) (h5:w.cell? ⟨D,5,none⟩=some (.map (some Kb))) (h6:w.cell? ⟨D,6,none⟩=some u) (hK:MapF w Kb kn (fun z=>fvO (kf z))) (hkf:∀ z q,kf z=some q→FaceIn w (fvV q) q.1) (hR:RowV w.heap.size w u vs) (hlen:vs.length≤1000) (hx:LongN x) (hm:HasMax w) :
  Calls Tryz.prog 202 #[.pointer (some ⟨D,0,none⟩),.string x,.int .i64 at_] w fun e w'=>VP (varP kf vs x) at_ w e w' :=
 (callsIn_wide (n:=3)).1 (oVariable_in D Kb kn kf vs u x at_ w h5 h6 hK hkf hR hlen hx hm)
def procP (kf:ByteArray→Option FV) (x:ByteArray):Option ProcD:=match kf (modOf x) with
 | some q=>procIn q.1.procs (ownOf x)
 | none=>none
def PP (o:Option ProcD) (a:Int) (w:World) (e:Ending) (w':World):Prop:=Below w.heap.size w w'∧match o with
 | some p=>∃ u,e=.returned (procV p u)∧IntsIn w' u p.params
 | none=>e=.panicked (Thrown 4 a)
theorem PP_none {o:Option ProcD} {a:Int} {w w':World} (h:o=none) (hb:Below w.heap.size w w'):PP o a w (.panicked (Thrown 4 a)) w':=by rw [h];exact ⟨hb,rfl⟩
theorem PP_some {o:Option ProcD} {p:ProcD} {u:Value} {a:Int} {e:Ending} {w w':World} (h:o=some p) (hb:Below w.heap.size w w') (he:e=.returned (procV p u)) (hu:IntsIn w' u p.params):PP o a w e w':=by rw [h];exact ⟨hb,u,he,hu⟩
theorem field3b (a b c:Value) (w:World):(Instr.field 44 (.agg #[a,b,c]) 2).run Tryz.prog w=.ok c w:=by kernel_rfl
set_option maxHeartbeats 2000000 in
theorem oProcedure (D Kb kn:Nat) (kf:ByteArray→Option FV) (x:ByteArray) (at_:Int) (w:World) (h5:w.cell? ⟨D,5,none⟩=some (.map (some Kb))) (hK:MapF w Kb kn (fun z=>fvO (kf z))) (hkf:∀ z q,kf z=some q→FaceIn w (fvV q) q.1) (hx:LongN x) (hm:HasMax w) :
  Calls Tryz.prog 203 #[.pointer (some ⟨D,0,none⟩),.string x,.int .i64 at_] w fun e w'=>PP (procP kf x) at_ w e w':=by
 obtain ⟨V,HV⟩:∃ V,Hid (procP kf x=V):=⟨_,rfl⟩
 rw [HV.out]
 have c3:Tryz.prog.cellsOf 44=3:=cell3
 have c6:Tryz.prog.cellsOf 80=6:=cell6
 have hdl:D<w.heap.size:=World.block_lt_of_cell? w ⟨D,5,none⟩ h5
 have hms:(modOf x).size≤maxLen:=modOf_le hx
 have hB0:Below w.heap.size w (w.alloc (.cells #[.string ⟨#[]⟩,.bool false,.slice none 0 0,.int .i64 0,.bool false,.int .i64 0] 80)):=bal _
 have hBR:=Box6.new w (.string ⟨#[]⟩) (.bool false) (.slice none 0 0) (.int .i64 0) (.bool false) (.int .i64 0) 80
 have hS2:=oSplit x _ hx (hasMax_below hm hB0)
 cases hq:kf (modOf x) with
 | none =>
  have HN:Hid (V=none):=by
   show _=_
   rw [← HV.out]
   unfold procP
   rw [hq]
  go_enter Tryz.func203,Tryz.ntmps203
  go_wp2_with (go_at_call 228;refine hS2.mono ?_;rintro e w1 ⟨rfl,hb⟩;have hb1:=hB0.trans (hb.mono hB0.size);have h5':w1.cell? ⟨D,5,none⟩=some (.map (some Kb)):=(hb1.cell (p:=⟨D,5,none⟩) hdl).trans h5;have hl:=(hK.below hb1).look (modOf x) hms;rw [hq] at hl;simp only [fvO,Option.map_none,Option.getD_none,noFaceV] at hl;have hfd:=field3b (.string ⟨#[]⟩) (.slice none 0 0) (.slice none 0 0) w1)
  have HB:Hid (Below w.heap.size w w1):=hb1
  clear hl hfd hS2 hq hb hBR hB0 hb1
  go_loopw [24] (fun t wr=>t=.int .i64 0∧wr=w1) (fun _ _=>0)
  case atStart=>exact ⟨rfl,rfl⟩
  case round =>
   obtain ⟨rfl,rfl⟩:=hrel
   go_wp2_with (go_at_call 131;refine (oRefuseC 4 at_ wr).mono ?_;rintro e w2 ⟨rfl,rfl⟩)
   exact ⟨rfl,PP_none HN.out HB.out⟩
 | some q =>
  have hF:=hkf _ q hq
  have HE:Hid (V=procIn q.1.procs (ownOf x)):=by
   show _=_
   rw [← HV.out]
   unfold procP
   rw [hq]
  have hl0:=fun W2 hb2=>(hK.below hb2:MapF W2 _ _ _).look (modOf x) hms
  rw [hq] at hl0
  simp only [fvO,Option.map_some,Option.getD_some] at hl0
  obtain ⟨a1,d1,a2,d2,hsh⟩:=fv_shape hF
  obtain ⟨_,_,ee,_,hPi⟩:=id hF
  rw [hsh] at hl0 ee
  have ee2:_=_:=ee
  unfold fvV at ee2 hl0
  injection ee2 with ee2
  simp only [Array.mk.injEq,List.cons.injEq,and_true,true_and] at ee2
  obtain ⟨rfl,rfl⟩:=ee2
  clear ee hsh hF
  dsimp only at hl0
  generalize q.1=f at *
  obtain ⟨_,_,ee3,hvl,hvk⟩:=hPi
  injection ee3 with ee3 _ ee4
  obtain rfl:=ee3
  obtain rfl:=ee4
  go_enter Tryz.func203,Tryz.ntmps203
  go_wp2_with (go_at_call 228;refine hS2.mono ?_;rintro e w1 ⟨rfl,hb⟩;have hb1:=hB0.trans (hb.mono hB0.size);have h5':w1.cell? ⟨D,5,none⟩=some (.map (some Kb)):=(hb1.cell (p:=⟨D,5,none⟩) hdl).trans h5;have hl:=hl0 w1 hb1;have hfd:=field3b (.string f.module) (.slice a1 f.vars.length d1) (.slice a2 f.procs.length d2) w1)
  have HB:Hid (Below w.heap.size w w1):=hb1
  have hbz:=hBR.below hb
  generalize ownOf x=ox at *
  clear hl hl0 hfd hS2 hq hb hBR hB0 hb1
  go_loopw [24] (fun t wr=>∃ j:Nat,j≤f.procs.length∧t=.int .i64 j∧Hid (∀ i (hi:i<f.procs.length),i<j→eqS f.procs[i].name ox=false)∧Below w1.heap.size w1 wr) (fun t _=>f.procs.length - (intOf t).toNat)
  case atStart=>exact ⟨0,Nat.zero_le _,rfl,fun i hi h=>absurd h (by omega),Below.refl _ _⟩
  case round =>
   obtain ⟨j,hj,rfl,HN,hbr⟩:=hrel
   have hbr2:Hid (Below w1.heap.size w1 wr):=hbr
   have HB3:Hid (Below w.heap.size w wr):=HB.out.trans (hbr.mono HB.out.size)
   by_cases hlt:j<f.procs.length
   ·obtain ⟨g,o,rfl,hc⟩:=hvk (by intro e;rw [e] at hlt;simp at hlt)
    obtain ⟨e0,e1,⟨u,e2,hu⟩,e3,e4,e5⟩:=hc j hlt
    have k0:=keep e0 HB3.out
    have k1:=keep e1 HB3.out
    have k2:=keep e2 HB3.out
    have k3:=keep e3 HB3.out
    have k4:=keep e4 HB3.out
    have k5:=keep e5 HB3.out
    have HF:Hid (∀ b,eqS f.procs[j].name ox=b→b=true→V=some f.procs[j]):=fun b h1 h2=>by
     rw [HE.out]
     exact find_take hlt (fun i hi h=>HN.out i hi h) (h1.trans h2)
    have HS:Hid (∀ b,eqS f.procs[j].name ox=b→b=false→∀ i (hi:i<f.procs.length),i<j+1→eqS f.procs[i].name ox=false):=fun b h1 h2 i hi h=>by
     rcases Nat.lt_or_ge i j with h' | h'
     ·exact HN.out i hi h'
     ·obtain rfl:i=j:=by omega
      exact h1.trans h2
    clear e0 e1 e2 e3 e4 e5 hc hvk
    generalize f.procs[j]=v at *
    have hu':=hu
    obtain ⟨ua,uc,rfl,_,_⟩:=hu'
    have hz:=hbz.below hbr
    cases heq:eqS v.name ox
    ·have hc:(v.name.toList==ox.toList)=false:=heq
     have HS2:=HS.out _ heq rfl
     clear HS HF hz
     go_wp2
     exact ⟨⟨j+1,by omega,by simp,HS2,hbr2.out.alloc hbr2.out.size _⟩,by simp [intOf];omega⟩
    ·have hc:(v.name.toList==ox.toList)=true:=heq
     have HF2:Hid (V=some v):=HF.out _ heq rfl
     clear HS HF
     obtain ⟨t0,t1,t2,t3,t4,t5,t6,t7,t8,t9,t10,t11⟩:=hz.alloc (.cells #[.string v.name,.bool v.pub,.slice ua v.params.length uc,.int .i64 v.writes,.bool v.gives,.int .i64 v.given] 80)
     have hBB:Below w.heap.size w (((((((wr.alloc (.cells #[.string v.name,.bool v.pub,.slice ua v.params.length uc,.int .i64 v.writes,.bool v.gives,.int .i64 v.given] 80)).setCell ⟨w.heap.size,0,none⟩ (.string v.name)).setCell ⟨w.heap.size,1,none⟩ (.bool v.pub)).setCell ⟨w.heap.size,2,none⟩ (.slice ua v.params.length uc)).setCell ⟨w.heap.size,3,none⟩ (.int .i64 v.writes)).setCell ⟨w.heap.size,4,none⟩ (.bool v.gives)).setCell ⟨w.heap.size,5,none⟩ (.int .i64 v.given)):=((((((HB3.out.alloc HB3.out.size _).setCell (jE _) _).setCell (jE _) _).setCell (jE _) _).setCell (jE _) _).setCell (jE _) _).setCell (jE _) _
     go_wp2
     refine bodyPost_ret (v:=procV v (.slice ua v.params.length uc)) (by simp [results,Tryz.results203,go_sem,t0,t1,t2,t3,t4,t5,procV]) rfl ?_
     exact PP_some HF2.out hBB rfl (hu.below hBB)
   ·obtain rfl:j=f.procs.length:=by omega
    have HN2:Hid (V=none):=by
     show _=_
     rw [HE.out]
     exact find_none fun i hi=>HN.out i hi hi
    go_wp2_with (go_at_call 131;refine (oRefuseC 4 at_ wr).mono ?_;rintro e w2 ⟨rfl,rfl⟩)
    exact ⟨rfl,PP_none HN2.out HB3.out⟩
end chk
namespace chk
open syn face
theorem ExT.kids {k:Int} {x:ByteArray} {m:Int} {ks:List Tree} (h:ExT (.node k x m ks)):(∀ t∈ks,ExT t)∧((k=16∨k=17∨k=18)→LongN x)∧(k=15∨k=16∨k=17∨k=18∨k=19∨k=20∨k=21):=by
 cases h with
 | num n=>exact ⟨fun t ht=>(by cases ht),fun h=>by omega,by omega⟩
 | nam h=>exact ⟨fun t ht=>(by cases ht),fun _=>h,by omega⟩
 | item h e=>exact ⟨fun t ht=>(by simp only [List.mem_singleton] at ht;subst ht;exact e),fun _=>h,by omega⟩
 | call h e=>exact ⟨e,fun _=>h,by omega⟩
 | op a b=>exact ⟨fun t ht=>(by
   simp only [List.mem_cons,List.not_mem_nil,or_false] at ht
   rcases ht with rfl | rfl
   ·exact a
   ·exact b),fun h=>by omega,by omega⟩
 | neg a=>exact ⟨fun t ht=>(by simp only [List.mem_singleton] at ht;subst ht;exact a),fun h=>by omega,by omega⟩
 | nott a=>exact ⟨fun t ht=>(by simp only [List.mem_singleton] at ht;subst ht;exact a),fun h=>by omega,by omega⟩
section
variable (E:Env) (L:List Loc) (ctx:Int)
mutual
theorem exF_at:∀ (t:Tree) (alone:Bool) (a:Int) (q:Int × Int),exF E L ctx alone t a=.ok q→q.2=a+cntT t
 | .node k x m ks,alone,a,q,h=>by
  unfold exF at h
  cases hL:exL E L ctx ks (a+1) with
  | bad c b=>rw [hL] at h;simp at h
  | ok s =>
   rw [hL] at h
   dsimp only at h
   have:=exL_at ks (a+1) s hL
   cases hO:ownF E L ctx alone k x s.1 a with
   | bad c b=>rw [hO] at h;simp at h
   | ok l =>
    rw [hO] at h
    simp only [Res.ok.injEq] at h
    rw [← h]
    show s.2=_
    rw [show cntT (.node k x m ks)=cntL ks+1 by unfold cntT;rfl]
    omega
theorem exL_at:∀ (ks:List Tree) (a:Int) (q:List Int × Int),exL E L ctx ks a=.ok q→q.2=a+cntL ks∧q.1.length=ks.length
 | [],a,q,h=>by
  unfold exL at h
  simp only [Res.ok.injEq] at h
  rw [← h]
  simp [cntL]
 | t :: r,a,q,h=>by
  unfold exL at h
  cases h1:exF E L ctx false t a with
  | bad c b=>rw [h1] at h;simp at h
  | ok s =>
   rw [h1] at h
   dsimp only at h
   cases h2:exL E L ctx r s.2 with
   | bad c b=>rw [h2] at h;simp at h
   | ok u =>
    rw [h2] at h
    simp only [Res.ok.injEq] at h
    have e1:=exF_at t false a s h1
    have e2:=exL_at r s.2 u h2
    rw [← h]
    show u.2=_∧(s.1 :: u.1).length=_
    rw [show cntL (t :: r)=cntT t+cntL r by rfl]
    refine ⟨by omega,by simp [e2.2]⟩
end
def preR (ls:List Int):Res (List Int × Int)→Res (List Int × Int)
 | .bad c b=>.bad c b
 | .ok q=>.ok (ls++q.1,q.2)
theorem preR_step (ks:List Tree) (j:Nat) (hj:j<ks.length) (ls:List Int) (a:Int):preR ls (exL E L ctx (ks.drop j) a)=match exF E L ctx false ks[j] a with
  | .bad c b=>.bad c b
  | .ok q=>preR (ls++[q.1]) (exL E L ctx (ks.drop (j+1)) q.2):=by
 rw [List.drop_eq_getElem_cons hj]
 generalize ks.drop (j+1)=rest
 rw [show exL E L ctx (ks[j] :: rest) a=(match exF E L ctx false ks[j] a with
  | .bad c b=>.bad c b
  | .ok q=>match exL E L ctx rest q.2 with
   | .bad c b=>.bad c b
   | .ok s=>.ok (q.1 :: s.1,s.2)) from by simp only [exL];rfl]
 cases exF E L ctx false ks[j] a with
 | bad c b=>rfl
 | ok q =>
  dsimp only
  cases exL E L ctx rest q.2 with
  | bad c b=>rfl
  | ok u=>simp [preR]
end
theorem joinL_snoc:∀ (ls:List Int) (y l:Int),joinL (ls++[y]) l=jn (joinL ls l) y
 | [],y,l=>rfl
 | x :: r,y,l=>joinL_snoc r y (jn l x)
end chk
end Go.Proofs.YtfopddgjdaoidaaGreatDoor
