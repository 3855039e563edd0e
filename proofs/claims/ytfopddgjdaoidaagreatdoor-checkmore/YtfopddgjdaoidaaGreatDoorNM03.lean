/- What chapter 3 says of declarations, as plain functions on lists of tokens: each answers nothing where its fuel is used up. -/
import Derived.Test.YtfopddgjdaoidaaGreatDoorNM02
import Derived.Deep.LoopGhost
set_option linter.unusedVariables false
namespace Go.Proofs.YtfopddgjdaoidaaGreatDoor.syn
open Go.RowKit
def cell4 (w:World) (g o:Nat) (v:Value):Prop:=∃ x0 x1 x2 x3,v=.agg #[x0,x1,x2,x3]∧w.cell? ⟨g,o,none⟩=some x0∧w.cell? ⟨g,o+1,none⟩=some x1∧w.cell? ⟨g,o+2,none⟩=some x2∧w.cell? ⟨g,o+3,none⟩=some x3
mutual
def Lies (P:Nat→Prop) (w:World):Tree→Value→Prop
  | .node k x m ks,v=>∃ a c,v=.agg #[.int .i64 k,.string x,.int .i64 m,.slice a ks.length c]∧(ks.length≤4611686018427387904∧ks.length≤c)∧(ks≠[]→∃ g o,a=some ⟨g,o,none⟩∧P g∧LiesAt P w ks g o)
def LiesAt (P:Nat→Prop) (w:World):List Tree→Nat→Nat→Prop
  | [],_,_=>True
  | t :: r,g,o=>(∃ v,cell4 w g o v∧Lies P w t v)∧LiesAt P w r g (o+4)
end
mutual
theorem Lies.to {P Q:Nat→Prop} {w w':World} (hPQ:∀ b,P b→Q b) (hw:∀ b,P b→∀ o,w'.cell? ⟨b,o,none⟩=w.cell? ⟨b,o,none⟩):∀ {t:Tree} {v:Value},Lies P w t v→Lies Q w' t v
  | .node k x m ks,v,h=>by
    unfold Lies at h ⊢
    obtain ⟨a,c,e,hl,hk⟩:=h
    refine ⟨a,c,e,hl,fun hne=>?_⟩
    obtain ⟨g,o,e2,hp,hat⟩:=hk hne
    exact ⟨g,o,e2,hPQ _ hp,LiesAt.to hPQ hw hp hat⟩
theorem LiesAt.to {P Q:Nat→Prop} {w w':World} (hPQ:∀ b,P b→Q b) (hw:∀ b,P b→∀ o,w'.cell? ⟨b,o,none⟩=w.cell? ⟨b,o,none⟩):∀ {ks:List Tree} {g o:Nat},P g→LiesAt P w ks g o→LiesAt Q w' ks g o
  | [],g,o,hp,h=>by unfold LiesAt;trivial
  | t :: r,g,o,hp,h=>by
    unfold LiesAt at h ⊢
    obtain ⟨⟨v,⟨x0,x1,x2,x3,e,c0,c1,c2,c3⟩,hl⟩,hr⟩:=h
    refine ⟨⟨v,⟨x0,x1,x2,x3,e,?_,?_,?_,?_⟩,Lies.to hPQ hw hl⟩,LiesAt.to hPQ hw hp hr⟩
    · rw [hw _ hp];exact c0
    · rw [hw _ hp];exact c1
    · rw [hw _ hp];exact c2
    · rw [hw _ hp];exact c3
end
theorem LiesAt.get {P:Nat→Prop} {w:World}:∀ {ks:List Tree} {g o:Nat},LiesAt P w ks g o→∀ (i:Nat) (hi:i<ks.length),∃ v,cell4 w g (o+i * 4) v∧Lies P w ks[i] v
  | [],g,o,h,i,hi=>by simp at hi
  | t :: r,g,o,h,i,hi=>by
    unfold LiesAt at h
    cases i with
    | zero=>simpa using h.1
    | succ i =>
      have:=LiesAt.get h.2 i (by simpa using hi)
      have e:o+(i+1) * 4=o+4+i * 4:=by omega
      rw [e]
      exact this
theorem Lies.below {w w':World} {t:Tree} {v:Value} (h:Lies (·<w.heap.size) w t v) (hb:Below w.heap.size w w'):Lies (·<w'.heap.size) w' t v :=
  h.to (fun b hb'=>Nat.lt_of_lt_of_le hb' hb.size) (fun b hb' o=>hb.cell (p:=⟨b,o,none⟩) hb')
theorem LiesAt.below {w w':World} {ks:List Tree} {g o:Nat} (hg:g<w.heap.size) (h:LiesAt (·<w.heap.size) w ks g o) (hb:Below w.heap.size w w'):LiesAt (·<w'.heap.size) w' ks g o :=
  h.to (fun b hb'=>Nat.lt_of_lt_of_le hb' hb.size) (fun b hb' o=>hb.cell (p:=⟨b,o,none⟩) hb') hg
theorem Lies.drew {w:World} {t:Tree} {v:Value} (h:Lies (·<w.heap.size) w t v):Lies (·<w.drew.heap.size) w.drew t v :=
  Lies.to (w:=w) (w':=w.drew) (fun _ h=>h) (fun _ _ _=>rfl) h
theorem kid_lt {k:Int} {x:ByteArray} {m:Int} {ks:List Tree} {i:Nat} (hi:i<ks.length):SizeOf.sizeOf ks[i]<SizeOf.sizeOf (Tree.node k x m ks):=by
  have h1:=List.sizeOf_lt_of_mem (List.getElem_mem hi)
  simp
  omega
end Go.Proofs.YtfopddgjdaoidaaGreatDoor.syn
namespace Go.Proofs.YtfopddgjdaoidaaGreatDoor.syn
open Go.RowKit
open lexs (Tok cellsOf tok_cells own_shape numE)
abbrev Fr (r:Nat) (w w':World):Prop:=w.grownBy w' (some r)
theorem Fr.refl (r:Nat) (w:World):Fr r w w:=World.grownBy.refl _ _
theorem Fr.drewN {r:Nat} {w w':World} (h:Fr r w w') (n:Nat):Fr r w (w'.drewN n):=⟨h.os,h.tape,h.output,h.size,h.block⟩
theorem Fr.trans {r:Nat} {a b c:World} (h:Fr r a b) (k:Fr r b c):Fr r a c :=
  ⟨k.os.trans h.os,k.tape.trans h.tape,k.output.trans h.output,Nat.le_trans h.size k.size,fun j hj hn=>(k.block j (Nat.lt_of_lt_of_le hj h.size) hn).trans (h.block j hj hn)⟩
theorem Fr.set {r:Nat} {w w':World} (h:Fr r w w') (o:Nat) (v:Value):Fr r w (w'.setCell ⟨r,o,none⟩ v) :=
  ⟨h.os,h.tape,h.output,by rw [World.size_setCell];exact h.size,fun j hj hn=>(Below.heap_setCell _ _ _ _ (fun e=>hn (by rw [e]))).trans (h.block j hj hn)⟩
theorem eqS_empty {x:ByteArray} (h:eqS empty x=true):x.size=0:=by
  unfold eqS at h
  rw [beq_iff_eq,ByteArray.toList_eq,ByteArray.toList_eq] at h
  have h2:=congrArg List.length h
  rw [lexs.len_L,lexs.len_L] at h2
  exact h2.symm
theorem txt_lt {ts:List Tok} {s:St} {x:ByteArray} (hx:0<x.size) (h:eqS (txt ts s) x=true):s.i<ts.length:=by
  unfold txt here at h
  rcases Nat.lt_or_ge s.i ts.length with hl | hl
  · exact hl
  · exfalso
    rw [List.getElem?_eq_none hl] at h
    cases hb:s.bad <;> rw [hb] at h <;> simp at h <;> have:=eqS_empty h <;> omega
end Go.Proofs.YtfopddgjdaoidaaGreatDoor.syn
namespace Go.Proofs.YtfopddgjdaoidaaGreatDoor.syn
open Go.RowKit
open lexs (Tok ltrI insI)
theorem isName_short {x:ByteArray} (h:¬ (1≤x.size∧x.size≤16)):isName x=false:=by unfold isName;rw [decide_eq_false h];rfl
def sv (k:Nat):ByteArray:=(signs.getD k (empty,0,-1)).1
def so (k:Nat):Int:=(signs.getD k (empty,0,-1)).2.1
def sl (k:Nat):Int:=(signs.getD k (empty,0,-1)).2.2
theorem nine {k:Nat} (h:k<9):k=0∨k=1∨k=2∨k=3∨k=4∨k=5∨k=6∨k=7∨k=8:=by omega
theorem sv_at {k:Nat} (h:k<signs.length):sv k=signs[k].1∧(so k,sl k)=signs[k].2:=by
  unfold sv so sl
  rw [List.getD_eq_getElem?_getD,List.getElem?_eq_getElem h]
  exact ⟨rfl,rfl⟩
theorem sign_none (x:ByteArray) (h:∀ j,j<9→eqS (sv j) x=false):sign x=(0,-1):=by
  unfold sign
  rw [List.find?_eq_none.2]
  · rfl
  · intro y hy
    obtain ⟨k,hk,rfl⟩:=List.mem_iff_getElem.1 hy
    have:=h k hk
    rw [(sv_at hk).1] at this
    simpa using this
section
variable {w:World} {r:Nat} {L:Value} {ts:List Tok} {s:St}
theorem Fr.below {w':World} (hb:Below w.heap.size w w'):Fr r w w':=⟨hb.os,hb.tape,hb.output,hb.size,fun j hj _=>hb.block j hj⟩
end
theorem ret_str {x y:ByteArray} (h:x=y):Ending.returned (.string x)=.returned (.string y):=by rw [h]
theorem eqS_self (x:ByteArray):eqS x x=true:=by unfold eqS;exact beq_self_eq_true _
theorem name_size (ts:List Tok) (s:St):(name ts s).1.size≤16:=by
  unfold name
  cases he:isName (txt ts s)
  · exact Nat.zero_le _
  · simp only [if_true]
    rcases Nat.lt_or_ge 16 (txt ts s).size with h | h
    · rw [isName_short (by omega)] at he
      exact absurd he (by decide)
    · exact h
section
variable {w:World} {r:Nat} {L:Value} {ts:List Tok} {s:St}
end
end Go.Proofs.YtfopddgjdaoidaaGreatDoor.syn
namespace Go.Proofs.YtfopddgjdaoidaaGreatDoor.syn
open Go.RowKit
open lexs (Tok ltrI insI digB val numE tok_cells own_shape)
section
variable {w:World} {r:Nat} {L:Value} {ts:List Tok} {s:St}
theorem Fr.alloc {w':World} (h:Fr r w w') (o:Obj):Fr r w (w'.alloc o):=h.trans (Fr.below ((Below.refl _ _).alloc (jE _) o))
theorem Lies.leaf (P:Nat→Prop) (w:World) (k:Int) (x:ByteArray) (m:Int):Lies P w (.node k x m []) (.agg #[.int .i64 k,.string x,.int .i64 m,.slice none 0 0]):=by
  unfold Lies
  exact ⟨none,0,rfl,⟨by simp,by simp⟩,fun h=>absurd rfl h⟩
structure Box4 (w:World) (N:Nat) (x0 x1 x2 x3:Value):Prop where
  c0:w.cell? ⟨N,0,none⟩=some x0
  c1:w.cell? ⟨N,1,none⟩=some x1
  c2:w.cell? ⟨N,2,none⟩=some x2
  c3:w.cell? ⟨N,3,none⟩=some x3
  f0:w.frozen? ⟨N,0,none⟩=false
  f1:w.frozen? ⟨N,1,none⟩=false
  f2:w.frozen? ⟨N,2,none⟩=false
  f3:w.frozen? ⟨N,3,none⟩=false
theorem Box4.new (w:World) (x0 x1 x2 x3:Value) (T:TypeId):Box4 (w.alloc (.cells #[x0,x1,x2,x3] T)) w.heap.size x0 x1 x2 x3:=by
  constructor <;> simp
theorem Box4.lt {N:Nat} {x0 x1 x2 x3:Value} (h:Box4 w N x0 x1 x2 x3):N<w.heap.size:=World.block_lt_of_cell? w ⟨N,0,none⟩ h.c0
theorem Box4.fr {w':World} {N:Nat} {x0 x1 x2 x3:Value} (h:Box4 w N x0 x1 x2 x3) (hF:Fr r w w') (hN:N≠r):Box4 w' N x0 x1 x2 x3:=by
  have hb:=hF.block N h.lt (by simpa using hN)
  exact ⟨(World.cell?_of_block (a:=⟨N,0,none⟩) hb).trans h.c0,(World.cell?_of_block (a:=⟨N,1,none⟩) hb).trans h.c1,(World.cell?_of_block (a:=⟨N,2,none⟩) hb).trans h.c2,(World.cell?_of_block (a:=⟨N,3,none⟩) hb).trans h.c3,
    (World.frozen?_of_block (a:=⟨N,0,none⟩) hb).trans h.f0,(World.frozen?_of_block (a:=⟨N,1,none⟩) hb).trans h.f1,(World.frozen?_of_block (a:=⟨N,2,none⟩) hb).trans h.f2,(World.frozen?_of_block (a:=⟨N,3,none⟩) hb).trans h.f3⟩
theorem Box4.alloc {N:Nat} {x0 x1 x2 x3:Value} (h:Box4 w N x0 x1 x2 x3) (o:Obj):Box4 (w.alloc o) N x0 x1 x2 x3 :=
  h.fr (r:=w.heap.size) (Fr.below ((Below.refl _ _).alloc (jE _) o)) (by have:=h.lt;omega)
theorem Box4.drewN {N:Nat} {x0 x1 x2 x3:Value} (h:Box4 w N x0 x1 x2 x3) (n:Nat):Box4 (w.drewN n) N x0 x1 x2 x3:=⟨h.c0,h.c1,h.c2,h.c3,h.f0,h.f1,h.f2,h.f3⟩
theorem Box4.other {N M o:Nat} {x0 x1 x2 x3:Value} (h:Box4 w N x0 x1 x2 x3) (hM:M≠N) (v:Value):Box4 (w.setCell ⟨M,o,none⟩ v) N x0 x1 x2 x3 :=
  h.fr (r:=M) ((Fr.refl _ _).set o v) (by omega)
theorem Box4.set2 {N:Nat} {x0 x1 x2 x3:Value} (h:Box4 w N x0 x1 x2 x3) (v:Value):Box4 (w.setCell ⟨N,2,none⟩ v) N x0 x1 v x3 :=
  ⟨by rw [jD _ _ _ _ (by simp)];exact h.c0,by rw [jD _ _ _ _ (by simp)];exact h.c1,World.cell?_setCell_same _ _ _ h.c2,by rw [jD _ _ _ _ (by simp)];exact h.c3,by simp [h.f0],by simp [h.f1],by simp [h.f2],by simp [h.f3]⟩
theorem Box4.set3 {N:Nat} {x0 x1 x2 x3:Value} (h:Box4 w N x0 x1 x2 x3) (v:Value):Box4 (w.setCell ⟨N,3,none⟩ v) N x0 x1 x2 v :=
  ⟨by rw [jD _ _ _ _ (by simp)];exact h.c0,by rw [jD _ _ _ _ (by simp)];exact h.c1,by rw [jD _ _ _ _ (by simp)];exact h.c2,World.cell?_setCell_same _ _ _ h.c3,by simp [h.f0],by simp [h.f1],by simp [h.f2],by simp [h.f3]⟩
theorem Fr.setNew {w':World} (h:Fr r w w') {N o:Nat} (hN:w.heap.size≤N) (v:Value):Fr r w (w'.setCell ⟨N,o,none⟩ v) :=
  ⟨h.os,h.tape,h.output,by rw [World.size_setCell];exact h.size,fun j hj hn=>(Below.heap_setCell _ _ _ _ (by simp;omega)).trans (h.block j hj hn)⟩
theorem Fr.put4 {w':World} (h:Fr r w w') {N:Nat} (hN:w.heap.size≤N) (x0 x1 x2 x3:Value):Fr r w ((((w'.setCell ⟨N,0,none⟩ x0).setCell ⟨N,1,none⟩ x1).setCell ⟨N,2,none⟩ x2).setCell ⟨N,3,none⟩ x3) :=
  (((h.setNew hN x0).setNew hN x1).setNew hN x2).setNew hN x3
end
end Go.Proofs.YtfopddgjdaoidaaGreatDoor.syn
namespace Go.Proofs.YtfopddgjdaoidaaGreatDoor.syn
open Go.RowKit
open lexs (Tok tok_cells own_shape)
section
variable {w:World} {r:Nat} {L:Value} {ts:List Tok} {s:St}
theorem Lies.shape {P:Nat→Prop} {t:Tree} {v:Value} (h:Lies P w t v):∃ k x m sl,v=.agg #[.int .i64 k,.string x,.int .i64 m,sl]∧∃ a n c,sl=.slice a n c:=by
  cases t with
  | node k x m ks =>
    unfold Lies at h
    obtain ⟨a,c,rfl,_⟩:=h
    exact ⟨k,x,m,_,rfl,a,ks.length,c,rfl⟩
theorem Lies.fr {B:Nat} {w1 w2:World} {t:Tree} {v:Value} (h:Lies (fun b=>B≤b∧b<w1.heap.size) w1 t v) (hr:r<B) (hF:Fr r w1 w2):Lies (fun b=>B≤b∧b<w2.heap.size) w2 t v :=
  h.to (fun b hb=>⟨hb.1,Nat.lt_of_lt_of_le hb.2 hF.size⟩) (fun b hb o=>World.cell?_of_block (a:=⟨b,o,none⟩) (hF.block b hb.2 (by simp;omega)))
theorem Lies.low {B B':Nat} {t:Tree} {v:Value} (h:Lies (fun b=>B≤b∧b<w.heap.size) w t v) (hB:B'≤B):Lies (fun b=>B'≤b∧b<w.heap.size) w t v :=
  h.to (fun b hb=>⟨Nat.le_trans hB hb.1,hb.2⟩) (fun _ _ _=>rfl)
theorem Fr.put (w:World) (N:Nat) (x0 x1 x2 x3:Value):Fr N w ((((w.setCell ⟨N,0,none⟩ x0).setCell ⟨N,1,none⟩ x1).setCell ⟨N,2,none⟩ x2).setCell ⟨N,3,none⟩ x3) :=
  ((((Fr.refl _ _).set _ _).set _ _).set _ _).set _ _
theorem Fr.al (w:World) (o:Obj):Fr r w (w.alloc o):=(Fr.refl _ _).alloc o
theorem cell4_new (w:World) {y0 y1 y2 y3:Value} {T:TypeId} {M:Nat} (hM:M=w.heap.size):cell4 (w.alloc (.cells #[y0,y1,y2,y3] T)) M 0 (.agg #[y0,y1,y2,y3]):=by
  subst hM
  exact ⟨y0,y1,y2,y3,rfl,by simp,by simp,by simp,by simp⟩
theorem Lies.one {P:Nat→Prop} {M:Nat} {t:Tree} {v:Value} {k m:Int} {x:ByteArray} {c:Nat} (hP:P M) (h4:cell4 w M 0 v) (hL:Lies P w t v) (hc:1≤c:=by omega):Lies P w (.node k x m [t]) (.agg #[.int .i64 k,.string x,.int .i64 m,.slice (some ⟨M,0,none⟩) 1 c]):=by
  unfold Lies
  refine ⟨some ⟨M,0,none⟩,c,rfl,⟨by simp,by simpa using hc⟩,fun _=>⟨M,0,rfl,hP,?_⟩⟩
  unfold LiesAt
  exact ⟨⟨v,h4,hL⟩,by unfold LiesAt;trivial⟩
end
section
variable {r:Nat} {L:Value} {ts:List Tok} {s:St}
theorem eqS_lit (y:ByteArray) (l:List UInt8):eqS y ⟨l.toArray⟩=(y.toList==l):=by unfold eqS;rw [ByteArray.toList_eq ⟨l.toArray⟩]
end
section
variable {w:World} {r:Nat} {L:Value} {ts:List Tok} {s:St}
theorem Lies.frP {P Q:Nat→Prop} {x:Nat} {w1 w2:World} {t:Tree} {v:Value} (h:Lies P w1 t v) (hF:Fr x w1 w2) (hP:∀ b,P b→b<w1.heap.size∧b≠x) (hQ:∀ b,P b→Q b):Lies Q w2 t v :=
  h.to hQ (fun b hb o=>World.cell?_of_block (a:=⟨b,o,none⟩) (hF.block b (hP b hb).1 (by have:=(hP b hb).2;simpa using this)))
theorem Lies.two {P:Nat→Prop} {M:Nat} {t t':Tree} {v v':Value} {k m:Int} {x:ByteArray} {c:Nat} (hP:P M) (h4:cell4 w M 0 v) (h4':cell4 w M 4 v') (hL:Lies P w t v) (hL':Lies P w t' v') (hc:2≤c:=by omega):Lies P w (.node k x m [t,t']) (.agg #[.int .i64 k,.string x,.int .i64 m,.slice (some ⟨M,0,none⟩) 2 c]):=by
  unfold Lies
  refine ⟨some ⟨M,0,none⟩,c,rfl,⟨by simp,by simpa using hc⟩,fun _=>⟨M,0,rfl,hP,?_⟩⟩
  unfold LiesAt
  refine ⟨⟨v,h4,hL⟩,?_⟩
  unfold LiesAt
  exact ⟨⟨v',h4',hL'⟩,by unfold LiesAt;trivial⟩
theorem cell4_two (w:World) {y0 y1 y2 y3 z0 z1 z2 z3:Value} {T:TypeId} {M:Nat} (hM:M=w.heap.size):cell4 (w.alloc (.cells #[y0,y1,y2,y3,z0,z1,z2,z3] T)) M 0 (.agg #[y0,y1,y2,y3])∧cell4 (w.alloc (.cells #[y0,y1,y2,y3,z0,z1,z2,z3] T)) M 4 (.agg #[z0,z1,z2,z3]):=by
  subst hM
  exact ⟨⟨y0,y1,y2,y3,rfl,by simp,by simp,by simp,by simp⟩,⟨z0,z1,z2,z3,rfl,by simp,by simp,by simp,by simp⟩⟩
theorem Box4.put {N:Nat} {x0 x1 x2 x3 y0 y1 y2 y3:Value} (h:Box4 w N x0 x1 x2 x3):Box4 ((((w.setCell ⟨N,0,none⟩ y0).setCell ⟨N,1,none⟩ y1).setCell ⟨N,2,none⟩ y2).setCell ⟨N,3,none⟩ y3) N y0 y1 y2 y3:=by
  have h0:∀ o,(World.setCell w ⟨N,0,none⟩ y0).frozen? ⟨N,o,none⟩=w.frozen? ⟨N,o,none⟩:=fun o=>by simp
  refine ⟨?_,?_,?_,?_,by simp [h.f0],by simp [h.f1],by simp [h.f2],by simp [h.f3]⟩
  · rw [jD _ _ _ _ (by simp),jD _ _ _ _ (by simp),jD _ _ _ _ (by simp)]
    exact World.cell?_setCell_same _ _ _ h.c0
  · rw [jD _ _ _ _ (by simp),jD _ _ _ _ (by simp)]
    exact World.cell?_setCell_same _ _ _ (u:=x1) (by rw [jD _ _ _ _ (by simp)];exact h.c1)
  · rw [jD _ _ _ _ (by simp)]
    exact World.cell?_setCell_same _ _ _ (u:=x2) (by rw [jD _ _ _ _ (by simp),jD _ _ _ _ (by simp)];exact h.c2)
  · exact World.cell?_setCell_same _ _ _ (u:=x3) (by rw [jD _ _ _ _ (by simp),jD _ _ _ _ (by simp),jD _ _ _ _ (by simp)];exact h.c3)
theorem sign_lt (h:0≤(sign (txt ts s)).2):s.i<ts.length:=by
  rcases Nat.lt_or_ge s.i ts.length with hl | hl
  · exact hl
  · exfalso
    have he:txt ts s=empty:=by
      unfold txt here
      rw [List.getElem?_eq_none hl]
      cases s.bad <;> rfl
    rw [he,sign_none empty (fun j hj=>?_)] at h
    · exact absurd h (by decide)
    · rw [show empty=⟨([]:List UInt8).toArray⟩ from rfl,eqS_lit (sv j) [],ByteArray.toList_eq]
      rcases nine hj with rfl | rfl | rfl | rfl | rfl | rfl | rfl | rfl | rfl <;> rfl
end
end Go.Proofs.YtfopddgjdaoidaaGreatDoor.syn
namespace Go.Proofs.YtfopddgjdaoidaaGreatDoor.syn
open lexs (Tok)
section
variable {ts:List Tok} {s:St}
def left (ts:List Tok) (s:St):Nat:=if s.bad then 0 else ts.length - s.i
theorem left_fail:left ts s.fail=0:=rfl
theorem left_bad (h:s.bad=true):left ts s=0:=by unfold left;rw [h];rfl
theorem left_next_le:left ts s.next≤left ts s:=by
  unfold left St.next
  dsimp only
  split <;> omega
theorem left_hit {x:ByteArray} (hx:0<x.size) (h:eqS (txt ts s) x=true):left ts s.next+1=left ts s:=by
  have hl:=txt_lt hx h
  have hb:s.bad=false:=by
    cases hb:s.bad
    · rfl
    · exfalso
      have he:txt ts s=empty:=by unfold txt here;rw [hb];rfl
      rw [he] at h
      have:=eqS_empty h
      omega
  unfold left St.next
  dsimp only
  rw [hb]
  simp
  omega
theorem left_must (x:ByteArray) (hx:0<x.size):left ts (must ts x s)≤left ts s∧((must ts x s).bad=true∨left ts (must ts x s)+1=left ts s):=by
  unfold must
  cases h:eqS (txt ts s) x
  · simp only [Bool.false_eq_true,if_false]
    exact ⟨by rw [left_fail];omega,.inl rfl⟩
  · simp only [if_true]
    have:=left_hit hx h
    exact ⟨by omega,.inr this⟩
theorem left_name:left ts (name ts s).2≤left ts s:=by
  unfold name
  split
  · exact left_next_le
  · simp only [left_fail];omega
theorem left_eat (x:ByteArray):left ts (eat ts x s).2≤left ts s:=by
  unfold eat
  split
  · exact left_next_le
  · exact jE _
theorem left_whole:left ts (whole ts s).2≤left ts s:=by
  unfold whole
  dsimp only
  split
  · exact Nat.le_trans left_name (Nat.le_trans (left_eat _) left_name)
  · exact left_name
theorem left_number:left ts (number ts s).2≤left ts s:=by
  unfold number
  split
  · simp only [left_fail];omega
  · split
    · exact left_next_le
    · simp only [left_fail];omega
def Has (ts:List Tok) (s:St) (o:Option (Tree × St)):Prop:=∃ q,o=some q∧left ts q.2≤left ts s
structure Enough (ts:List Tok) (f:Nat):Prop where
  e:∀ s:St,(s.bad=true∧1≤f)∨10 * left ts s+8≤f→Has ts s (exprF ts f s)
  b:∀ (s:St) (l:Nat),l≤3→10 * left ts s+7≤f+l→Has ts s (boundF ts f l s)
  bl:∀ (s:St) (l:Nat) (n:Tree),l≤2→10 * left ts s+6≤f+l→Has ts s (boundL ts f l n s)
  u:∀ s:St,10 * left ts s+3≤f→Has ts s (unaryF ts f s)
  a:∀ s:St,10 * left ts s+2≤f→Has ts s (askedF ts f s)
  p:∀ (s:St) (x:ByteArray),10 * left ts s+2≤f→Has ts s (placeF ts f x s)
  c:∀ (s:St) (x:ByteArray),10 * left ts s+2≤f→Has ts s (callF ts f x s)
  cl:∀ (s:St) (x:ByteArray) (ks:List Tree) (on:Bool),(((on && !s.bad)=false∧1≤f)∨10 * left ts s+9≤f)→Has ts s (callL ts f x ks s on)
theorem enough (ts:List Tok) (f:Nat):Enough ts f:=by
  induction f with
  | zero=>exact ⟨fun s h=>by omega,fun s l h1 h2=>by omega,fun s l n h1 h2=>by omega,fun s h=>by omega,fun s h=>by omega,fun s x h=>by omega,fun s x h=>by omega,fun s x ks on h=>by omega⟩
  | succ f ih =>
    refine ⟨fun s h=>?_,fun s l hl h=>?_,fun s l n hl h=>?_,fun s h=>?_,fun s h=>?_,fun s x h=>?_,fun s x h=>?_,fun s x ks on h=>?_⟩
    · unfold exprF
      cases hb:s.bad
      · simp only [Bool.false_eq_true,if_false]
        refine ih.b s 0 (by omega) ?_
        rcases h with ⟨h,_⟩ | h
        · rw [hb] at h;simp at h
        · omega
      · simp only [if_true]
        exact ⟨_,rfl,jE _⟩
    · unfold boundF
      split
      · exact ih.u s (by omega)
      · obtain ⟨q,hq,hle⟩:=ih.b s (l+1) (by omega) (by omega)
        rw [hq]
        simp only [Option.bind_some]
        obtain ⟨q',hq',hle'⟩:=ih.bl q.2 l q.1 (by omega) (by omega)
        exact ⟨q',hq',by omega⟩
    · unfold boundL
      cases hb:s.bad
      · simp only [Bool.false_eq_true,if_false]
        split
        · exact ⟨_,rfl,jE _⟩
        · rename_i hne
          have hk:(sign (txt ts s)).2=(l:Int):=by simpa using hne
          have hlt:=sign_lt (ts:=ts) (s:=s) (by omega)
          have hn:left ts s.next+1=left ts s:=by
            unfold left St.next
            dsimp only
            rw [hb]
            simp
            omega
          obtain ⟨q,hq,hle⟩:=ih.b s.next (l+1) (by omega) (by omega)
          rw [hq]
          simp only [Option.bind_some]
          split
          · exact ⟨_,rfl,by dsimp only;omega⟩
          · obtain ⟨q',hq',hle'⟩:=ih.bl q.2 l (.node 19 empty (sign (txt ts s)).1 [n,q.1]) (by omega) (by omega)
            exact ⟨q',hq',by omega⟩
      · simp only [if_true]
        exact ⟨_,rfl,jE _⟩
    · unfold unaryF
      cases h1:eqS (txt ts s) ⟨#[45]⟩
      · simp only [Bool.false_eq_true,if_false]
        cases h2:eqS (txt ts s) ⟨#[33]⟩
        · simp only [Bool.false_eq_true,if_false]
          split
          · exact ih.a s (by omega)
          · split
            · exact ⟨_,rfl,left_number⟩
            · have hw:=left_whole (ts:=ts) (s:=s)
              split
              · obtain ⟨q,hq,hle⟩:=ih.c (whole ts s).2 (whole ts s).1 (by omega)
                exact ⟨q,hq,by omega⟩
              · obtain ⟨q,hq,hle⟩:=ih.p (whole ts s).2 (whole ts s).1 (by omega)
                exact ⟨q,hq,by omega⟩
        · simp only [if_true]
          have hn:=left_hit (by decide) h2
          obtain ⟨q,hq,hle⟩:=ih.u s.next (by omega)
          rw [hq]
          exact ⟨_,rfl,by dsimp only;omega⟩
      · simp only [if_true]
        have hn:=left_hit (by decide) h1
        obtain ⟨q,hq,hle⟩:=ih.u s.next (by omega)
        rw [hq]
        exact ⟨_,rfl,by dsimp only;omega⟩
    · unfold askedF
      have hm:=left_must (ts:=ts) (s:=s) ⟨#[40]⟩ (by decide)
      obtain ⟨q,hq,hle⟩:=ih.e (must ts ⟨#[40]⟩ s) (by rcases hm.2 with h1 | h1;exact .inl ⟨h1,by omega⟩;exact .inr (by omega))
      rw [hq]
      have hm2:=left_must (ts:=ts) (s:=q.2) ⟨#[41]⟩ (by decide)
      exact ⟨_,rfl,by dsimp only;omega⟩
    · unfold placeF
      split
      · rename_i h1
        have hn:=left_hit (by decide) h1
        obtain ⟨q,hq,hle⟩:=ih.e s.next (.inr (by omega))
        rw [hq]
        have hm2:=left_must (ts:=ts) (s:=q.2) ⟨#[93]⟩ (by decide)
        exact ⟨_,rfl,by dsimp only;omega⟩
      · exact ⟨_,rfl,jE _⟩
    · unfold callF
      have hm:=left_must (ts:=ts) (s:=s) ⟨#[40]⟩ (by decide)
      split
      · rename_i h1
        have hn:=left_hit (by decide) h1
        exact ⟨_,rfl,by dsimp only;omega⟩
      · obtain ⟨q,hq,hle⟩:=ih.cl (must ts ⟨#[40]⟩ s) x [] true (by rcases hm.2 with h1 | h1;exact .inl ⟨by rw [h1];rfl,by omega⟩;exact .inr (by omega))
        exact ⟨q,hq,by omega⟩
    · unfold callL
      cases hc:(on && !s.bad)
      · simp only [Bool.false_eq_true,if_false]
        exact ⟨_,rfl,(left_must (ts:=ts) (s:=s) ⟨#[41]⟩ (by decide)).1⟩
      · simp only [if_true]
        have h9:10 * left ts s+9≤f+1:=by
          rcases h with ⟨h,_⟩ | h
          · rw [hc] at h;simp at h
          · exact h
        obtain ⟨q,hq,hle⟩:=ih.e s (.inr (by omega))
        rw [hq]
        simp only [Option.bind_some]
        cases he:eqS (txt ts q.2) ⟨#[44]⟩
        · have e1:eat ts ⟨#[44]⟩ q.2=(false,q.2):=by unfold eat;rw [he];rfl
          rw [e1]
          obtain ⟨q',hq',hle'⟩:=ih.cl q.2 x (ks++[q.1]) false (.inl ⟨rfl,by omega⟩)
          exact ⟨q',hq',by omega⟩
        · have e1:eat ts ⟨#[44]⟩ q.2=(true,q.2.next):=by unfold eat;rw [he];rfl
          rw [e1]
          have hn:=left_hit (by decide) he
          obtain ⟨q',hq',hle'⟩:=ih.cl q.2.next x (ks++[q.1]) true (.inr (by omega))
          exact ⟨q',hq',by omega⟩
end
section
variable (ts:List Tok)
mutual
def blockF:Nat→St→Option (Tree × St)
  | 0,_=>none
  | f+1,s=>blockL f [] (must ts ⟨#[123]⟩ s)
def blockL:Nat→List Tree→St→Option (Tree × St)
  | 0,_,_=>none
  | f+1,ks,s =>
    if s.bad then some (.node 6 empty 0 ks,s)
    else if eqS (txt ts s) ⟨#[125]⟩ then some (.node 6 empty 0 ks,s.next)
    else (statF f s).bind fun q=>blockL f (ks++[q.1]) q.2
def statF:Nat→St→Option (Tree × St)
  | 0,_=>none
  | f+1,s =>
    if eqS (txt ts s) ⟨#[105,102]⟩ then
      (askedF ts f s.next).bind fun x=>(blockF f x.2).bind fun b =>
        if eqS (txt ts b.2) ⟨#[101,108,115,101]⟩ then (blockF f b.2.next).bind fun c=>some (.node 10 empty 0 [x.1,b.1,c.1],c.2) else some (.node 10 empty 0 [x.1,b.1],b.2)
    else if eqS (txt ts s) ⟨#[119,104,105,108,101]⟩ then (askedF ts f s.next).bind fun x=>(blockF f x.2).bind fun b=>some (.node 11 empty 0 [x.1,b.1],b.2)
    else if eqS (txt ts s) ⟨#[108,111,119]⟩ || eqS (txt ts s) ⟨#[104,105,103,104]⟩ then
      (exprF ts f (must ts ⟨#[61]⟩ (name ts (label ts s).2).2)).bind fun x=>some (.node 7 (name ts (label ts s).2).1 (label ts s).1 [x.1],must ts ⟨#[59]⟩ x.2)
    else if eqS (txt ts s) ⟨#[100,111]⟩ then (callF ts f (whole ts s.next).1 (whole ts s.next).2).bind fun x=>some (.node 9 empty 0 [x.1],must ts ⟨#[59]⟩ x.2)
    else if eqS (txt ts s) ⟨#[111,117,116]⟩ then (exprF ts f (label ts s.next).2).bind fun x=>some (.node 12 empty (label ts s.next).1 [x.1],must ts ⟨#[59]⟩ x.2)
    else if eqS (txt ts s) ⟨#[105,110]⟩ then (placeF ts f (whole ts (label ts s.next).2).1 (whole ts (label ts s.next).2).2).bind fun x=>some (.node 13 empty (label ts s.next).1 [x.1],must ts ⟨#[59]⟩ x.2)
    else if eqS (txt ts s) ⟨#[114,101,116,117,114,110]⟩ then (exprF ts f s.next).bind fun x=>some (.node 14 empty 0 [x.1],must ts ⟨#[59]⟩ x.2)
    else (placeF ts f (whole ts s).1 (whole ts s).2).bind fun x=>(exprF ts f (must ts ⟨#[61]⟩ x.2)).bind fun y=>some (.node 8 empty 0 [x.1,y.1],must ts ⟨#[59]⟩ y.2)
end
end
section
variable (ts:List Tok)
def pubS (s:St):St:=if eqS (txt ts s) ⟨#[112,117,98]⟩ then s.next else s
def pubN (s:St):Int:=if eqS (txt ts s) ⟨#[112,117,98]⟩ then 2 else 0
def paramsL:Nat→List Tree→St→Option (List Tree × St)
  | 0,_,_=>none
  | f+1,ks,s =>
    if eqS (txt ts (name ts (label ts s).2).2) ⟨#[44]⟩ then paramsL f (ks++[.node 5 (name ts (label ts s).2).1 (label ts s).1 []]) (name ts (label ts s).2).2.next
    else some (ks++[.node 5 (name ts (label ts s).2).1 (label ts s).1 []],(name ts (label ts s).2).2)
def params (f:Nat) (s:St):Option (List Tree × St):=if eqS (txt ts s) ⟨#[41]⟩ then some ([],s) else paramsL ts f [] s
def givesS (s:St):St:=if eqS (txt ts (label ts s).2) ⟨#[103,105,118,101,115]⟩ then (label ts (label ts s).2.next).2 else (label ts s).2
def givesN (n:Int) (s:St):Int:=if eqS (txt ts (label ts s).2) ⟨#[103,105,118,101,115]⟩ then n+(label ts s).1+4+4 * (label ts (label ts s).2.next).1 else n+(label ts s).1
def varS (s:St):List Tree × St:=if eqS (txt ts s) ⟨#[91]⟩ then ([(number ts s.next).1],must ts ⟨#[93]⟩ (number ts s.next).2) else ([],s)
def declF (f:Nat) (s:St):Option (Tree × St) :=
  if eqS (txt ts (pubS ts s)) ⟨#[112,114,111,99]⟩ then
    (params ts f (must ts ⟨#[40]⟩ (name ts (pubS ts s).next).2)).bind fun p =>
      (blockF ts f (givesS ts (must ts ⟨#[41]⟩ p.2))).bind fun b =>
        some (.node 4 (name ts (pubS ts s).next).1 (givesN ts (pubN ts s) (must ts ⟨#[41]⟩ p.2)) (p.1++[b.1]),b.2)
  else some (.node 3 (name ts (label ts (pubS ts s)).2).1 (pubN ts s+(label ts (pubS ts s)).1) (varS ts (name ts (label ts (pubS ts s)).2).2).1,must ts ⟨#[59]⟩ (varS ts (name ts (label ts (pubS ts s)).2).2).2)
end
end Go.Proofs.YtfopddgjdaoidaaGreatDoor.syn
