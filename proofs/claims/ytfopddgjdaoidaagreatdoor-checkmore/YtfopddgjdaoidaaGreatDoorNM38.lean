/- Boxes of cells, while others turn. -/
import Derived.Test.YtfopddgjdaoidaaGreatDoorNM37
set_option linter.unusedVariables false
set_option linter.unusedSimpArgs false
set_option maxRecDepth 100000
namespace Go.Proofs.YtfopddgjdaoidaaGreatDoor.chk
open syn face
def parL (ps:List (ByteArray × Bool)):List Loc:=ps.map fun q=>⟨q.1,bI q.2,1⟩
theorem parL_len (ps:List (ByteArray × Bool)):(parL ps).length=ps.length:=by unfold parL;rw [List.length_map]
theorem parL_lab (ps:List (ByteArray × Bool)):LabL (parL ps):=by
  intro l hl
  obtain ⟨q,_,rfl⟩:=List.mem_map.1 hl
  exact bI_lab _
theorem parL_inv (ps:List (ByteArray × Bool)):InvL (parL ps) 1 0:=by
  refine ⟨Nat.zero_le _,fun l hl=>by simp at hl,fun l hl=>?_⟩
  rw [List.drop_zero] at hl
  obtain ⟨q,_,rfl⟩:=List.mem_map.1 hl
  rfl
theorem retL_ends (k:Int) (x:ByteArray) (m:Int):∀ ks:List Tree,endsT (.node k x m ks)=retL ks
  | []=>rfl
  | [.node k2 y n l]=>rfl
  | a :: b :: r=>by
    have ih:=retL_ends k x m (b :: r)
    simp only [endsT] at ih ⊢
    rw [List.getLast?_cons_cons]
    rw [show retL (a :: b :: r)=retL (b :: r) by simp [retL]]
    exact ih
theorem retL_snoc (z:Tree):∀ ks:List Tree,retL (ks++[z])=retL [z]
  | []=>rfl
  | [a]=>by simp [retL]
  | a :: b :: r=>by
    have ih:=retL_snoc z (b :: r)
    show retL (a :: b :: (r++[z]))=_
    rw [show retL (a :: b :: (r++[z]))=retL (b :: (r++[z])) by simp [retL]]
    exact ih
section
variable (E:Env) (q:ProcD) (ps:List (ByteArray × Bool)) (k:Int) (x:ByteArray) (m:Int) (ks:List Tree) (a:Int)
theorem prF_is (ends:Bool):prF E q ps (.node k x m ks) ends a=match stsF E ⟨q.gives,q.given⟩ q.writes 1 ks (parL ps) (a+1+ps.length+1) with
    | .bad c d=>.bad c d
    | .ok s=>if q.gives=true∧ends=false then .bad 2 a else .ok s.2:=by
  unfold prF
  rw [show (ps.map fun p=>(⟨p.1,bI p.2,1⟩:Loc))=parL ps from rfl]
  simp only [blF]
  cases stsF E ⟨q.gives,q.given⟩ q.writes 1 ks (parL ps) (a+1+ps.length+1) <;> rfl
theorem prF_none (hst:∀ t ∈ ks,StT t) (hg:q.gives=false):prF E q ps (.node k x m ks) (endsT (.node k x m ks)) a=match stsN E ⟨q.gives,q.given⟩ q.writes 1 ks (parL ps) (a+1+ps.length+1) with
    | .bad c d=>.bad c d
    | .ok s=>.ok s.2:=by
  rw [prF_is,stsN_none E _ _ hg ks _ _ hst]
  cases stsN E ⟨q.gives,q.given⟩ q.writes 1 ks (parL ps) (a+1+ps.length+1) with
  | bad c d=>rfl
  | ok s=>exact if_neg (fun e=>by rw [hg] at e;exact absurd e.1 (by decide))
theorem prF_noret (hst:∀ t ∈ ks,StT t) (hg:q.gives=true) (hr:retL ks=false):prF E q ps (.node k x m ks) (endsT (.node k x m ks)) a=match stsN E ⟨q.gives,q.given⟩ q.writes 1 ks (parL ps) (a+1+ps.length+1) with
    | .bad c d=>.bad c d
    | .ok s=>.bad 2 a:=by
  rw [prF_is,stsN_noret E _ _ ks _ _ hst hr,retL_ends,hr]
  cases stsN E ⟨q.gives,q.given⟩ q.writes 1 ks (parL ps) (a+1+ps.length+1) with
  | bad c d=>rfl
  | ok s=>exact if_pos ⟨hg,rfl⟩
theorem prF_ret (z:Tree) (hr:retL (ks++[z])=true):prF E q ps (.node k x m (ks++[z])) (endsT (.node k x m (ks++[z]))) a=match stsN E ⟨q.gives,q.given⟩ q.writes 1 ks (parL ps) (a+1+ps.length+1) with
    | .bad c d=>.bad c d
    | .ok s=>match stF E ⟨q.gives,q.given⟩ q.writes 1 true z s.1 s.2 with
      | .bad c d=>.bad c d
      | .ok s=>.ok s.2:=by
  rw [prF_is,stsN_ret E _ _ z ks,retL_ends,hr]
  cases stsN E ⟨q.gives,q.given⟩ q.writes 1 ks (parL ps) (a+1+ps.length+1) with
  | bad c d=>rfl
  | ok s =>
    dsimp only
    cases stF E ⟨q.gives,q.given⟩ q.writes 1 true z s.1 s.2 with
    | bad c d=>rfl
    | ok s2=>exact if_neg (fun e=>absurd e.2 (by decide))
end
theorem procD_lab (x:ByteArray) (p l:Bool) (g:Option Bool) (ps:List (ByteArray × Bool)):(∀ y ∈ (procD x p l g ps).params,Lab y)∧Lab (procD x p l g ps).writes∧Lab (procD x p l g ps).given:=by
  refine ⟨fun y hy=>?_,bI_lab _,bI_lab _⟩
  obtain ⟨q,_,rfl⟩:=List.mem_map.1 hy
  exact bI_lab _
end Go.Proofs.YtfopddgjdaoidaaGreatDoor.chk
namespace Go.Proofs.YtfopddgjdaoidaaGreatDoor.chk
open Go.RowKit Go.Shelf
open syn face
theorem proc_cells {w:World} {B:Nat} {x:ByteArray} {p l:Bool} {gv:Option Bool} {ps:List (ByteArray × Bool)} {ss:List Tree} {v:Value} (h:Lies (·<B) w (Kid.proc x p l gv ps (.node 6 empty 0 ss)).tree v) :
    ∃ g o c,v=.agg #[.int .i64 4,.string x,.int .i64 (2 * bI p+bI l+gI gv),.slice (some ⟨g,o,none⟩) (ps.length+1) c]∧g<B∧ps.length+1≤c∧ps.length+1≤4611686018427387904 ∧
      (∀ j (hj:j<ps.length),∃ pa pc,w.cell? ⟨g,o+j * 4,none⟩=some (.int .i64 5)∧w.cell? ⟨g,o+j * 4+1,none⟩=some (.string ps[j].1)∧w.cell? ⟨g,o+j * 4+2,none⟩=some (.int .i64 (bI ps[j].2))∧w.cell? ⟨g,o+j * 4+3,none⟩=some (.slice pa 0 pc)) ∧
      ∃ sa sc,w.cell? ⟨g,o+ps.length * 4+3,none⟩=some (.slice sa ss.length sc)∧ss.length≤sc∧ss.length≤4611686018427387904∧(ss≠[]→∃ g2 o2,sa=some ⟨g2,o2,none⟩∧g2<B∧LiesAt (·<B) w ss g2 o2):=by
  unfold Kid.tree at h
  have hcap:=h
  obtain ⟨g,o,c,rfl,hg,hl,hkid⟩:=lies_kid h (by simp)
  have hcp:=lies_cap hcap
  simp only [List.length_append,List.length_map,List.length_singleton] at hl hcp hkid ⊢
  refine ⟨g,o,c,rfl,hg,hcp,hl,fun j hj=>?_,?_⟩
  · obtain ⟨kk,xx,mm,aa,na,ca,k0,k1,k2,k3,hle⟩:=hkid j (by omega)
    rw [List.getElem_append_left (by simpa using hj),List.getElem_map] at hle
    unfold parT Lies at hle
    obtain ⟨a',c',e,_,_⟩:=hle
    injection e with e
    simp only [Array.mk.injEq,List.cons.injEq,and_true,Value.int.injEq,Value.string.injEq,Value.slice.injEq,true_and,List.length_nil] at e
    obtain ⟨rfl,rfl,rfl,rfl,rfl,rfl⟩:=e
    exact ⟨aa,ca,k0,k1,k2,k3⟩
  · obtain ⟨kk,xx,mm,aa,na,ca,k0,k1,k2,k3,hle⟩:=hkid ps.length (by omega)
    rw [List.getElem_append_right (by simp)] at hle
    simp only [List.length_map,Nat.sub_self,List.getElem_cons_zero] at hle
    unfold Lies at hle
    obtain ⟨a',c',e,⟨h1,h2⟩,hk⟩:=hle
    injection e with e
    simp only [Array.mk.injEq,List.cons.injEq,and_true,Value.int.injEq,Value.string.injEq,Value.slice.injEq,true_and] at e
    obtain ⟨rfl,rfl,rfl,rfl,rfl,rfl⟩:=e
    exact ⟨aa,ca,k3,h2,h1,hk⟩
theorem cntL_app:∀ a b:List Tree,cntL (a++b)=cntL a+cntL b
  | [],b=>by simp [cntL]
  | t :: r,b=>by
    show cntT t+cntL (r++b)=cntT t+cntL r+cntL b
    rw [cntL_app r b]
    omega
theorem cntL_par:∀ ps:List (ByteArray × Bool),cntL (ps.map parT)=ps.length
  | []=>by simp [cntL]
  | q :: r=>by
    show cntT (parT q)+cntL (r.map parT)=_
    rw [cntL_par r]
    unfold parT
    rw [cntN]
    simp [cntL]
    omega
theorem proc_cnt (x:ByteArray) (p l:Bool) (gv:Option Bool) (ps:List (ByteArray × Bool)) (ss:List Tree):cntT (Kid.proc x p l gv ps (.node 6 empty 0 ss)).tree=1+ps.length+(1+cntL ss):=by
  unfold Kid.tree
  rw [cntN,cntL_app,cntL_par,cntL_one,cntN]
  omega
section
variable {w0 w w':World} {D Kb kn:Nat} {kf:KF} {vs:List VarD} {u:Value} {a:Int}
theorem CS.clear (h:CS w0 w D Kb kn kf vs u a):CS w0 (w.setCell ⟨D,6,none⟩ (.slice none 0 0)) D Kb kn kf [] (.slice none 0 0) a:=by
  refine ⟨h.bs.setCell h.hD _,h.hD,?_,?_,?_,?_,fun k=>?_,h.mp.setCell h.nk _,h.fi,fun p x hc=>⟨(h.fw p x hc).1,(h.fw p x hc).2.1,(World.cell?_of_block (a:=p) (Below.heap_setCell w ⟨D,6,none⟩ _ p.block (h.fw p x hc).1)).trans (h.fw p x hc).2.2⟩,by rw [World.size_setCell];exact h.fm,h.mM,fun b e=>(by cases e),World.ownsRow_nil _ _ _ _,h.nk,h.mx,fun e=>(by cases e)⟩
  · rw [jD _ _ _ _ (by simp)];exact h.c4
  · rw [jD _ _ _ _ (by simp)];exact h.c5
  · exact World.cell?_setCell_same' _ _ _ (by rw [h.c6];rfl)
  · rw [jD _ _ _ _ (by simp)];exact h.c7
  · rw [World.frozen?_setCell];exact h.fz k
end
def PR (w0:World) (D Kb kn:Nat) (kf:KF) (r:Res Int) (e:Ending) (w':World):Prop:=match r with
  | .bad c b=>e=.panicked (Thrown c b)∧Below w0.heap.size w0 w'
  | .ok a=>e=.returned (.tuple #[])∧∃ vs u,CS w0 w' D Kb kn kf vs u a
theorem PR.mkBad {w0 w':World} {D Kb kn:Nat} {kf:KF} {r:Res Int} {c b:Int} (h:r=.bad c b) (hb:Below w0.heap.size w0 w'):PR w0 D Kb kn kf r (.panicked (Thrown c b)) w':=by rw [h];exact ⟨rfl,hb⟩
theorem PR.mkOk {w0 w':World} {D Kb kn:Nat} {kf:KF} {r:Res Int} {vs:List VarD} {u:Value} {a:Int} (h:r=.ok a) (hc:CS w0 w' D Kb kn kf vs u a):PR w0 D Kb kn kf r (.returned (.tuple #[])) w':=by rw [h];exact ⟨rfl,vs,u,hc⟩
def BoxC (W:World) (B:Nat) (cs:Array Value) (T:TypeId):Prop:=W.heap[B]?=some (.cells cs T (0,0))
section
variable {W W':World} {B D:Nat} {cs:Array Value} {T:TypeId} {u u':Value}
theorem BoxC.lt (h:BoxC W B cs T):B<W.heap.size:=(Array.getElem?_eq_some_iff.1 h).1
theorem BoxC.new (W:World) (cs:Array Value) (T:TypeId):BoxC (W.alloc (.cells cs T)) W.heap.size cs T:=World.alloc_heap_new W _
theorem BoxC.fr (h:BoxC W B cs T) (hf:FrU D u u' W W') (h1:B≠D) (h2:u.ownBlock≠some B):BoxC W' B cs T:=(hf.block B h.lt h1 h2).trans h
theorem BoxC.below (h:BoxC W B cs T) (hb:Below W.heap.size W W'):BoxC W' B cs T:=(hb.block B h.lt).trans h
theorem BoxC.grown {row:Option Nat} (h:BoxC W B cs T) (hg:W.grownBy W' row) (hne:row≠some B):BoxC W' B cs T:=(hg.block B h.lt (fun e=>hne e.symm)).trans h
theorem BoxC.alloc (h:BoxC W B cs T) (o:Obj):BoxC (W.alloc o) B cs T:=h.below ((Below.refl _ _).alloc (jE _) o)
theorem BoxC.other (h:BoxC W B cs T) {b o:Nat} (hne:B≠b) (v:Value):BoxC (W.setCell ⟨b,o,none⟩ v) B cs T:=(Below.heap_setCell W ⟨b,o,none⟩ v B hne).trans h
theorem BoxC.set (h:BoxC W B cs T) (i:Nat) (v:Value):BoxC (W.setCell ⟨B,i,none⟩ v) B (cs.setIfInBounds i v) T:=heap_setCell_same W B i cs T v h
theorem BoxC.cell (h:BoxC W B cs T) (i:Nat) {v:Value} (hv:cs[i]?=some v):W.cell? ⟨B,i,none⟩=some v:=by
  simp [World.cell?,show W.heap[B]?=_ from h,hv]
theorem BoxC.fz (h:BoxC W B cs T) (i:Nat):W.frozen? ⟨B,i,none⟩=false:=by
  simp [World.frozen?,show W.heap[B]?=_ from h]
end
end Go.Proofs.YtfopddgjdaoidaaGreatDoor.chk
