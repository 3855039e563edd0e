/- What the program's module comes to: its kids, one by one. -/
import Derived.Test.YtfopddgjdaoidaaGreatDoorNM39
import Derived.Test.YtfopddgjdaoidaaGreatDoorNM41
set_option linter.unusedVariables false
set_option linter.unusedSimpArgs false
set_option maxRecDepth 100000
namespace Go.Proofs.YtfopddgjdaoidaaGreatDoor.chk
open Go.RowKit Go.Shelf
open syn face
structure Rel (own:FV) (gf:ByteArray→Option FV) (fs:List FaceD) (f:ByteArray→Option FV):Prop where
  e:∀ z,eqS z empty=true→f z=some own
  o:∀ z,eqS z empty=false→(f z).map (·.1)=fs.find? (fun q=>eqS q.module z)
  g:∀ z q,eqS z empty=false→f z=some q→gf z=some q
theorem eqS_list {x y:ByteArray}:eqS x y=true ↔ x=y:=by
  unfold eqS
  rw [beq_iff_eq]
  constructor
  · intro h
    cases x;cases y
    rename_i a b
    have:a.toList=b.toList:=by simpa [ByteArray.toList_eq] using h
    congr
    exact Array.toList_inj.1 this
  · intro h
    rw [h]
theorem Rel.start (own:FV) (gf:ByteArray→Option FV):Rel own gf [] (fun z=>if eqS z empty then some own else none) :=
  ⟨fun z h=>by rw [if_pos h],fun z h=>by rw [if_neg (by rw [h];decide)];rfl,fun z q h hq=>by rw [if_neg (by rw [h];decide)] at hq;cases hq⟩
theorem Rel.more {own:FV} {gf:ByteArray→Option FV} {fs:List FaceD} {f:ByteArray→Option FV} (h:Rel own gf fs f) {x:ByteArray} {q:FV} (hx:eqS x empty=false) (hq:gf x=some q) (hm:eqS q.1.module x=true):Rel own gf (fs++[q.1]) (fun z=>if eqS z x then some q else f z):=by
  refine ⟨fun z hz=>?_,fun z hz=>?_,fun z p hz hp=>?_⟩
  · have hzx:eqS z x=false:=by
      cases he:eqS z x with
      | false=>rfl
      | true=>rw [eqS_list.1 he,hx] at hz;cases hz
    rw [if_neg (by rw [hzx];decide)]
    exact h.e z hz
  · rw [List.find?_append]
    cases he:eqS z x with
    | true =>
      obtain rfl:=eqS_list.1 he
      rw [if_pos rfl]
      cases hf:f z with
      | none =>
        have:=h.o z hz
        rw [hf] at this
        rw [← this]
        simp [List.find?,hm]
      | some p =>
        have h1:=h.o z hz
        rw [hf] at h1
        have h2:=h.g z p hz hf
        rw [hq] at h2
        cases h2
        rw [← h1]
        rfl
    | false =>
      rw [if_neg (by decide),h.o z hz]
      have hn:eqS q.1.module z=false:=by
        cases h3:eqS q.1.module z with
        | false=>rfl
        | true =>
          have e1:=eqS_list.1 h3
          have e2:=eqS_list.1 hm
          rw [← e1,e2] at he
          have:eqS x x=true:=eqS_list.2 rfl
          rw [this] at he
          cases he
      simp [List.find?,hn]
  · cases he:eqS z x with
    | true =>
      rw [he,if_pos rfl] at hp
      rw [eqS_list.1 he,hq]
      exact hp
    | false =>
      rw [he,if_neg (by decide)] at hp
      exact h.g z p hz hp
theorem empty_size {x:ByteArray}:x.size=0 ↔ eqS x empty=true:=by
  rw [eqS_list]
  constructor
  · intro h
    cases x with
    | mk d =>
      have:d=#[]:=Array.size_eq_zero_iff.1 h
      rw [this]
      rfl
  · intro h
    rw [h]
    rfl
theorem Rel.face {own:FV} {gf:ByteArray→Option FV} {fs:List FaceD} {f:ByteArray→Option FV} (h:Rel own gf fs f) (x:ByteArray):(f (modOf x)).map (·.1)=faceOf ⟨own.1,fs⟩ x:=by
  unfold faceOf
  by_cases hz:(modOf x).size=0
  · rw [if_pos hz,h.e _ (empty_size.1 hz)]
    rfl
  · rw [if_neg hz]
    refine h.o _ ?_
    cases he:eqS (modOf x) empty with
    | false=>rfl
    | true=>exact absurd (empty_size.2 he) hz
theorem locOf_vs (L:List Loc) (x:ByteArray):locOf (vsOf L) x=(L.reverse.find? (fun l=>eqS l.name x)).map fun l=>⟨l.name,false,l.label,0⟩:=by
  unfold locOf vsOf
  rw [← List.map_reverse,List.find?_map]
  rfl
theorem Rel.tab {own:FV} {gf:ByteArray→Option FV} {fs:List FaceD} {f:ByteArray→Option FV} (h:Rel own gf fs f) (hok:EnvOk ⟨own.1,fs⟩) (L:List Loc) (hL:LabL L):Tab ⟨own.1,fs⟩ L f (vsOf L):=by
  refine ⟨hok,hL,fun x hx=>?_,fun x hx=>?_⟩
  · unfold varP varF
    rw [locOf_vs,← h.face x]
    cases L.reverse.find? (fun l=>eqS l.name x) with
    | some l=>rfl
    | none =>
      dsimp only [Option.map_none]
      cases f (modOf x) with
      | none=>rfl
      | some q=>rfl
  · unfold procP procF
    rw [← h.face x]
    cases f (modOf x) with
    | none=>rfl
    | some q=>rfl
theorem prF_at {E:Env} {q:ProcD} {ps:List (ByteArray × Bool)} {k:Int} {x:ByteArray} {m:Int} {ks:List Tree} {ends:Bool} {a d:Int} (hst:∀ t ∈ ks,StT t) (h:prF E q ps (.node k x m ks) ends a=.ok d):d=a+1+ps.length+1+cntL ks:=by
  rw [prF_is] at h
  split at h
  · cases h
  · rename_i s hs
    have:=(stsF_ok E _ ks _ _ _ _ _ hst hs).2.1
    split at h
    · cases h
    · cases h
      exact this
def erase (w:World) (D:Nat):World:={ w with heap:=w.heap.setIfInBounds D (.cells #[] 0 (0,0)) }
theorem erase_size (w:World) (D:Nat):(erase w D).heap.size=w.heap.size:=by simp [erase]
theorem erase_block (w:World) (D b:Nat) (h:b≠D):(erase w D).heap[b]?=w.heap[b]?:=by
  unfold erase
  exact Array.getElem?_setIfInBounds_ne (fun e=>h e.symm)
theorem erase_grown (w:World) (D:Nat):w.grownBy (erase w D) (some D) :=
  ⟨rfl,rfl,rfl,Nat.le_of_eq (erase_size w D).symm,fun b _ hne=>erase_block w D b (fun e=>hne (by rw [e]))⟩
theorem erase_cell {w:World} {D:Nat} {a:Addr} {v:Value} (h:(erase w D).cell? a=some v):a.block≠D∧w.cell? a=some v:=by
  have hne:a.block≠D:=by
    intro e
    have hlt:=World.block_lt_of_cell? _ a h
    have hb:(erase w D).heap[a.block]?=some (.cells #[] 0 (0,0)):=by
      rw [erase_size] at hlt
      unfold erase
      rw [e]
      rw [e] at hlt
      simp [hlt]
    simp [World.cell?,hb] at h
  exact ⟨hne,by rw [← World.cell?_of_block (a:=a) (erase_block w D a.block hne)];exact h⟩
theorem erase_keep {w:World} {D:Nat} {a:Addr} {v:Value} (hne:a.block≠D) (h:w.cell? a=some v):(erase w D).cell? a=some v:=by
  rw [World.cell?_of_block (a:=a) (erase_block w D a.block hne)]
  exact h
end Go.Proofs.YtfopddgjdaoidaaGreatDoor.chk
namespace Go.Proofs.YtfopddgjdaoidaaGreatDoor.chk
open Go.RowKit Go.Shelf Go.Maps
open syn face
section
variable {w0 w w':World} {D Kb kn:Nat} {kf:KF} {vs:List VarD} {u:Value} {a:Int}
theorem CS.import (h:CS w0 w D Kb kn kf vs u a) {q:FV} {x:ByteArray} (hM:MapF w' Kb (kn+1) (fun z=>if eqS z x then some (fvV q) else fvO (kf.f z))) (hg:w.grownBy w' (some Kb)) (hq:FaceIn kf.W (fvV q) q.1) (hWK:∀ a v,kf.W.cell? a=some v→a.block≠Kb) (hK:w0.heap.size≤Kb) :
    CS w0 w' D Kb (kn+1) { kf with f:=fun z=>if eqS z x then some q else kf.f z } vs u a:=by
  have hbl:=hg.block D h.lt (fun e=>h.nk (by injection e with e;exact e.symm))
  refine ⟨h.bs.grown hg h.bs.size (fun k e=>by injection e with e;rw [← e];exact hK),h.hD,(World.cell?_of_block (a:=⟨D,4,none⟩) hbl).trans h.c4,(World.cell?_of_block (a:=⟨D,5,none⟩) hbl).trans h.c5,(World.cell?_of_block (a:=⟨D,6,none⟩) hbl).trans h.c6,(World.cell?_of_block (a:=⟨D,7,none⟩) hbl).trans h.c7,fun k=>(World.frozen?_of_block (a:=⟨D,k,none⟩) hbl).trans (h.fz k),?_,?_,fun p v hc=>⟨(h.fw p v hc).1,(h.fw p v hc).2.1,(World.cell?_of_block (a:=p) (hg.block p.block (Nat.lt_of_lt_of_le (h.fw p v hc).2.1 h.fm) (fun e=>hWK p v hc (by injection e)))).trans (h.fw p v hc).2.2⟩,Nat.le_trans h.fm hg.size,h.mM,h.fu,h.rl.kept hg ?_,h.nk,h.mx,h.nu⟩
  · have e:(fun z=>fvO (if eqS z x then some q else kf.f z))=(fun z=>if eqS z x then some (fvV q) else fvO (kf.f z)):=by
      funext z
      split <;> rfl
    show MapF w' Kb (kn+1) (fun z=>fvO (if eqS z x then some q else kf.f z))
    rw [e]
    exact hM
  · intro z p hp
    dsimp only at hp
    split at hp
    · cases hp;exact hq
    · exact h.fi z p hp
  · cases e:u.ownBlock with
    | none=>exact .inl rfl
    | some b=>exact .inr (fun e2=>h.nu (e.trans e2))
end
structure M0 (w0 w:World) (D Gb Kb gn:Nat) (gf:ByteArray→Option FV) (m:ByteArray) (k:Option Addr) (n c:Nat) (a:Int):Prop where
  bs:Below w0.heap.size w0 w
  hD:w0.heap.size≤D
  c1:w.cell? ⟨D,1,none⟩=some (.string m)
  c3:w.cell? ⟨D,3,none⟩=some (.slice k n c)
  c4:w.cell? ⟨D,4,none⟩=some (.map (some Gb))
  c5:w.cell? ⟨D,5,none⟩=some (.map (some Kb))
  c6:w.cell? ⟨D,6,none⟩=some (.slice none 0 0)
  c7:w.cell? ⟨D,7,none⟩=some (.int .i64 a)
  fz:∀ k,w.frozen? ⟨D,k,none⟩=false
  mp:MapF w Kb 0 (fun _=>none)
  nk:Kb≠D
  hK:w0.heap.size≤Kb
  mx:HasMax w0
  mg:MapF w0 Gb gn (fun z=>fvO (gf z))
section
variable {w0 w w':World} {D Gb Kb gn:Nat} {gf:ByteArray→Option FV} {m:ByteArray} {k:Option Addr} {n c:Nat} {a:Int}
theorem M0.lt (h:M0 w0 w D Gb Kb gn gf m k n c a):D<w.heap.size:=World.block_lt_of_cell? w ⟨D,5,none⟩ h.c5
theorem M0.setAt (h:M0 w0 w D Gb Kb gn gf m k n c a) (b:Int):M0 w0 (w.setCell ⟨D,7,none⟩ (.int .i64 b)) D Gb Kb gn gf m k n c b :=
  have o:∀ i,i≠7→(w.setCell ⟨D,7,none⟩ (.int .i64 b)).cell? ⟨D,i,none⟩=w.cell? ⟨D,i,none⟩:=fun i hi=>jD w ⟨D,7,none⟩ ⟨D,i,none⟩ _ (by intro e;injection e with _ e;exact hi e.symm)
  ⟨h.bs.setCell h.hD _,h.hD,(o 1 (by decide)).trans h.c1,(o 3 (by decide)).trans h.c3,(o 4 (by decide)).trans h.c4,(o 5 (by decide)).trans h.c5,(o 6 (by decide)).trans h.c6,World.cell?_setCell_same' _ _ _ (by rw [h.c7];rfl),fun k=>by rw [World.frozen?_setCell];exact h.fz k,h.mp.setCell h.nk _,h.nk,h.hK,h.mx,h.mg⟩
theorem M0.below (h:M0 w0 w D Gb Kb gn gf m k n c a) (hb:Below w.heap.size w w'):M0 w0 w' D Gb Kb gn gf m k n c a :=
  have o:∀ i,w'.cell? ⟨D,i,none⟩=w.cell? ⟨D,i,none⟩:=fun i=>hb.cell (p:=⟨D,i,none⟩) h.lt
  ⟨h.bs.trans (hb.mono h.bs.size),h.hD,(o 1).trans h.c1,(o 3).trans h.c3,(o 4).trans h.c4,(o 5).trans h.c5,(o 6).trans h.c6,(o 7).trans h.c7,fun k=>(World.frozen?_of_block (a:=⟨D,k,none⟩) (hb.block D h.lt)).trans (h.fz k),h.mp.below hb,h.nk,h.hK,h.mx,h.mg⟩
theorem M0.own (h:M0 w0 w D Gb Kb gn gf m k n c a) {q:FV} (hM:MapF w' Kb 1 (fun z=>if eqS z empty then some (fvV q) else none)) (hg:w.grownBy w' (some Kb)) {B:Nat} {V:List VarD} {P:List (ProcD × Value)} (hFR:FR (fun b=>b=D∨b=Kb) B w q.2.1 q.2.2 V P) (hV:q.1.vars=V) (hP:q.1.procs=P.map (·.1)) (hl:V.length≤1000) (hl2:P.length≤1000) :
    CS w0 w' D Kb 1 ⟨fun z=>if eqS z empty then some q else none,erase (erase w' D) Kb,w'.heap.size,.map (some Gb)⟩ [] (.slice none 0 0) a:=by
  have hbl:=hg.block D h.lt (fun e=>h.nk (by injection e with e;exact e.symm))
  have hbs:=h.bs.grown hg h.bs.size (fun k e=>by injection e with e;rw [← e];exact h.hK)
  have hF2:FR (fun b=>b=D∨b=Kb) B (erase (erase w' D) Kb) q.2.1 q.2.2 V P:=((hFR.grown hg (fun b e=>.inr (by injection e with e;exact e.symm))).grown (erase_grown w' D) (fun b e=>.inl (by injection e with e;exact e.symm))).grown (erase_grown _ Kb) (fun b e=>.inr (by injection e with e;exact e.symm))
  refine ⟨hbs,h.hD,(World.cell?_of_block (a:=⟨D,4,none⟩) hbl).trans h.c4,(World.cell?_of_block (a:=⟨D,5,none⟩) hbl).trans h.c5,(World.cell?_of_block (a:=⟨D,6,none⟩) hbl).trans h.c6,(World.cell?_of_block (a:=⟨D,7,none⟩) hbl).trans h.c7,fun k=>(World.frozen?_of_block (a:=⟨D,k,none⟩) hbl).trans (h.fz k),?_,?_,fun p v hc=>?_,jE _,hbs.size,fun b e=>(by cases e),World.ownsRow_nil _ _ _ _,h.nk,h.mx,fun e=>(by cases e)⟩
  · have e:(fun z=>fvO (if eqS z empty then some q else none))=(fun z=>if eqS z empty then some (fvV q) else none):=by
      funext z
      split <;> rfl
    show MapF w' Kb 1 (fun z=>fvO (if eqS z empty then some q else none))
    rw [e]
    exact hM
  · intro z p hp
    dsimp only at hp
    split at hp
    · cases hp
      exact ⟨_,_,rfl,by rw [hV];exact vars_in hF2.ov (by omega),by rw [hP];exact procs_in hF2.op (by omega) (fun x hx=>(hF2.par x hx).ints)⟩
    · cases hp
  · obtain ⟨h1,h2⟩:=erase_cell hc
    obtain ⟨h3,h4⟩:=erase_cell h2
    exact ⟨h3,World.block_lt_of_cell? _ p h4,h4⟩
end
def MR (w0:World) (r:Option (Int × Int)) (e:Ending) (w':World):Prop:=Below w0.heap.size w0 w'∧match r with
  | some q=>e=.panicked (Thrown q.1 q.2)
  | none=>e=.returned (.tuple #[])
theorem MR.mkBad {w0 w':World} {r:Option (Int × Int)} {c b:Int} (h:r=some (c,b)) (hb:Below w0.heap.size w0 w'):MR w0 r (.panicked (Thrown c b)) w':=by rw [h];exact ⟨hb,rfl⟩
theorem MR.mkOk {w0 w':World} {r:Option (Int × Int)} (h:r=none) (hb:Below w0.heap.size w0 w'):MR w0 r (.returned (.tuple #[])) w':=by rw [h];exact ⟨hb,rfl⟩
def kidOk:Kid→Prop
  | .imp x=>isName x=true
  | .var _ _ _ n=>0≤n.getD 0
  | .proc _ _ _ _ ps b=>ps.length≤20∧InT b∧BlT b
theorem cntK (K:List Kid) (j:Nat) (h:j<K.length):cntL ((K.take (j+1)).map Kid.tree)=cntL ((K.take j).map Kid.tree)+cntT K[j].tree:=by
  rw [take_succ_kid K j h,List.map_append,cntL_app]
  rw [show [K[j]].map Kid.tree=[K[j].tree] from rfl,cntL_one]
theorem cntK_le (K:List Kid) (j:Nat):cntL ((K.take j).map Kid.tree)≤cntL (K.map Kid.tree):=by
  have h:cntL (K.map Kid.tree)=cntL ((K.take j).map Kid.tree)+cntL ((K.drop j).map Kid.tree):=by
    rw [← cntL_app,← List.map_append,List.take_append_drop]
  have:=cntL_pos ((K.drop j).map Kid.tree)
  omega
theorem var_cnt (x:ByteArray) (p l:Bool) (n:Option Int):cntT (Kid.var x p l n).tree=1+(Kid.var x p l n).kids.length:=by
  rw [Kid.tree_is,cntN]
  cases n with
  | none=>simp [Kid.kids,cntL]
  | some k =>
    unfold Kid.kids
    rw [cntL_one,cntN]
    simp [cntL]
theorem imp_cnt (x:ByteArray):cntT (Kid.imp x).tree=1:=by
  unfold Kid.tree
  rw [cntN]
  simp [cntL]
theorem face_shape {w:World} {q:FV} (h:FaceIn w (fvV q) q.1):∃ m a1 n1 c1 a2 n2 c2,fvV q=.agg #[.string m,.slice a1 n1 c1,.slice a2 n2 c2]:=by
  obtain ⟨vv,pv,e,⟨a,c,e1,_⟩,⟨a2,c2,e2,_⟩⟩:=h
  exact ⟨_,_,_,_,_,_,_,by rw [e,e1,e2]⟩
section
variable {w0:World} {D Gb Kb gn:Nat} {gf:ByteArray→Option FV}
set_option maxHeartbeats 8000000 in
theorem oModule (given:List FaceD) (hG:∀ z,(gf z).map (·.1)=given.find? (fun f=>eqS f.module z)) (hGi:∀ z q,gf z=some q→FaceIn w0 (fvV q) q.1) (hGok:∀ f ∈ given,FaceOk f) (m:ByteArray) (K:List Kid) (a:Option Addr) (c:Nat) (w:World) (h:M0 w0 w D Gb Kb gn gf m a K.length c 0)
    (hKs:K≠[]→∃ g o,a=some ⟨g,o,none⟩∧g<w0.heap.size∧LiesAt (·<w0.heap.size) w0 (K.map Kid.tree) g o) (hKl:K.length≤900) (hgood:∀ k ∈ K,k.good∧kidOk k) (hps:∀ k ∈ K,k.kids.length≤1000) (hcnt:cntL (K.map Kid.tree)≤900000) (hown:FaceOk (faceK true m K)) :
    Calls Tryz.prog 42 #[.pointer (some ⟨D,0,none⟩)] w (MR w0 (moF (faceK true m K) given K [] 1)):=by
  have c24:Tryz.prog.cellsOf 25=4:=by kernel_rfl
  have c3:Tryz.prog.cellsOf 44=3:=cell3
  obtain ⟨R,HR⟩:∃ R,Hid (moF (faceK true m K) given K [] 1=R):=⟨_,rfl⟩
  rw [HR.out]
  have hd:=h.lt
  have hBg:=oBegin D 0 w h.c7 (h.fz 7) (by omega) (by omega)
  go_enter Tryz.func42,Tryz.ntmps42
  go_wp2_with (go_at_call 81;refine hBg.mono ?_;rintro e w1 ⟨rfl,hw1⟩;have h1:M0 w0 w1 D Gb Kb gn gf m a K.length c 1:=by { rw [hw1];exact h.setAt _ };clear hw1)
  have h1:=h1.below (Below.refl w1.heap.size w1).drew
  have hS:(fun W=>W.cell? ⟨D,5,none⟩=some (.map (some Kb))) w1.drew:=h1.c5
  refine wp_region_held_drew (S:=fun W=>W.cell? ⟨D,5,none⟩=some (.map (some Kb))) (by kernel_rfl) hS (fun hHeld=>?_)
  clear hHeld hBg
  generalize w1.drew=W1 at *
  refine tkH (i:=0) (v:=.pointer (some ⟨D,0,none⟩)) rfl (Or.inl ⟨by rfl,fun w hSw=>by have y0:w.cell? ⟨D,5,none⟩=some (.map (some Kb)):=hSw;go_simp⟩) hS ?_
  simp only [Act.put,jA,jB,jC]
  refine tkH (i:=1) (v:=.pointer (some ⟨D,0,none⟩)) rfl (Or.inl ⟨by rfl,fun w hSw=>by have y0:w.cell? ⟨D,5,none⟩=some (.map (some Kb)):=hSw;go_simp⟩) hS ?_
  simp only [Act.put,jA,jB,jC]
  refine tkH (i:=2) (v:=.pointer (some ⟨D,5,none⟩)) rfl (Or.inl ⟨by rfl,fun w hSw=>by have y0:w.cell? ⟨D,5,none⟩=some (.map (some Kb)):=hSw;go_simp⟩) hS ?_
  simp only [Act.put,jA,jB,jC]
  refine tkH (i:=3) (v:=.map (some Kb)) rfl (Or.inl ⟨by rfl,fun w hSw=>by have y0:w.cell? ⟨D,5,none⟩=some (.map (some Kb)):=hSw;go_simp⟩) hS ?_
  simp only [Act.put,jA,jB,jC]
  refine tkH (i:=4) (v:=.pointer (some ⟨D,0,none⟩)) rfl (Or.inl ⟨by rfl,fun w hSw=>by have y0:w.cell? ⟨D,5,none⟩=some (.map (some Kb)):=hSw;go_simp⟩) hS ?_
  simp only [Act.put,jA,jB,jC]
  refine wpAnyH_ready (rs:=[5]) (by kernel_rfl) (by simp) ?_
  refine AllReadyH.cons rfl (fun KK hK=>?_) AllReadyH.nil
  go_simp
  go_at_call 82
  have hKb:=h1.mp.lt
  refine (oDeclared (fun b=>b=D∨b=Kb) w0 D m K a c W1 h1.bs h1.lt (fun b e=>by have:=h1.lt;rcases e with rfl | rfl <;> omega) h1.c1 h1.c3 hKs (by omega) (fun k hk=>(hgood k hk).1) hps).mono ?_
  rintro e w2 ⟨vv,pv,V,P,rfl,hFR,hV,hP,hb2⟩
  have h2:=h1.below hb2
  have hVl:V.length≤1000:=by rw [hV];exact Nat.le_trans (varsK_len true _) (by omega)
  have hPl:P.length≤1000:=by
    have h1:(P.map (·.1)).length=(procsK true K).length:=by rw [hP]
    rw [List.length_map] at h1
    rw [h1]
    exact Nat.le_trans (procsK_len true _) (by omega)
  go_wp2
  refine hK.out _ _ h2.c5 (fun hHeld=>?_)
  clear hK hHeld
  obtain ⟨W2,hrun,hM2,hg2⟩:=h2.mp.store (by unfold maxLen;omega) empty (by decide) (fvV (faceK true m K,vv,pv))
  have hS2:w2.cell? ⟨D,5,none⟩=some (.map (some Kb)):=h2.c5
  have hnDK:D≠Kb:=fun e=>h2.nk e.symm
  refine wpAnyH_ready (rs:=[6]) (by kernel_rfl) (by simp) ?_
  refine AllReadyH.cons rfl (fun KK hK=>?_) AllReadyH.nil
  have hrun':(Instr.mapUpdate 60 (.map (some Kb)) (.string ⟨#[]⟩) (.agg #[.string m,vv,pv])).run Tryz.prog w2=.ok () W2:=hrun
  go_simp
  have hS3:W2.cell? ⟨D,5,none⟩=some (.map (some Kb)):=cell_grown hg2 h2.c5 (by simp;omega)
  refine hK.out _ _ hS3 (fun hHeld=>?_)
  clear hK hHeld hrun hrun'
  refine wpAnyH_done (by kernel_rfl) ?_ _
  have hI0:=h2.own (q:=(faceK true m K,vv,pv)) hM2 hg2 hFR hV.symm hP.symm hVl hPl
  have hRel:=Rel.start (faceK true m K,vv,pv) gf
  have hWK:∀ p v,(erase (erase W2 D) Kb).cell? p=some v→p.block≠Kb:=fun p v hc=>(erase_cell hc).1
  have hW0:∀ p v,w0.cell? p=some v→(erase (erase W2 D) Kb).cell? p=some v:=fun p v hc=>by
    have hlt:=World.block_lt_of_cell? w0 p hc
    have h9:=h2.hD
    have h8:=h2.hK
    exact erase_keep (by omega) (erase_keep (by omega) ((hI0.bs.cell (p:=p) hlt).trans hc))
  have hK0:=h2.hK
  have mg:=h2.mg
  have z3:W2.cell? ⟨D,3,none⟩=some (.slice a K.length c):=cell_grown hg2 h2.c3 (by simp;omega)
  go_wp2
  clear h h1 h2 hFR hV hP hb2 hM2 hg2 hS hS2 hS3 z3
  generalize erase (erase W2 D) Kb=W0 at *
  generalize W2.heap.size=M at *
  go_loopw [19] (fun t wr=>∃ (j kn:Nat) (fs:List FaceD) (f:ByteArray→Option FV) (vs:List VarD) (u:Value),j≤K.length∧t=.int .i64 j∧kn≤j+1∧Hid (Rel (faceK true m K,vv,pv) gf fs f)∧Hid (∀ q ∈ fs,q ∈ given)∧CS w0 wr D Kb kn ⟨f,W0,M,.map (some Gb)⟩ vs u (1+cntL ((K.take j).map Kid.tree))∧Hid (R=moF (faceK true m K) given (K.drop j) fs (1+cntL ((K.take j).map Kid.tree)))) (fun t _=>K.length - (intOf t).toNat)
  case atStart=>exact ⟨0,1,[],_,_,_,Nat.zero_le _,rfl,by omega,hRel,(fun q hq=>by cases hq),by simpa [cntL] using hI0,by show _=_;rw [← HR.out];simp [cntL]⟩
  case round =>
    clear hI0 hRel HR
    obtain ⟨j,kn,fs,f,vs,u,hj,rfl,hkn,HRel,HFs,hI,HRR⟩:=hrel
    by_cases hlt:j<K.length
    · obtain ⟨g,o,rfl,hg,hat⟩:=hKs (by intro e;rw [e] at hlt;simp at hlt)
      obtain ⟨ka,kc,j0,j1,j2,j3,hl0⟩:=kid_cells hg hat (Below.refl _ _) hlt
      have k0:=(hI.bs.cell (p:=⟨g,o+j * 4,none⟩) hg).trans j0
      have k1:=(hI.bs.cell (p:=⟨g,o+j * 4+1,none⟩) hg).trans j1
      have k2:=(hI.bs.cell (p:=⟨g,o+j * 4+2,none⟩) hg).trans j2
      have k3:=(hI.bs.cell (p:=⟨g,o+j * 4+3,none⟩) hg).trans j3
      obtain ⟨hgk,hok⟩:=hgood _ (List.getElem_mem hlt)
      have hpk:=hps _ (List.getElem_mem hlt)
      have hcn:=cntK K j hlt
      have hcl:=cntK_le K (j+1)
      have hc0:=cntL_pos ((K.take j).map Kid.tree)
      have hct:=cntT_pos K[j].tree
      have HD:Hid (K.drop j=K[j] :: K.drop (j+1)):=List.drop_eq_getElem_cons hlt
      have hD2:=hI.lt
      have hEnv:EnvOk ⟨faceK true m K,fs⟩:=⟨hown,fun q hq=>hGok q (HFs.out q hq)⟩
      have HT:Hid (∀ L,LabL L→Tab ⟨faceK true m K,fs⟩ L f (vsOf L)):=fun L hL=>HRel.out.tab hEnv L hL
      clear hat hKs j0 j1 j2 j3 hgood hps hEnv
      generalize hkj:K[j]=kid at *
      clear hkj
      have hata:(0:Int)≤1+cntL ((K.take j).map Kid.tree):=by omega
      have hatb:1+cntL ((K.take (j+1)).map Kid.tree)≤900001:=by omega
      obtain ⟨at2,Hat2⟩:∃ at2,Hid (1+cntL ((K.take (j+1)).map Kid.tree)=at2):=⟨_,rfl⟩
      have Hcn:Hid (at2=1+cntL ((K.take j).map Kid.tree)+cntT kid.tree):=by show _=_;have:=Hat2.out;omega
      have hatc:at2≤900001:=by rw [← Hat2.out];exact hatb
      clear hcn hcl hc0 hatb
      generalize 1+cntL ((K.take j).map Kid.tree)=at_ at *
      cases kid with
      | imp x =>
        have hxs:x.size≤16:=hgk
        have hxe:eqS x empty=false:=by
          cases he:eqS x empty with
          | false=>rfl
          | true =>
            have h9:isName x=true:=hok
            rw [eqS_list.1 he] at h9
            exact absurd h9 (by decide)
        have hat2:=Hcn.out
        rw [imp_cnt] at hat2
        subst hat2
        simp only [Kid.kind,Kid.text,Kid.num] at k0 k1 k2
        generalize (Kid.imp x).kids.length=kl at *
        have HM:Hid (R=match given.find? (fun f=>eqS f.module x) with
            | none=>some (4,at_)
            | some f=>moF (faceK true m K) given (K.drop (j+1)) (fs++[f]) (at_+1)):=HRR.out.trans (by rw [HD.out];simp only [moF];rfl)
        clear HRR HD hl0 hgk hok hpk HT Hcn hct
        have hI2:=hI.alloc (.cells #[.int .i64 2,.string x,.int .i64 0,.slice ka kl kc] 25)
        have hQ:=BoxC.new wr  #[.int .i64 2,.string x,.int .i64 0,.slice ka kl kc] 25
        have hBg:=hI2.begin (by omega) (by omega)
        go_wp2_with (go_at_call 81;refine hBg.mono ?_;rintro e w3 ⟨rfl,hw3⟩;have hI3:CS w0 w3 D Kb kn ⟨f,W0,M,.map (some Gb)⟩ vs u (at_+1):=by { rw [hw3];exact hI2.setAt _ };have hQ3:BoxC w3 wr.heap.size  #[.int .i64 2,.string x,.int .i64 0,.slice ka kl kc] 25:=by { rw [hw3];exact hQ.other (by omega) _ };clear hw3;have r0:=hQ3.cell 0 rfl;have r1:=hQ3.cell 1 rfl;have r2:=hQ3.cell 2 rfl;have r3:=hQ3.cell 3 rfl)
        have hImp:=oImported D Gb Kb gn kn (fun z=>fvO (gf z)) (fun z=>fvO (f z)) x at_ w3 hI3.c4 hI3.c5 (mg.below hI3.bs) hI3.mp (by omega) (by omega) (fun e=>hI3.nk e.symm) (fun v hv=>by
          cases hq:gf x with
          | none=>rw [show fvO (gf x)=none by rw [hq];rfl] at hv;cases hv
          | some q =>
            rw [show fvO (gf x)=some (fvV q) by rw [hq];rfl] at hv
            cases hv
            exact face_shape (hGi x q hq))
        refine hImp.mono ?_
        rintro e w4 (⟨hn,rfl,hb4⟩ | ⟨v,hs,rfl,hM4,hg4⟩)
        · have HB:Hid (R=some (4,at_)):=by
            show _=_
            rw [HM.out,← hG x]
            cases hq:gf x with
            | none=>rfl
            | some q=>rw [show fvO (gf x)=some (fvV q) by rw [hq];rfl] at hn;cases hn
          clear HM
          go_wp2
          exact ⟨rfl,MR.mkBad HB.out (hI3.bs.trans (hb4.mono hI3.bs.size))⟩
        · obtain ⟨q,hq⟩:∃ q,gf x=some q:=by
            cases hq:gf x with
            | none=>rw [show fvO (gf x)=none by rw [hq];rfl] at hs;cases hs
            | some q=>exact ⟨q,rfl⟩
          rw [show fvO (gf x)=some (fvV q) by rw [hq];rfl] at hs
          cases hs
          have hfind:given.find? (fun f=>eqS f.module x)=some q.1:=by rw [← hG x,hq];rfl
          have hmq:eqS q.1.module x=true:=by simpa using List.find?_some hfind
          have HB:Hid (R=moF (faceK true m K) given (K.drop (j+1)) (fs++[q.1]) (at_+1)):=by
            show _=_
            rw [HM.out,hfind]
          have hI4:=hI3.import (q:=q) (x:=x) hM4 hg4 (FaceIn.mono hW0 (hGi x q hq)) hWK hK0
          have HR4:Hid _:=HRel.out.more hxe hq hmq
          have HF4:Hid (∀ p ∈ fs++[q.1],p ∈ given):=fun p hp=>by
            rcases List.mem_append.1 hp with h | h
            · exact HFs.out p h
            · simp only [List.mem_singleton] at h
              rw [h]
              exact List.mem_of_find?_eq_some hfind
          clear HM hfind
          go_wp2
          exact ⟨⟨j+1,kn+1,fs++[q.1],_,vs,u,by omega,by simp,by omega,HR4,HF4,by rw [Hat2.out];exact hI4,by show _=_;rw [Hat2.out];exact HB.out⟩,by simp [intOf];omega⟩
      | var x p l n =>
        have hat2:=Hcn.out
        rw [var_cnt] at hat2
        have HM:Hid (R=moF (faceK true m K) given (K.drop (j+1)) fs (at_+1+(Kid.var x p l n).kids.length)):=HRR.out.trans (by rw [HD.out];simp only [moF])
        clear HRR HD hl0 hgk hok HT Hcn
        simp only [Kid.kind,Kid.text,Kid.num] at k0 k1 k2
        generalize 2 * bI p+bI l=km at *
        generalize (Kid.var x p l n).kids.length=kl at *
        subst hat2
        have hI2:=hI.alloc (.cells #[.int .i64 3,.string x,.int .i64 km,.slice ka kl kc] 25)
        have hQ:=BoxC.new wr  #[.int .i64 3,.string x,.int .i64 km,.slice ka kl kc] 25
        have hBg:=hI2.begin (by omega) (by omega)
        go_wp2_with (go_at_call 81;refine hBg.mono ?_;rintro e w3 ⟨rfl,hw3⟩;have hI3:CS w0 w3 D Kb kn ⟨f,W0,M,.map (some Gb)⟩ vs u (at_+1):=by { rw [hw3];exact hI2.setAt _ };have hQ3:BoxC w3 wr.heap.size  #[.int .i64 3,.string x,.int .i64 km,.slice ka kl kc] 25:=by { rw [hw3];exact hQ.other (by omega) _ };clear hw3;have r0:=hQ3.cell 0 rfl;have r1:=hQ3.cell 1 rfl;have r2:=hQ3.cell 2 rfl;have r3:=hQ3.cell 3 rfl)
        have m7:=hI3.c7
        have mf7:=hI3.fz 7
        have hkl2:(kl:Int)≤1000:=by omega
        go_region
        all_goals
          go_wp2
          exact ⟨⟨j+1,kn,fs,f,vs,u,by omega,by simp,by omega,HRel,HFs,by rw [Hat2.out,show at_+(1+(kl:Int))=at_+1+kl by omega];exact (hI3.setAt _).drew,by show _=_;rw [Hat2.out,show at_+(1+(kl:Int))=at_+1+kl by omega];exact HM.out⟩,by simp [intOf];omega⟩
      | proc x p l gv ps b =>
        obtain ⟨hp20,hInT,hBl⟩:=hok
        obtain ⟨ss,rfl,hst⟩:∃ ss,b=.node 6 empty 0 ss∧∀ t ∈ ss,StT t:=by
          cases hBl with
          | mk h=>exact ⟨_,rfl,h⟩
        have hat2:=Hcn.out
        have HM:Hid (R=match prF ⟨faceK true m K,fs⟩ (procD x p l gv ps) ps (.node 6 empty 0 ss) (endsT (.node 6 empty 0 ss)) at_ with
            | .bad c d=>some (c,d)
            | .ok d=>moF (faceK true m K) given (K.drop (j+1)) fs d):=HRR.out.trans (by rw [HD.out];simp only [moF];rfl)
        have HX:Hid (∀ d,prF ⟨faceK true m K,fs⟩ (procD x p l gv ps) ps (.node 6 empty 0 ss) (endsT (.node 6 empty 0 ss)) at_=.ok d→d=at2):=fun d hd=>by
          have:=prF_at hst hd
          rw [proc_cnt] at hat2
          omega
        have hPr:=fun W (hI:CS w0 W D Kb kn ⟨f,W0,M,.map (some Gb)⟩ vs u (at_+1))=>oProc (kf:=⟨f,W0,M,.map (some Gb)⟩) x p l gv ps ss HT.out hst hp20 hInT _ W at_ vs u hl0 hI (by omega) (by omega)
        have hle9:at_≤900001:=by omega
        clear HRR HD hl0 hgk HT Hcn hat2
        simp only [Kid.kind,Kid.text,Kid.num] at k0 k1 k2 hPr
        generalize prF ⟨faceK true m K,fs⟩ (procD x p l gv ps) ps (.node 6 empty 0 ss) (endsT (.node 6 empty 0 ss)) at_=X at *
        generalize 2 * bI p+bI l+gI gv=km at *
        generalize (Kid.proc x p l gv ps (.node 6 empty 0 ss)).kids.length=kl at *
        have hI2:=hI.alloc (.cells #[.int .i64 4,.string x,.int .i64 km,.slice ka kl kc] 25)
        have hQ:=BoxC.new wr  #[.int .i64 4,.string x,.int .i64 km,.slice ka kl kc] 25
        have hBg:=hI2.begin (by omega) (by omega)
        go_wp2_with (go_at_call 81;refine hBg.mono ?_;rintro e w3 ⟨rfl,hw3⟩;have hI3:CS w0 w3 D Kb kn ⟨f,W0,M,.map (some Gb)⟩ vs u (at_+1):=by { rw [hw3];exact hI2.setAt _ };have hQ3:BoxC w3 wr.heap.size  #[.int .i64 4,.string x,.int .i64 km,.slice ka kl kc] 25:=by { rw [hw3];exact hQ.other (by omega) _ };clear hw3;have r0:=hQ3.cell 0 rfl;have r1:=hQ3.cell 1 rfl;have r2:=hQ3.cell 2 rfl;have r3:=hQ3.cell 3 rfl)
        refine (hPr _ hI3).mono ?_
        cases X with
        | bad cc bb =>
          have HB:Hid (R=some (cc,bb)):=HM.out
          clear HM hPr
          rintro e w4 ⟨rfl,hb4⟩
          go_wp2
          exact ⟨rfl,MR.mkBad HB.out hb4⟩
        | ok d =>
          obtain rfl:=HX.out d rfl
          have HB:Hid (R=moF (faceK true m K) given (K.drop (j+1)) fs d):=HM.out
          clear HM hPr HX
          rintro e w4 ⟨rfl,vs4,u4,hI4⟩
          go_wp2
          exact ⟨⟨j+1,kn,fs,f,vs4,u4,by omega,by simp,by omega,HRel,HFs,by rw [Hat2.out];exact hI4,by show _=_;rw [Hat2.out];exact HB.out⟩,by simp [intOf];omega⟩
    · obtain rfl:j=K.length:=by omega
      have HX:Hid (R=none):=by
        show _=_
        rw [HRR.out,List.drop_eq_nil_of_le (by omega)]
        rfl
      clear HRR hKs
      go_wp2
      go_end0
      exact MR.mkOk HX.out hI.bs
end
end Go.Proofs.YtfopddgjdaoidaaGreatDoor.chk
