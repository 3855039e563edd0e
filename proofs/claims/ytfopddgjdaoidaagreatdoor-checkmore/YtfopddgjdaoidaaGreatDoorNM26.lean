/- What the program's place comes to, if its kids' expressions come to what they should. -/
import Derived.Test.YtfopddgjdaoidaaGreatDoorNM25
import Derived.Lib.BufferOwn
set_option linter.unusedVariables false
set_option linter.unusedSimpArgs false
set_option maxRecDepth 100000
namespace Go.Proofs.YtfopddgjdaoidaaGreatDoor.chk
open Go.RowKit Go.Shelf
open syn face
structure KF where
  f:ByteArray→Option FV
  W:World
  M:Nat
  G:Value
instance:Coe KF (ByteArray→Option FV):=⟨KF.f⟩
theorem IntsIn.mono {w w':World} (hc:∀ a v,w.cell? a=some v→w'.cell? a=some v) {v:Value} {l:List Int} (h:IntsIn w v l):IntsIn w' v l:=by
  obtain ⟨a,c,e,hl,hk⟩:=h
  refine ⟨a,c,e,hl,fun hne=>?_⟩
  obtain ⟨g,o,e2,hat⟩:=hk hne
  exact ⟨g,o,e2,fun i hi=>hc _ _ (hat i hi)⟩
theorem FaceIn.mono {w w':World} (hc:∀ a v,w.cell? a=some v→w'.cell? a=some v) {v:Value} {f:FaceD} (h:FaceIn w v f):FaceIn w' v f:=by
  obtain ⟨vv,pv,e,⟨a,c,e1,hl,hk⟩,⟨a2,c2,e2,hl2,hk2⟩⟩:=h
  refine ⟨vv,pv,e,⟨a,c,e1,hl,fun hne=>?_⟩,⟨a2,c2,e2,hl2,fun hne=>?_⟩⟩
  · obtain ⟨g,o,e3,hat⟩:=hk hne
    exact ⟨g,o,e3,fun i hi=>⟨hc _ _ (hat i hi).1,hc _ _ (hat i hi).2.1,hc _ _ (hat i hi).2.2.1,hc _ _ (hat i hi).2.2.2⟩⟩
  · obtain ⟨g,o,e3,hat⟩:=hk2 hne
    refine ⟨g,o,e3,fun i hi=>?_⟩
    obtain ⟨h1,h2,⟨u,h3,h4⟩,h5,h6,h7⟩:=hat i hi
    exact ⟨hc _ _ h1,hc _ _ h2,⟨u,hc _ _ h3,IntsIn.mono hc h4⟩,hc _ _ h5,hc _ _ h6,hc _ _ h7⟩
structure CS (w0 w:World) (D Kb kn:Nat) (kf:KF) (vs:List VarD) (u:Value) (a:Int):Prop where
  bs:Below w0.heap.size w0 w
  hD:w0.heap.size≤D
  c4:w.cell? ⟨D,4,none⟩=some kf.G
  c5:w.cell? ⟨D,5,none⟩=some (.map (some Kb))
  c6:w.cell? ⟨D,6,none⟩=some u
  c7:w.cell? ⟨D,7,none⟩=some (.int .i64 a)
  fz:∀ k,w.frozen? ⟨D,k,none⟩=false
  mp:MapF w Kb kn (fun z=>fvO (kf.f z))
  fi:∀ z q,kf.f z=some q→FaceIn kf.W (fvV q) q.1
  fw:∀ a v,kf.W.cell? a=some v→a.block≠D∧a.block<kf.M∧w.cell? a=some v
  fm:kf.M≤w.heap.size
  mM:w0.heap.size≤kf.M
  fu:∀ b,u.ownBlock=some b→kf.M≤b
  rl:w.ownsRow (D+1) 76 4 u vs.length (varCells vs)
  nk:Kb≠D
  mx:HasMax w0
  nu:u.ownBlock≠some Kb
section
variable {w0 w w':World} {D Kb kn:Nat} {kf:KF} {vs:List VarD} {u:Value} {a:Int}
theorem CS.lt (h:CS w0 w D Kb kn kf vs u a):D<w.heap.size:=World.block_lt_of_cell? w ⟨D,5,none⟩ h.c5
theorem CS.below (h:CS w0 w D Kb kn kf vs u a) (hb:Below w.heap.size w w'):CS w0 w' D Kb kn kf vs u a :=
  ⟨h.bs.trans (hb.mono h.bs.size),h.hD,(hb.cell (p:=⟨D,4,none⟩) h.lt).trans h.c4,(hb.cell (p:=⟨D,5,none⟩) h.lt).trans h.c5,(hb.cell (p:=⟨D,6,none⟩) h.lt).trans h.c6,(hb.cell (p:=⟨D,7,none⟩) h.lt).trans h.c7,fun k=>(World.frozen?_of_block (a:=⟨D,k,none⟩) (hb.block D h.lt)).trans (h.fz k),h.mp.below hb,h.fi,fun p v hc=>⟨(h.fw p v hc).1,(h.fw p v hc).2.1,(hb.cell (p:=p) (Nat.lt_of_lt_of_le (h.fw p v hc).2.1 h.fm)).trans (h.fw p v hc).2.2⟩,Nat.le_trans h.fm hb.size,h.mM,h.fu,own_keep h.rl hb,h.nk,h.mx,h.nu⟩
theorem CS.alloc (h:CS w0 w D Kb kn kf vs u a) (o:Obj):CS w0 (w.alloc o) D Kb kn kf vs u a:=h.below ((Below.refl _ _).alloc (jE _) o)
theorem CS.drew (h:CS w0 w D Kb kn kf vs u a):CS w0 w.drew D Kb kn kf vs u a:=h.below (Below.refl _ _).drew
theorem CS.other (h:CS w0 w D Kb kn kf vs u a) {b o:Nat} (h1:b≠D) (h2:b≠Kb) (h3:u.ownBlock≠some b) (h4:kf.M≤b) (v:Value):CS w0 (w.setCell ⟨b,o,none⟩ v) D Kb kn kf vs u a :=
  have hbl:=Below.heap_setCell w ⟨b,o,none⟩ v D (fun e=>h1 e.symm)
  ⟨h.bs.setCell (Nat.le_trans h.mM h4) _,h.hD,(World.cell?_of_block (a:=⟨D,4,none⟩) hbl).trans h.c4,(World.cell?_of_block (a:=⟨D,5,none⟩) hbl).trans h.c5,(World.cell?_of_block (a:=⟨D,6,none⟩) hbl).trans h.c6,(World.cell?_of_block (a:=⟨D,7,none⟩) hbl).trans h.c7,fun k=>(World.frozen?_of_block (a:=⟨D,k,none⟩) hbl).trans (h.fz k),h.mp.setCell (fun e=>h2 e.symm) _,h.fi,fun p x hc=>⟨(h.fw p x hc).1,(h.fw p x hc).2.1,(World.cell?_of_block (a:=p) (Below.heap_setCell w ⟨b,o,none⟩ v p.block (fun e=>Nat.not_lt.2 h4 (by have e':p.block=b:=e;rw [← e'];exact (h.fw p x hc).2.1)))).trans (h.fw p x hc).2.2⟩,by rw [World.size_setCell];exact h.fm,h.mM,h.fu,ownsRow_setCell_other h.rl h3 _,h.nk,h.mx,h.nu⟩
theorem CS.setAt (h:CS w0 w D Kb kn kf vs u a) (b:Int):CS w0 (w.setCell ⟨D,7,none⟩ (.int .i64 b)) D Kb kn kf vs u b :=
  ⟨h.bs.setCell h.hD _,h.hD,(jD w ⟨D,7,none⟩ ⟨D,4,none⟩ _ (by simp)).trans h.c4,(jD w ⟨D,7,none⟩ ⟨D,5,none⟩ _ (by simp)).trans h.c5,(jD w ⟨D,7,none⟩ ⟨D,6,none⟩ _ (by simp)).trans h.c6,World.cell?_setCell_same' _ _ _ (by rw [h.c7];rfl),fun k=>by rw [World.frozen?_setCell];exact h.fz k,h.mp.setCell h.nk _,h.fi,fun p x hc=>⟨(h.fw p x hc).1,(h.fw p x hc).2.1,(World.cell?_of_block (a:=p) (Below.heap_setCell w ⟨D,7,none⟩ _ p.block (h.fw p x hc).1)).trans (h.fw p x hc).2.2⟩,by rw [World.size_setCell];exact h.fm,h.mM,h.fu,ownsRow_setCell_other h.rl (fun e=>by have h2:D+1≤D:=(h.rl.lt _ e).1;omega) _,h.nk,h.mx,h.nu⟩
theorem CS.faces (h:CS w0 w D Kb kn kf vs u a) (z:ByteArray) (q:FV) (hq:kf.f z=some q):FaceIn w (fvV q) q.1:=FaceIn.mono (fun p v hc=>(h.fw p v hc).2.2) (h.fi z q hq)
theorem CS.max (h:CS w0 w D Kb kn kf vs u a):HasMax w:=hasMax_below h.mx h.bs
theorem CS.grown (h:CS w0 w D Kb kn kf vs u a) {row:Option Nat} (hg:w.grownBy w' row) (hr:∀ b,row=some b→b≠D∧b≠Kb∧u.ownBlock≠some b∧kf.M≤b):CS w0 w' D Kb kn kf vs u a:=by
  have hbl:=hg.block D h.lt (fun e=>(hr D e.symm).1 rfl)
  refine ⟨h.bs.grown hg h.bs.size (fun k e=>Nat.le_trans h.mM (hr k e).2.2.2),h.hD,(World.cell?_of_block (a:=⟨D,4,none⟩) hbl).trans h.c4,(World.cell?_of_block (a:=⟨D,5,none⟩) hbl).trans h.c5,(World.cell?_of_block (a:=⟨D,6,none⟩) hbl).trans h.c6,(World.cell?_of_block (a:=⟨D,7,none⟩) hbl).trans h.c7,fun k=>(World.frozen?_of_block (a:=⟨D,k,none⟩) hbl).trans (h.fz k),h.mp.kept hg (fun e=>(hr Kb e.symm).2.1 rfl),h.fi,fun p x hc=>⟨(h.fw p x hc).1,(h.fw p x hc).2.1,(World.cell?_of_block (a:=p) (hg.block p.block (Nat.lt_of_lt_of_le (h.fw p x hc).2.1 h.fm) (fun e=>Nat.not_lt.2 (hr _ e.symm).2.2.2 (h.fw p x hc).2.1))).trans (h.fw p x hc).2.2⟩,Nat.le_trans h.fm hg.size,h.mM,h.fu,h.rl.kept hg ?_,h.nk,h.mx,h.nu⟩
  cases e:u.ownBlock with
  | none=>exact .inl rfl
  | some b=>exact .inr (fun e2=>(hr b e2.symm).2.2.1 e)
theorem CS.put4 (h:CS w0 w D Kb kn kf vs u a) {b:Nat} (h1:b≠D) (h2:b≠Kb) (h3:u.ownBlock≠some b) (h4:kf.M≤b) (x0 x1 x2 x3:Value):CS w0 ((((w.setCell ⟨b,0,none⟩ x0).setCell ⟨b,1,none⟩ x1).setCell ⟨b,2,none⟩ x2).setCell ⟨b,3,none⟩ x3) D Kb kn kf vs u a :=
  (((h.other h1 h2 h3 h4 _).other h1 h2 h3 h4 _).other h1 h2 h3 h4 _).other h1 h2 h3 h4 _
theorem CS.variable (h:CS w0 w D Kb kn kf vs u a) (hl:vs.length≤1000) {x:ByteArray} (hx:LongN x) (at_:Int) :
    Calls Tryz.prog 202 #[.pointer (some ⟨D,0,none⟩),.string x,.int .i64 at_] w fun e w'=>VP (varP kf vs x) at_ w e w' :=
  oVariable D Kb kn kf.f vs u x at_ w h.c5 h.c6 h.mp h.faces (rowV_own h.rl) hl hx h.max
theorem CS.procedure (h:CS w0 w D Kb kn kf vs u a) {x:ByteArray} (hx:LongN x) (at_:Int) :
    Calls Tryz.prog 203 #[.pointer (some ⟨D,0,none⟩),.string x,.int .i64 at_] w fun e w'=>PP (procP kf x) at_ w e w' :=
  oProcedure D Kb kn kf.f x at_ w h.c5 h.mp h.faces hx h.max
theorem CS.begin (h:CS w0 w D Kb kn kf vs u a) (h0:0≤a) (h1:a≤1000000) :
    Calls Tryz.prog 81 #[.pointer (some ⟨D,0,none⟩)] w fun e w'=>e=.returned (.int .i64 a)∧w'=w.setCell ⟨D,7,none⟩ (.int .i64 (a+1)) :=
  oBegin D a w h.c7 (h.fz 7) h0 h1
end
theorem fr_put {r b o:Nat} {w w1:World} (h:Fr r w w1) (hb:w.heap.size≤b) (v:Value):Fr r w (w1.setCell ⟨b,o,none⟩ v) :=
  World.grownBy.andThen h (Go.Lib.grownBy_setCell w1 b o v) (fun j e=>by cases e;exact .inl hb)
theorem fr_put4 {r b:Nat} {w w1:World} (h:Fr r w w1) (hb:w.heap.size≤b) (x0 x1 x2 x3:Value):Fr r w ((((w1.setCell ⟨b,0,none⟩ x0).setCell ⟨b,1,none⟩ x1).setCell ⟨b,2,none⟩ x2).setCell ⟨b,3,none⟩ x3) :=
  fr_put (fr_put (fr_put (fr_put h hb _) hb _) hb _) hb _
def EX (w0:World) (D Kb kn:Nat) (kf:KF) (vs:List VarD) (u:Value) (w:World) (r:Res (Int × Int)) (e:Ending) (w':World):Prop:=match r with
  | .bad c b=>e=.panicked (Thrown c b)∧Below w0.heap.size w0 w'
  | .ok q=>e=.returned (.int .i64 q.1)∧CS w0 w' D Kb kn kf vs u q.2∧Fr D w w'
end Go.Proofs.YtfopddgjdaoidaaGreatDoor.chk
namespace Go.Proofs.YtfopddgjdaoidaaGreatDoor.chk
open Go.RowKit
open syn face
theorem len_cnt:∀ l:List Tree,(l.length:Int)≤cntL l
  | []=>by simp [cntL]
  | t :: r=>by
    have h1:=cntT_pos t
    have h2:=len_cnt r
    show ((r.length+1:Nat):Int)≤cntT t+cntL r
    omega
theorem exF_bad {E:Env} {L:List Loc} {ctx:Int} {alone:Bool} {k:Int} {x:ByteArray} {m:Int} {ks:List Tree} {a c b:Int} (h:exL E L ctx ks (a+1)=.bad c b):exF E L ctx alone (.node k x m ks) a=.bad c b:=by
  simp only [exF,h]
theorem exF_ok {E:Env} {L:List Loc} {ctx:Int} {alone:Bool} {k:Int} {x:ByteArray} {m:Int} {ks:List Tree} {a a':Int} {ls:List Int} (h:exL E L ctx ks (a+1)=.ok (ls,a')):exF E L ctx alone (.node k x m ks) a=match ownF E L ctx alone k x ls a with
    | .bad c b=>.bad c b
    | .ok l=>.ok (l,a'):=by
  simp only [exF,h]
  rfl
theorem own18 (E:Env) (L:List Loc) (ctx:Int) (alone:Bool) (x:ByteArray) (ls:List Int) (a an:Int):(match ownF E L ctx alone 18 x ls a with
    | .bad c b=>Res.bad c b
    | .ok l=>.ok (l,an))=match procF E x with
    | none=>.bad 4 a
    | some p=>if p.params.length≠ls.length then .bad 6 a else if p.gives=false∧alone=false then .bad 3 a else if argsOk p.params ls=false then .bad 7 a else if p.writes≠1∧ctx≠0 then .bad 7 a else .ok (p.given,an):=by
  unfold ownF
  rw [if_neg (by decide),if_neg (by decide),if_pos rfl]
  cases procF E x with
  | none=>rfl
  | some p =>
    dsimp only
    by_cases h1:p.params.length≠ls.length
    · rw [if_pos h1,if_pos h1]
    · rw [if_neg h1,if_neg h1]
      by_cases h2:p.gives=false∧alone=false
      · rw [if_pos h2,if_pos h2]
      · rw [if_neg h2,if_neg h2]
        by_cases h3:argsOk p.params ls=false
        · rw [if_pos h3,if_pos h3]
        · rw [if_neg h3,if_neg h3]
          by_cases h4:p.writes≠1∧ctx≠0
          · rw [if_pos h4,if_pos h4]
          · rw [if_neg h4,if_neg h4]
end Go.Proofs.YtfopddgjdaoidaaGreatDoor.chk
namespace Go.Proofs.YtfopddgjdaoidaaGreatDoor.chk
open Go.RowKit Go.Shelf
open syn face
def plP (kf:ByteArray→Option FV) (vs:List VarD) (k:Int) (x:ByteArray) (a:Int):Res (List Int × Int)→Res (VarD × Int × Int)
  | .bad c b=>.bad c b
  | .ok q=>match varP kf vs x with
    | none=>.bad 4 a
    | some v=>if decide (0<v.size)=(k==17) then .ok (v,q.1.getLast?.getD 0,q.2) else .bad 3 a
def PL (w0:World) (D Kb kn:Nat) (kf:KF) (vs:List VarD) (u:Value) (w:World) (r:Res (VarD × Int × Int)) (e:Ending) (w':World):Prop:=match r with
  | .bad c b=>e=.panicked (Thrown c b)∧Below w0.heap.size w0 w'
  | .ok q=>e=.returned (.tuple #[varV q.1,.int .i64 q.2.1])∧CS w0 w' D Kb kn kf vs u q.2.2∧Fr D w w'
theorem placeRes {W:World} {v:VarD} {a0 a1 a2 a3 a4 a5 ix:Value} (tl:List Value) (B:Nat) (h:Boxed4 W B v):(results Tryz.f185 (List.toArray (a0 :: a1 :: a2 :: a3 :: a4 :: a5 :: .pointer (some ⟨B,0,none⟩) :: ix :: tl))).run Tryz.prog W=.ok (.tuple #[varV v,ix]) W:=by
  obtain ⟨z0,z1,z2,z3,zf⟩:=h.cells
  unfold varV
  simp [results,Tryz.f185,go_sem,z0,z1,z2,z3]
section
variable {w0:World} {D Kb kn:Nat} {kf:KF} {vs:List VarD} {u:Value}
theorem PL.mkBad {w w':World} {r:Res (VarD × Int × Int)} {c b:Int} (h:r=.bad c b) (hb:Below w0.heap.size w0 w'):PL w0 D Kb kn kf vs u w r (.panicked (Thrown c b)) w':=by rw [h];exact ⟨rfl,hb⟩
theorem PL.mkOk {w w':World} {r:Res (VarD × Int × Int)} {v:VarD} {i a:Int} {e:Ending} (h:r=.ok (v,i,a)) (he:e=.returned (.tuple #[varV v,.int .i64 i])) (hc:CS w0 w' D Kb kn kf vs u a) (hf:Fr D w w'):PL w0 D Kb kn kf vs u w r e w':=by rw [h];exact ⟨he,hc,hf⟩
set_option maxHeartbeats 2000000 in
theorem oPlace (E:Env) (L:List Loc) (hvs:vs.length≤1000) (k:Int) (x:ByteArray) (m:Int) (ks:List Tree) (v:Value) (w:World) (ctx at_:Int) (hkids:∀ t ∈ ks,ExT t) (hx:LongN x) (hv:Lies (·<w0.heap.size) w0 (.node k x m ks) v) (h:CS w0 w D Kb kn kf vs u at_) (h0:0≤at_) (hm:at_+1+cntL ks≤1000000)
    (ih:∀ j (hj:j<ks.length) (v:Value) (w:World) (at_:Int),ExT ks[j]→Lies (·<w0.heap.size) w0 ks[j] v→CS w0 w D Kb kn kf vs u at_→0≤at_→at_+cntT ks[j]≤1000000 →
        Calls Tryz.prog 159 #[.pointer (some ⟨D,0,none⟩),v,.int .i64 ctx] w fun e w'=>EX w0 D Kb kn kf vs u w (exF E L ctx false ks[j] at_) e w') :
    Calls Tryz.prog 185 #[.pointer (some ⟨D,0,none⟩),v,.int .i64 ctx] w fun e w'=>PL w0 D Kb kn kf vs u w (plP kf vs k x at_ (exL E L ctx ks (at_+1))) e w':=by
  have c24:Tryz.prog.cellsOf 25=4:=by kernel_rfl
  have c4:Tryz.prog.cellsOf 76=4:=cell4
  unfold Lies at hv
  obtain ⟨a,c,rfl,hl,hk⟩:=hv
  have hcp:=cntL_pos ks
  have hd:=h.lt
  have hlen:=len_cnt ks
  obtain ⟨R,hR⟩:∃ R,exL E L ctx ks (at_+1)=R:=⟨_,rfl⟩
  rw [hR]
  have HR:Hid (exL E L ctx ks (at_+1)=R):=hR
  clear hR
  obtain ⟨Z,HZ⟩:∃ Z,Hid (plP kf vs k x at_ R=Z):=⟨_,rfl⟩
  rw [HZ.out]
  have hI0:=(h.alloc (.cells #[.int .i64 k,.string x,.int .i64 m,.slice a ks.length c] 25)).alloc (.cells #[.string ⟨#[]⟩,.bool false,.int .i64 0,.int .i64 0] 76)
  have hBg:=hI0.begin h0 (by omega)
  have hw0:=h.fm
  have hKb:=h.mp.lt
  have hub:∀ b,u.ownBlock=some b→b<w.heap.size:=fun b e=>(h.rl.lt _ e).2
  clear h
  go_enter Tryz.func185,Tryz.ntmps185
  go_wp2_with (go_at_call 81;refine hBg.mono ?_;rintro e w1 ⟨rfl,hw1⟩;have hI1:CS w0 w1 D Kb kn kf vs u (at_+1):=by { rw [hw1];exact hI0.setAt _ };have hQ1:Q4 w.heap.size (.int .i64 k) (.string x) (.int .i64 m) (.slice a ks.length c) w1:=by { rw [hw1];exact Q4.other (by omega) ⟨by simp,by simp,by simp,by simp⟩ _ _ };have hF1:Fr D w w1:=by { rw [hw1];exact (((Fr.refl _ _).alloc _).alloc _).set _ _ };have hZ1:Boxed4 w1 (w.heap.size+1) zeroVar:=by { rw [hw1];have:=Boxed4.new (w.alloc (.cells #[.int .i64 k,.string x,.int .i64 m,.slice a ks.length c] 25)) zeroVar;rw [World.size_alloc] at this;exact (Below.heap_setCell _ ⟨D,7,none⟩ _ _ (by show w.heap.size+1≠D;omega)).trans this };clear hw1;obtain ⟨q0,q1,q2,q3⟩:=id hQ1)
  clear hI0 hBg q0 q1 q2 q3
  go_loopw [7,16] (fun ix t wr=>∃ (j:Nat) (ls:List Int),j≤ks.length∧t=.int .i64 j∧ix=.int .i64 (ls.getLast?.getD 0)∧Fr D w wr∧w.heap.size+1+1≤wr.heap.size∧Q4 w.heap.size (.int .i64 k) (.string x) (.int .i64 m) (.slice a ks.length c) wr∧Boxed4 wr (w.heap.size+1) zeroVar∧CS w0 wr D Kb kn kf vs u (at_+1+cntL (ks.take j))∧Hid (R=preR ls (exL E L ctx (ks.drop j) (at_+1+cntL (ks.take j))))) (fun _ t _=>ks.length - (intOf t).toNat)
  case atStart =>
    have hz:=hZ1.lt
    refine ⟨0,[],Nat.zero_le _,rfl,rfl,hF1,by omega,hQ1,hZ1,by simpa [cntL] using hI1,?_⟩
    show _=_
    rw [← HR.out,List.drop_zero]
    simp only [List.take_zero,cntL,Int.add_zero]
    cases exL E L ctx ks (at_+1) with
    | bad c b=>rfl
    | ok q=>rfl
  case round =>
    clear hI1 hQ1 hF1 hZ1
    obtain ⟨j,ls,hj,rfl,rfl,hFr,hsz,hQ,hZb,hI,HRR⟩:=hrel
    obtain ⟨q0,q1,q2,q3⟩:=id hQ
    by_cases hlt:j<ks.length
    · obtain ⟨g,o,rfl,hg,hat⟩:=hk (by intro e;rw [e] at hlt;simp at hlt)
      obtain ⟨v1,⟨x0,x1,x2,x3,rfl,c0,c1',c2,c3⟩,hlk⟩:=hat.get j hlt
      obtain ⟨kk,xx,mm,_,he,aa,na,ca,rfl⟩:=hlk.shape
      injection he with he
      simp only [Array.mk.injEq,List.cons.injEq,and_true] at he
      obtain ⟨rfl,rfl,rfl,rfl⟩:=he
      have k0:=(hI.bs.cell (p:=⟨g,o+j * 4,none⟩) hg).trans c0
      have k1:=(hI.bs.cell (p:=⟨g,o+j * 4+1,none⟩) hg).trans c1'
      have k2:=(hI.bs.cell (p:=⟨g,o+j * 4+2,none⟩) hg).trans c2
      have k3:=(hI.bs.cell (p:=⟨g,o+j * 4+3,none⟩) hg).trans c3
      have hs1:=cntL_take ks j hlt
      have hs2:=cntL_take_le ks (j+1)
      have hs3:=cntT_pos ks[j]
      have hs4:=cntL_pos (ks.take j)
      have hI1:=hI.alloc (.cells #[.int .i64 kk,.string xx,.int .i64 mm,.slice aa na ca] 25)
      have hFr1:=hFr.alloc (.cells #[.int .i64 kk,.string xx,.int .i64 mm,.slice aa na ca] 25)
      have hQ1:=Q4.alloc hQ (.cells #[.int .i64 kk,.string xx,.int .i64 mm,.slice aa na ca] 25)
      have hZ1:=hZb.alloc (.cells #[.int .i64 kk,.string xx,.int .i64 mm,.slice aa na ca] 25)
      have hC:=ih j hlt _ _ _ (hkids _ (List.getElem_mem hlt)) hlk hI1 (by omega) (by omega)
      have HP:Hid (R=match exF E L ctx false ks[j] (at_+1+cntL (ks.take j)) with
          | .bad c b=>.bad c b
          | .ok q=>preR (ls++[q.1]) (exL E L ctx (ks.drop (j+1)) q.2)):=HRR.out.trans (preR_step E L ctx ks j hlt ls _)
      have HA:Hid (∀ q,exF E L ctx false ks[j] (at_+1+cntL (ks.take j))=.ok q→q.2=at_+1+cntL (ks.take (j+1))):=fun q hq=>by
        have:=exF_at E L ctx _ _ _ _ hq
        omega
      clear c0 c1' c2 c3 hat hlk hk HRR hs1 hs2 hs3 hs4 ih
      generalize hXX:exF E L ctx false ks[j] (at_+1+cntL (ks.take j))=X at *
      have HA2:Hid (∀ q,X=.ok q→q.2=at_+1+cntL (ks.take (j+1))):=fun q hq=>HA.out q hq
      clear hXX HA
      cases X with
      | bad cc bb =>
        have HRB:Hid (Z=.bad cc bb):=by
          show _=_
          rw [← HZ.out,HP.out]
          rfl
        go_wp2_with (go_at_call 159;refine hC.mono ?_;rintro e w2 ⟨rfl,hb2⟩)
        exact ⟨rfl,PL.mkBad HRB.out hb2⟩
      | ok q =>
        have HRO:Hid (R=preR (ls++[q.1]) (exL E L ctx (ks.drop (j+1)) q.2)):=HP.out
        have HA3:=HA2.out q rfl
        obtain ⟨l1,a1⟩:=q
        dsimp only at HA3 hC
        subst HA3
        go_wp2_with (go_at_call 159;refine hC.mono ?_;rintro e w2 ⟨rfl,hI2,hf2⟩)
        have hs9:=hf2.size
        refine ⟨⟨j+1,ls++[l1],by omega,by simp,by simp,hFr1.trans hf2,by simp at hs9;omega,Q4.grown hQ1 hf2 (by simp;omega),hZ1.kept hf2 (by simp;omega),hI2,HRO.out⟩,by simp [intOf];omega⟩
    · obtain rfl:j=ks.length:=by omega
      have HX:Hid (R=.ok (ls,at_+1+cntL ks)):=by
        show _=_
        rw [HRR.out,List.drop_eq_nil_of_le (by omega),List.take_of_length_le (by omega)]
        simp [exL,preR]
      rw [List.take_of_length_le (by omega)] at hI
      have hVr:=hI.variable hvs hx at_
      have HY:Hid (Z=match varP kf vs x with
          | none=>.bad 4 at_
          | some v=>if decide (0<v.size)=(k==17) then .ok (v,ls.getLast?.getD 0,at_+1+cntL ks) else .bad 3 at_):=by
        show _=_
        rw [← HZ.out,HX.out]
        rfl
      clear HX HRR ih hk hkids
      generalize at_+1+cntL ks=an at *
      generalize ls.getLast?.getD 0=ix at *
      generalize varP kf vs x=V at *
      cases V with
      | none =>
        have HB:Hid (Z=.bad 4 at_):=HY.out
        go_wp2_with (go_at_call 202;refine hVr.mono ?_;rintro e w2 ⟨hb2,he⟩;obtain rfl:e=.panicked (Thrown 4 at_):=he)
        exact ⟨rfl,PL.mkBad HB.out (hI.bs.trans (hb2.mono hI.bs.size))⟩
      | some v =>
        by_cases h17:k=17
        · by_cases hvz:0<v.size
          · skip
            have hdz:decide (0<v.size)=true:=by simp [hvz]
            have HB:Hid (Z=.ok (v,ix,an)):=by
              show _=_
              rw [HY.out]
              simp [h17,hdz]
            go_wp2_with first
              | (go_at_call 202;refine hVr.mono ?_;rintro e w2 ⟨hb2,he⟩;obtain rfl:e=.returned (varV v):=he;unfold varV;obtain ⟨q0,q1,q2,q3⟩:=id (Q4.below hQ hb2);obtain ⟨z0,z1,z2,z3,zf⟩:=(hZb.below hb2 hZb.lt).cells;have zf0:=zf 0;have zf1:=zf 1;have zf2:=zf 2;have zf3:=zf 3;clear zf;have hI2:=(hI.below hb2).put4 (b:=w.heap.size+1) (by omega) (by omega) (fun e=>by have:=hub _ e;omega) (by omega) (.string v.name) (.bool v.pub) (.int .i64 v.label) (.int .i64 v.size);have hF2:=fr_put4 (b:=w.heap.size+1) (hFr.trans (Fr.below hb2)) (by omega) (.string v.name) (.bool v.pub) (.int .i64 v.label) (.int .i64 v.size))
              | (go_at_call 131;refine (oRefuseC 3 at_ _).mono ?_;rintro e w3 ⟨rfl,hw3⟩;rw [hw3])
            refine bodyPost_ret (v:=.tuple #[varV v,.int .i64 ix]) (placeRes _ _ (((hZb.below hb2 hZb.lt).put v).put v)) rfl ?_
            exact PL.mkOk HB.out rfl (hI2.put4 (b:=w.heap.size+1) (by omega) (by omega) (fun e=>by have:=hub _ e;omega) (by omega) _ _ _ _) (fr_put4 hF2 (by omega) _ _ _ _)
          · skip
            have hdz:decide (0<v.size)=false:=by simp [hvz]
            have HB:Hid (Z=.bad 3 at_):=by
              show _=_
              rw [HY.out]
              simp [h17,hdz]
            go_wp2_with first
              | (go_at_call 202;refine hVr.mono ?_;rintro e w2 ⟨hb2,he⟩;obtain rfl:e=.returned (varV v):=he;unfold varV;obtain ⟨q0,q1,q2,q3⟩:=id (Q4.below hQ hb2);obtain ⟨z0,z1,z2,z3,zf⟩:=(hZb.below hb2 hZb.lt).cells;have zf0:=zf 0;have zf1:=zf 1;have zf2:=zf 2;have zf3:=zf 3;clear zf;have hI2:=(hI.below hb2).put4 (b:=w.heap.size+1) (by omega) (by omega) (fun e=>by have:=hub _ e;omega) (by omega) (.string v.name) (.bool v.pub) (.int .i64 v.label) (.int .i64 v.size);have hF2:=fr_put4 (b:=w.heap.size+1) (hFr.trans (Fr.below hb2)) (by omega) (.string v.name) (.bool v.pub) (.int .i64 v.label) (.int .i64 v.size))
              | (go_at_call 131;refine (oRefuseC 3 at_ _).mono ?_;rintro e w3 ⟨rfl,hw3⟩;rw [hw3])
            exact ⟨rfl,PL.mkBad HB.out hI2.bs⟩
        · by_cases hvz:0<v.size
          · skip
            have hdz:decide (0<v.size)=true:=by simp [hvz]
            have h17b:(k==17)=false:=by simp [h17]
            have h17c:decide (k=17)=false:=by simp [h17]
            have HB:Hid (Z=.bad 3 at_):=by
              show _=_
              rw [HY.out]
              simp [h17,hdz]
            go_wp2_with first
              | (go_at_call 202;refine hVr.mono ?_;rintro e w2 ⟨hb2,he⟩;obtain rfl:e=.returned (varV v):=he;unfold varV;obtain ⟨q0,q1,q2,q3⟩:=id (Q4.below hQ hb2);obtain ⟨z0,z1,z2,z3,zf⟩:=(hZb.below hb2 hZb.lt).cells;have zf0:=zf 0;have zf1:=zf 1;have zf2:=zf 2;have zf3:=zf 3;clear zf;have hI2:=(hI.below hb2).put4 (b:=w.heap.size+1) (by omega) (by omega) (fun e=>by have:=hub _ e;omega) (by omega) (.string v.name) (.bool v.pub) (.int .i64 v.label) (.int .i64 v.size);have hF2:=fr_put4 (b:=w.heap.size+1) (hFr.trans (Fr.below hb2)) (by omega) (.string v.name) (.bool v.pub) (.int .i64 v.label) (.int .i64 v.size))
              | (go_at_call 131;refine (oRefuseC 3 at_ _).mono ?_;rintro e w3 ⟨rfl,hw3⟩;rw [hw3])
            exact ⟨rfl,PL.mkBad HB.out hI2.bs⟩
          · skip
            have hdz:decide (0<v.size)=false:=by simp [hvz]
            have h17b:(k==17)=false:=by simp [h17]
            have h17c:decide (k=17)=false:=by simp [h17]
            have HB:Hid (Z=.ok (v,ix,an)):=by
              show _=_
              rw [HY.out]
              simp [h17,hdz]
            go_wp2_with first
              | (go_at_call 202;refine hVr.mono ?_;rintro e w2 ⟨hb2,he⟩;obtain rfl:e=.returned (varV v):=he;unfold varV;obtain ⟨q0,q1,q2,q3⟩:=id (Q4.below hQ hb2);obtain ⟨z0,z1,z2,z3,zf⟩:=(hZb.below hb2 hZb.lt).cells;have zf0:=zf 0;have zf1:=zf 1;have zf2:=zf 2;have zf3:=zf 3;clear zf;have hI2:=(hI.below hb2).put4 (b:=w.heap.size+1) (by omega) (by omega) (fun e=>by have:=hub _ e;omega) (by omega) (.string v.name) (.bool v.pub) (.int .i64 v.label) (.int .i64 v.size);have hF2:=fr_put4 (b:=w.heap.size+1) (hFr.trans (Fr.below hb2)) (by omega) (.string v.name) (.bool v.pub) (.int .i64 v.label) (.int .i64 v.size))
              | (go_at_call 131;refine (oRefuseC 3 at_ _).mono ?_;rintro e w3 ⟨rfl,hw3⟩;rw [hw3])
            refine bodyPost_ret (v:=.tuple #[varV v,.int .i64 ix]) (placeRes _ _ (((hZb.below hb2 hZb.lt).put v).put v)) rfl ?_
            exact PL.mkOk HB.out rfl (hI2.put4 (b:=w.heap.size+1) (by omega) (by omega) (fun e=>by have:=hub _ e;omega) (by omega) _ _ _ _) (fr_put4 hF2 (by omega) _ _ _ _)
end
end Go.Proofs.YtfopddgjdaoidaaGreatDoor.chk
