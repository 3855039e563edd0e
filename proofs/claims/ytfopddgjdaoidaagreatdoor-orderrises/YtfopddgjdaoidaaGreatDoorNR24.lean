/- What take's third closure answers: a contract. -/
import Derived.Test.YtfopddgjdaoidaaGreatDoorNR23
set_option linter.unusedVariables false
set_option linter.unusedSimpArgs false
set_option maxRecDepth 100000
namespace Go.Proofs.YtfopddgjdaoidaaGreatDoor
namespace ord
open Go.RowKit Go.Shelf Go.Maps Go.WideMaps
open syn face chk
structure MD where
 x:ByteArray
 vv:Value
 pv:Value
 iv:Value
def MD.q (m:MD):FV:=((tx m.x).F,m.vv,m.pv)
def mcells (m:MD):List Value:=[.string m.x,.string (nameOf m.x),m.vv,m.pv,m.iv]
def modCells (l:List MD):List Value:=l.flatMap mcells
def MdIn (w:World) (m:MD):Prop:=FaceIn w (fvV m.q) m.q.1∧StrsIn w m.iv (tx m.x).I∧(tx m.x).ec=0
theorem MdIn.mono {w w':World} {m:MD} (h:MdIn w m) (hc:∀ a v,w.cell? a=some v→w'.cell? a=some v):MdIn w' m:=⟨FaceIn.mono hc h.1,StrsIn.mono hc h.2.1,h.2.2⟩
theorem MdIn.move {Q Q':Nat→Bool} {w w':World} {m:MD} (h:MdIn (holes Q w) m) (hc:∀ a v,Q a.block=false→w.cell? a=some v→Q' a.block=false∧w'.cell? a=some v):MdIn (holes Q' w') m :=
 h.mono fun a v hv=>by
  obtain ⟨h1,h2⟩:=holes_cell hv
  obtain ⟨h3,h4⟩:=hc a v h1 h2
  exact holes_keep h3 h4
theorem MdIn.real {Q:Nat→Bool} {w:World} {m:MD} (h:MdIn (holes Q w) m):MdIn w m:=h.mono fun a v hv=>(holes_cell hv).2
theorem MdIn.small {w:World} {m:MD} (h:MdIn w m):(nameOf m.x).size≤16:=by
 obtain ⟨h1,h2,h3,h4,h5⟩:=(txo m.x).good h.2.2
 show ((tx m.x).F.module).size≤16
 rw [h1]
 exact h5
theorem modCells_snoc (l:List MD) (m:MD):modCells (l++[m])=modCells l++mcells m:=by simp [modCells]
theorem modCells_at:∀ (l:List MD) (k:Nat) (hk:k<l.length),(modCells l)[k*5]?=some (.string l[k].x)∧(modCells l)[k*5+1]?=some (.string (nameOf l[k].x))∧(modCells l)[k*5+2]?=some l[k].vv∧(modCells l)[k*5+3]?=some l[k].pv∧(modCells l)[k*5+4]?=some l[k].iv
 | [],k,hk=>by simp at hk
 | q :: l,0,hk=>by simp [modCells,mcells]
 | q :: l,k+1,hk=>by
  have hk':k<l.length:=by simpa using hk
  have h:=modCells_at l k hk'
  have e:modCells (q :: l)=[.string q.x,.string (nameOf q.x),q.vv,q.pv,q.iv]++modCells l:=rfl
  have e3:(k+1)*5=k*5+5:=by omega
  rw [e,e3]
  refine ⟨?_,?_,?_,?_,?_⟩
  ·rw [List.getElem?_append_right (by simp)];simpa using h.1
  ·rw [List.getElem?_append_right (by simp)];simpa using h.2.1
  ·rw [List.getElem?_append_right (by simp)];simpa using h.2.2.1
  ·rw [List.getElem?_append_right (by simp)];simpa using h.2.2.2.1
  ·rw [List.getElem?_append_right (by simp)];simpa using h.2.2.2.2
theorem infoM:(Tryz.prog.info? 172).map (fun i=>(i.zero,i.size,i.bytes))=some (some (.agg #[.string ⟨#[]⟩,.string ⟨#[]⟩,.slice none 0 0,.slice none 0 0,.slice none 0 0]),5,104):=by kernel_rfl
def natV (i:Nat):Value:=.int .i64 i
def busy (D:Nat) (mv:Value) (b:Nat):Bool:=b==D||b==D+1||mv.ownBlock==some b
structure PS (w:World) (D:Nat) (mv:Value) (L:List MD) (n:Nat) (f:ByteArray→Option Nat):Prop where
 box:BoxC w (D+1) #[mv,.map (some D)] 139
 row:w.ownsRow (D+2) 172 5 mv L.length (modCells L)
 map:MapF w D n (fun z=>(f z).map natV)
 mods:∀ m∈L,MdIn (holes (busy D mv) w) m
section
variable {w w':World} {D n:Nat} {mv:Value} {L:List MD} {f:ByteArray→Option Nat}
theorem PS.below (h:PS w D mv L n f) (hb:Below w.heap.size w w'):PS w' D mv L n f :=
 ⟨h.box.below hb,h.row.kept (grown_of_below hb) (by cases mv.ownBlock<;>simp),h.map.below hb,fun m hm=>(h.mods m hm).move fun a v h1 h2=>⟨h1,keep h2 hb⟩⟩
theorem busy_not {D:Nat} {mv:Value} {b:Nat} (h:busy D mv b=false):b≠D∧b≠D+1∧mv.ownBlock≠some b:=by
 unfold busy at h
 simp only [Bool.or_eq_false_iff,beq_eq_false_iff_ne,ne_eq] at h
 exact ⟨h.1.1,h.1.2,h.2⟩
theorem not_busy {D:Nat} {mv:Value} {b:Nat} (h1:b≠D) (h2:b≠D+1) (h3:mv.ownBlock≠some b):busy D mv b=false:=by
 unfold busy
 simp [h1,h2,h3]
theorem PS.md (h:PS w D mv L n f) {m:MD} (hm:m∈L):MdIn w m:=(h.mods m hm).real
theorem PS.push (h:PS w D mv L n f) {m:MD} {g cap:Nat} (hm:MdIn (holes (busy D mv) w) m) (ho:w'.ownsRow (D+2) 172 5 (.slice (some ⟨g,0,none⟩) (L.length+1) cap) (L.length+1) (modCells L++mcells m)) (hg:w.grownBy w' mv.ownBlock) (hat:mv.ownBlock=some g∨g=w.heap.size) :
  PS (w'.setCell ⟨D+1,0,none⟩ (.slice (some ⟨g,0,none⟩) (L.length+1) cap)) D (.slice (some ⟨g,0,none⟩) (L.length+1) cap) (L++[m]) n f:=by
 have hrow:∀ b,mv.ownBlock=some b→D+2≤b:=fun b e=>(h.row.lt b e).1
 have h1:mv.ownBlock≠some (D+1):=fun e=>by have:=hrow _ e;omega
 have h0:mv.ownBlock≠some D:=fun e=>by have:=hrow _ e;omega
 have hgb:D+2≤g:=by
  rcases hat with e | e
  ·exact hrow _ e
  ·have:=h.box.lt;omega
 refine ⟨?_,?_,?_,?_⟩
 ·have:=(h.box.grown hg h1).set 0 (.slice (some ⟨g,0,none⟩) (L.length+1) cap)
  simpa using this
 ·have:=ownsRow_setCell_other (a:=⟨D+1,0,none⟩) ho (fun e=>by simp [Value.ownBlock] at e;omega) (.slice (some ⟨g,0,none⟩) (L.length+1) cap)
  rw [List.length_append,modCells_snoc]
  exact this
 ·exact (h.map.kept hg (fun e=>h0 e.symm)).setCell (by show D≠D+1;omega) _
 ·have hmv:∀ k,MdIn (holes (busy D mv) w) k→MdIn (holes (busy D (.slice (some ⟨g,0,none⟩) (L.length+1) cap)) (w'.setCell ⟨D+1,0,none⟩ (.slice (some ⟨g,0,none⟩) (L.length+1) cap))) k:=fun k hk=>hk.move fun a v q1 q2=>by
   obtain ⟨n0,n1,n2⟩:=busy_not q1
   have hlt:=World.block_lt_of_cell? w a q2
   refine ⟨not_busy n0 n1 (fun e=>?_),?_⟩
   ·simp [Value.ownBlock] at e
    rcases hat with e2 | e2
    ·exact n2 (by rw [e2,e])
    ·omega
   ·rw [World.cell?_of_block (Below.heap_setCell w' ⟨D+1,0,none⟩ _ a.block n1),hg.cell_far a hlt (fun e=>n2 e.symm)]
    exact q2
  intro k hk
  rcases List.mem_append.1 hk with hk | hk
  ·exact hmv k (h.mods k hk)
  ·obtain rfl:k=m:=by simpa using hk
   exact hmv k hm
theorem PS.turned {f':ByteArray→Option Nat} {n':Nat} (h:PS w D mv L n f) (hm:MapF w' D n' (fun z=>(f' z).map natV)) (hg:w.grownBy w' (some D)):PS w' D mv L n' f':=by
 have hrow:∀ b,mv.ownBlock=some b→D+2≤b:=fun b e=>(h.row.lt b e).1
 refine ⟨h.box.grown hg (by simp),h.row.kept hg ?_,hm,fun m hm=>(h.mods m hm).move fun a v q1 q2=>?_⟩
 ·cases e:mv.ownBlock with
  | none=>exact .inl rfl
  | some b=>exact .inr (fun e2=>by have:=hrow b e;simp at e2;omega)
 ·obtain ⟨n0,n1,n2⟩:=busy_not q1
  refine ⟨q1,?_⟩
  rw [hg.cell_far a (World.block_lt_of_cell? w a q2) (by simpa using n0)]
  exact q2
theorem PS.lt (h:PS w D mv L n f):D+1<w.heap.size:=h.box.lt
theorem PS.shape (h:PS w D mv L n f):∃ a c,mv=.slice a L.length c∧(0<L.length→∃ g,a=some ⟨g,0,none⟩∧∀ i (hi:i<L.length),w.cell? ⟨g,i*5,none⟩=some (.string L[i].x)∧w.cell? ⟨g,i*5+1,none⟩=some (.string (nameOf L[i].x))∧w.cell? ⟨g,i*5+2,none⟩=some L[i].vv∧w.cell? ⟨g,i*5+3,none⟩=some L[i].pv∧w.cell? ⟨g,i*5+4,none⟩=some L[i].iv):=by
 have hr:=h.row
 rcases hr.2 with ⟨rfl,hn⟩|⟨g,cap,cur,rfl,_,_,h1,h2,_⟩
 ·exact ⟨none,0,by rw [hn],fun h=>by omega⟩
 ·refine ⟨some ⟨g,0,none⟩,cap,rfl,fun _=>⟨g,rfl,fun i hi=>?_⟩⟩
  obtain ⟨k0,k1,k2,k3,k4⟩:=modCells_at L i hi
  exact ⟨by rw [hr.cellAt _ (by omega)];exact k0,by rw [hr.cellAt _ (by omega)];exact k1,by rw [hr.cellAt _ (by omega)];exact k2,by rw [hr.cellAt _ (by omega)];exact k3,by rw [hr.cellAt _ (by omega)];exact k4⟩
end
/-! the map of numbers -/
theorem zeroI (w:World):(zeroValue 3).run Tryz.prog w=.ok (.int .i64 0) w:=by kernel_rfl
section
variable {w w':World} {b n:Nat} {f:ByteArray→Option Nat}
theorem map_look (h:MapF w b n (fun z=>(f z).map natV)) (x:ByteArray) (hx:x.size≤maxLen):(Instr.lookup 136 (.map (some b)) (.string x) false).run Tryz.prog w=.ok (.int .i64 ((f x).getD 0:Nat)) w:=by
 obtain ⟨D,h,h2⟩:=h
 obtain ⟨v,ps,hrun,hv⟩:=h.lookup lawS Tryz.underlying136 (zeroI w) (zd:=.held (.int .i64 0)) (zp:=[]) rfl (keyOf_string_mk Tryz.underlying9 hx)
 rw [hrun]
 obtain ⟨h3,h4⟩:=h2 x
 simp only [Option.isSome_map] at h3
 simp only [Option.map_eq_some_iff] at h4
 have e:D.atKey (keyL x) (.held (.int .i64 0))=.held (.int .i64 ((f x).getD 0:Nat)):=by
  cases hf:f x with
  | none=>rw [hf] at h3;exact atKey_of_not_has h3 _
  | some u=>exact h4 (.int .i64 u) ⟨u,hf,rfl⟩ _
 have hv':heldE v=some (D.atKey (keyL x) (.held (.int .i64 0)),ps):=hv
 rw [e] at hv'
 rw [held_inj hv']
theorem map_look2 (h:MapF w b n (fun z=>(f z).map natV)) (x:ByteArray) (hx:x.size≤maxLen):(Instr.lookup 136 (.map (some b)) (.string x) true).run Tryz.prog w=.ok (.tuple #[.int .i64 ((f x).getD 0:Nat),.bool (f x).isSome]) w:=by
 obtain ⟨D,h,h2⟩:=h
 obtain ⟨v,ps,hrun,hv⟩:=h.look_ok lawS Tryz.underlying136 (zeroI w) (zd:=.held (.int .i64 0)) (zp:=[]) rfl (keyOf_string_mk Tryz.underlying9 hx)
 rw [hrun]
 obtain ⟨h3,h4⟩:=h2 x
 simp only [Option.isSome_map] at h3
 simp only [Option.map_eq_some_iff] at h4
 have e:D.atKey (keyL x) (.held (.int .i64 0))=.held (.int .i64 ((f x).getD 0:Nat)):=by
  cases hf:f x with
  | none=>rw [hf] at h3;exact atKey_of_not_has h3 _
  | some u=>exact h4 (.int .i64 u) ⟨u,hf,rfl⟩ _
 have hv':heldE v=some (D.atKey (keyL x) (.held (.int .i64 0)),ps):=hv
 rw [e] at hv'
 rw [held_inj hv',show Maps.has D (Lit.string x.data.toList)=_ from h3]
theorem map_store (h:MapF w b n (fun z=>(f z).map natV)) (hn:n<maxLen) (x:ByteArray) (hx:x.size≤maxLen) (i:Nat):∃ w',(Instr.mapUpdate 136 (.map (some b)) (.string x) (.int .i64 i)).run Tryz.prog w=.ok () w'∧MapF w' b (n+1) (fun z=>(if eqS z x then some i else f z).map natV)∧w.grownBy w' (some b):=by
 obtain ⟨D,h,h2⟩:=h
 obtain ⟨w',h3,h4,h5⟩:=h.update lawS Tryz.underlying136 hn (keyOf_string_mk Tryz.underlying9 hx) (d:=.held (.int .i64 i)) (ps:=[]) rfl
 refine ⟨w',h3,⟨_,h4,fun z=>?_⟩,h5⟩
 have:=MapF.put (x:=x) (v:=.int .i64 i) h2 h.isMap z
 have e:(Option.map natV (if eqS z x=true then some i else f z))=(if eqS z x=true then some (Value.int .i64 i) else Option.map natV (f z)):=by cases eqS z x<;>rfl
 simp only [e]
 exact this
end
def ThrownT (t:Tr):List PanicEntry:=[{ v:=.iface 53 (.agg #[.int .i64 t.1,.int .i64 t.2.1,.int .i64 t.2.2]),recovered:=false }]
theorem oRefuse (i c a:Int) (w:World) :
  Calls Tryz.prog 120 #[.int .i64 i,.int .i64 c,.int .i64 a] w fun e w'=>e=.panicked (ThrownT (i,c,a))∧w'=w:=by
 unfold ThrownT
 go_enter Tryz.func120,Tryz.ntmps120
 go_wp2
 exact ⟨rfl,rfl,rfl⟩
theorem tkd {P:Program} {ops:Array Oper} {Q:Exit→Act→World→Prop} {md:Region.Mode} {S:World→Prop} {i d:Nat} {oi:Oper} {v:Value} {fuel:Nat} {listed:Array Bool} {a:Act} {w:World} (hi:ops[i]?=some oi) (hd:oi.dst=some d)
  (hs:Region.noSelect ops=true) (hf:Region.free md ops listed i=true) (hr:(Region.ready md ops listed).contains i=true)
  (hQ:∀ c a w,Q (.panic c) (a.put oi.dst v) w→Q (.panic c) a w) (hy:YieldsIf P ops S oi v a) (hS:S w)
  (h:wpAnyH P md ops Q S fuel (listed.setIfInBounds i true) { tmps:=a.tmps.setIfInBounds d v,defers:=a.defers } w):wpAnyH P md ops Q S (fuel+1) listed a w:=by
 refine wpAnyH_take hi hs hf hr hQ hy hS ?_
 rw [hd]
 exact h
theorem putd {o:Oper} {a:Act} {v:Value} {d:Nat} (h:o.dst=some d):a.put o.dst v={ tmps:=a.tmps.setIfInBounds d v,defers:=a.defers }:=by
 rw [h]
 rfl
theorem far {w w':World} {row:Option Nat} {a:Addr} {v:Value} (h:w.cell? a=some v) (hg:w.grownBy w' row) (hne:row≠some a.block):w'.cell? a=some v:=by
 rw [hg.cell_far a (World.block_lt_of_cell? w a h) (fun e=>hne e.symm)]
 exact h
theorem far2 {w:World} {B o b p:Nat} {v:Value} (hne:B≠b) (h:w.cell? ⟨B,o,none⟩=some v) (u:Value):(w.setCell ⟨b,p,none⟩ u).cell? ⟨B,o,none⟩=some v:=by
 rw [World.cell?_of_block (Below.heap_setCell w ⟨b,p,none⟩ u B hne)]
 exact h
theorem take_snoc {α:Type} {l:List α} {j:Nat} (h:j<l.length):l.take j++[l[j]]=l.take (j+1):=by
 rw [List.take_succ_eq_append_getElem h]
theorem readF_drop {xs:List ByteArray} {j:Nat} (h:j<xs.length):readF (xs.drop j) j=if (tx xs[j]).ec≠0 then some ((j:Int),(tx xs[j]).ec,(tx xs[j]).ep) else readF (xs.drop (j+1)) (j+1):=by
 rw [List.drop_eq_getElem_cons h]
 rfl
def RdE (w0:World) (D:Nat) (xs:List ByteArray) (e:Ending) (w':World):Prop :=
 Below D w0 w'∧((∃ t,readF xs 0=some t∧e=.panicked (ThrownT t))∨(readF xs 0=none∧e=.returned (.tuple #[])∧∃ mv L,L.map (·.x)=xs∧PS w' D mv L 0 (fun _=>none)))
set_option maxHeartbeats 4000000 in
theorem oRead (w0:World) (D:Nat) (hD:w0.heap.size=D) (hH:HasAll w0) (xs:List ByteArray) (tv:Value) (hT:StrsIn w0 tv xs) (h6:xs.length≤6) (w:World) (hB:Below D w0 w) (hP:PS w D (.slice none 0 0) [] 0 (fun _=>none)) :
  Calls Tryz.prog 73 #[.pointer (some ⟨D+1,0,none⟩),tv] w (RdE w0 D xs):=by
 have c28:=kc28
 have c3:Tryz.prog.cellsOf 44=3:=cell3
 have c5:=kc172
 obtain ⟨i0,hi,hz0,hz1,hz2⟩:=info_parts infoM
 have hTs:∃ ta tc,tv=.slice ta xs.length tc:=by obtain ⟨ta,tc,e,_⟩:=hT;exact ⟨ta,tc,e⟩
 obtain ⟨ta,tc,rfl⟩:=hTs
 have hcell:∀ W,Below D w0 W→∀ j (h:j<xs.length),∃ g o,ta=some ⟨g,o,none⟩∧W.cell? ⟨g,o+j,none⟩=some (.string xs[j]):=by
  intro W hW j hj
  obtain ⟨a',c',e',_,hk⟩:=hT
  obtain ⟨g,o,rfl,hc⟩:=hk (by intro e;rw [e] at hj;simp at hj)
  injection e' with e1
  exact ⟨g,o,e1,keep (hc j hj) (hD▸hW)⟩
 go_enter Tryz.func73,Tryz.ntmps73
 go_wp2
 go_loopw [11] (fun t wr=>∃ (j:Nat) (mv:Value) (L:List MD),j≤xs.length∧t=.int .i64 j∧PS wr D mv L 0 (fun _=>none)∧Below D w0 wr∧L.map (·.x)=xs.take j∧readF (xs.drop j) j=readF xs 0) (fun t _=>xs.length - (intOf t).toNat)
 case atStart=>exact ⟨0,_,[],Nat.zero_le _,rfl,hP,hB,rfl,rfl⟩
 case round =>
  clear hP hB
  obtain ⟨j,mv,L,hj,rfl,hP,hB,hL,hR⟩:=hrel
  have HRR:=show Hid _ from hR
  clear hR
  by_cases hlt:j<xs.length
  ·obtain ⟨g,o,rfl,hc⟩:=hcell wr hB j hlt
   have HLj:Hid (L.length=j):=by show _=_;have:=congrArg List.length hL;simp at this;omega
   generalize hxj:xs[j]=x at hc
   have HX:=show Hid _ from readF_drop hlt
   have hOf:=(txo x).of wr (hasAll_below hH (hD▸hB)).1
   generalize hec:(tx x).ec=ec at hOf
   generalize hep:(tx x).ep=ep at hOf
   have hne:wr.heap.size≠D∧wr.heap.size≠D+1:=by have:=hP.lt;omega
   by_cases h0:ec=0
   ·subst h0
    have hcz:((0:Int) != 0)=false:=rfl
    have HNX:Hid (readF (xs.drop (j+1)) (j+1)=readF xs 0):=by
     show _=_
     rw [← HRR.out,HX.out,hxj,hec,if_neg (by simp)]
    have hL6:L.length≤6:=by have:=HLj.out;omega
    go_wp2_with (go_at_call 16;refine hOf.mono ?_;rintro e w1 ⟨fv,fiv,rfl,⟨fvv,fpv,rfl,hvI,hpI⟩,hsI,hb1⟩;have hM0:MdIn (holes (newB wr.heap.size) w1) ⟨x,fvv,fpv,fiv⟩:=⟨⟨fvv,fpv,rfl,hvI,hpI⟩,hsI,hec⟩;obtain ⟨ua,uc,rfl,-,-⟩:=hvI;obtain ⟨pa,pc,rfl,-,-⟩:=hpI;obtain ⟨ia,ic,rfl,-,-⟩:=hsI)
    have hfm:nameOf x=(tx x).F.module:=rfl
    generalize (tx x).F.vars.length=nv at *
    generalize (tx x).F.procs.length=np at *
    generalize (tx x).I.length=ni at *
    clear hOf hcell
    have hA1:=(Joins.below_alloc2 w1 (.cells #[.string (tx x).F.module,(.slice ua nv uc),(.slice pa np pc)] 44) (.cells #[.int .i64 0,.int .i64 ep] 28)).drew
    have hb2:=hb1.trans (hA1.mono hb1.size)
    obtain ⟨ma,mc,rfl⟩:∃ a c,mv=.slice a L.length c:=by obtain ⟨a,c,e,_⟩:=hP.shape;exact ⟨a,c,e⟩
    have hmN:∀ k,(Value.slice ma L.length mc).ownBlock=some k→k<w1.heap.size:=fun k e=>Nat.lt_of_lt_of_le (hP.row.lt _ e).2 hb1.size
    have hM:MdIn (holes (busy D (.slice ma L.length mc)) ((w1.alloc (.cells #[.string (tx x).F.module,(.slice ua nv uc),(.slice pa np pc)] 44)).alloc (.cells #[.int .i64 0,.int .i64 ep] 28)).drew) ⟨x,(.slice ua nv uc),(.slice pa np pc),(.slice ia ni ic)⟩:=hM0.move fun a v q1 q2=>by
     have hge:wr.heap.size≤a.block:=by simpa [newB] using q1
     have hpl:=hP.lt;exact ⟨not_busy (by omega) (by omega) (fun e=>by have:=(hP.row.lt _ e).2;omega),keep q2 hA1⟩
    have hS:((w1.alloc (.cells #[.string (tx x).F.module,(.slice ua nv uc),(.slice pa np pc)] 44)).alloc (.cells #[.int .i64 0,.int .i64 ep] 28)).drew.cell? ⟨w1.heap.size,0,none⟩=some (.string (tx x).F.module)∧((w1.alloc (.cells #[.string (tx x).F.module,(.slice ua nv uc),(.slice pa np pc)] 44)).alloc (.cells #[.int .i64 0,.int .i64 ep] 28)).drew.cell? ⟨w1.heap.size,1,none⟩=some (.slice ua nv uc)∧((w1.alloc (.cells #[.string (tx x).F.module,(.slice ua nv uc),(.slice pa np pc)] 44)).alloc (.cells #[.int .i64 0,.int .i64 ep] 28)).drew.cell? ⟨w1.heap.size,2,none⟩=some (.slice pa np pc):=⟨by simp,by simp,by simp⟩
    have hlt1:D+1<w1.heap.size:=Nat.lt_of_lt_of_le hP.lt hb1.size
    replace hP:=hP.below hb2
    replace hB:=hB.trans (hb2.mono (by have:=hB.size;omega))
    clear hM0 hb1 hA1 hb2
    refine wp_region_held_drew (S:=fun W=>W.cell? ⟨w1.heap.size,0,none⟩=some (.string (tx x).F.module)∧W.cell? ⟨w1.heap.size,1,none⟩=some (.slice ua nv uc)∧W.cell? ⟨w1.heap.size,2,none⟩=some (.slice pa np pc)) (by kernel_rfl) hS (fun hHeld=>?_)
    clear hHeld
    generalize ((w1.alloc (.cells #[.string (tx x).F.module,(.slice ua nv uc),(.slice pa np pc)] 44)).alloc (.cells #[.int .i64 0,.int .i64 ep] 28)).drew=W at *
    generalize w1.heap.size=N at *
    generalize (tx x).F.module=fm at *
    refine tkP 0 (.pointer (some ⟨D+1,0,none⟩)) hS ?_
    simp only [Act.put,jA,jB,jC]
    refine tkP 1 (.pointer (some ⟨D+1,0,none⟩)) hS ?_
    simp only [Act.put,jA,jB,jC]
    refine tkP 2 (.pointer (some ⟨D+1,0,none⟩)) hS ?_
    simp only [Act.put,jA,jB,jC]
    refine tkP 3 (.pointer (some ⟨D+1,0,none⟩)) hS ?_
    simp only [Act.put,jA,jB,jC]
    refine tkP 5 (.string x) hS ?_
    simp only [Act.put,jA,jB,jC]
    refine tkP 6 (.agg #[.string fm,(.slice ua nv uc),(.slice pa np pc)] ) hS ?_
    simp only [Act.put,jA,jB,jC]
    refine tkP 7 ((.slice ia ni ic)) hS ?_
    simp only [Act.put,jA,jB,jC]
    refine tkP 8 (.agg #[.string x,.string fm,(.slice ua nv uc),(.slice pa np pc),(.slice ia ni ic)] ) hS ?_
    simp only [Act.put,jA,jB,jC]
    refine wpAnyH_ready (rs:=[4,9]) (by kernel_rfl) (by simp) ?_
    refine AllReadyH.cons rfl (fun KK hK=>?_) (AllReadyH.cons rfl (fun KK hK=>?_) AllReadyH.nil)
    ·skip
     have m1:=hP.box.cell 0 rfl
     go_simp
     refine hK.out _ _ hS (fun hHeld=>?_)
     clear hK KK hHeld m1
     refine oneH 9 fun KK hK=>?_
     go_simp
     have hsl:∀ j u,[Value.string x,.string fm,(.slice ua nv uc),(.slice pa np pc),(.slice ia ni ic)][j]?=some u→(W.alloc (.cells #[.string x,.string fm,(.slice ua nv uc),(.slice pa np pc),(.slice ia ni ic)] 172)).cell? ((⟨W.heap.size,0,none⟩:Addr).add j)=some u:=news_new _ #[.string x,.string fm,(.slice ua nv uc),(.slice pa np pc),(.slice ia ni ic)] _ _ rfl
     have hss:W.heap.size+1=(W.alloc (.cells #[.string x,.string fm,(.slice ua nv uc),(.slice pa np pc),(.slice ia ni ic)] 172)).heap.size:=by simp
     replace hB:=hB.alloc (by have:=hB.size;omega) (.cells #[.string x,.string fm,(.slice ua nv uc),(.slice pa np pc),(.slice ia ni ic)] 172)
     replace hP:=hP.below (bal (.cells #[.string x,.string fm,(.slice ua nv uc),(.slice pa np pc),(.slice ia ni ic)] 172))
     replace hM:MdIn (holes (busy D (.slice ma L.length mc)) (W.alloc (.cells #[.string x,.string fm,(.slice ua nv uc),(.slice pa np pc),(.slice ia ni ic)] 172))) ⟨x,(.slice ua nv uc),(.slice pa np pc),(.slice ia ni ic)⟩:=hM.move fun a v h1 h2=>⟨h1,cell_new h2 _⟩
     replace hS:(W.alloc (.cells #[.string x,.string fm,(.slice ua nv uc),(.slice pa np pc),(.slice ia ni ic)] 172)).cell? ⟨N,0,none⟩=some (.string fm)∧(W.alloc (.cells #[.string x,.string fm,(.slice ua nv uc),(.slice pa np pc),(.slice ia ni ic)] 172)).cell? ⟨N,1,none⟩=some (.slice ua nv uc)∧(W.alloc (.cells #[.string x,.string fm,(.slice ua nv uc),(.slice pa np pc),(.slice ia ni ic)] 172)).cell? ⟨N,2,none⟩=some (.slice pa np pc):=⟨cell_new hS.1 _,cell_new hS.2.1 _,cell_new hS.2.2 _⟩
     refine hK.out _ _ hS (fun hHeld=>?_)
     clear hK KK hHeld
     generalize W.alloc (.cells #[.string x,.string fm,(.slice ua nv uc),(.slice pa np pc),(.slice ia ni ic)] 172)=W3 at *
     generalize W.heap.size=s0 at *
     refine oneH 10 fun KK hK=>?_
     refine step_append_lies _ (by rfl) (.tmp 35) (.tmp 40) 137 (by rfl) (D+2) 172 i0 (.agg #[.string ⟨#[]⟩,.string ⟨#[]⟩,.slice none 0 0,.slice none 0 0,.slice none 0 0]) 5 104 Tryz.underlying137 hi hz0 hz1 hz2 rfl (by decide) (.slice ma L.length mc) L.length (modCells L) (by simp [Act.eval,Act.put]) hP.row ⟨s0,0,none⟩ 1 1 [.string x,.string fm,(.slice ua nv uc),(.slice pa np pc),(.slice ia ni ic)] (by simp [Act.eval,Act.put]) rfl hsl (by intro u hu;simp at hu;rcases hu with rfl | rfl | rfl | rfl | rfl<;>rfl) (by omega) (by unfold maxLen;omega) (by omega) (by have:=hP.lt;omega) (s0+1) hss.symm ?_
     intro g5 cap5 w5 hown5 hgrow5 hat5 hlt5
     have hrD:(Value.slice ma L.length mc).ownBlock≠some (D+1):=fun e=>by have:=(hP.row.lt _ e).1;omega
     have hfin:=hP.push hM (by rw [← hfm] at hown5;exact hown5) hgrow5 (hat5.imp id (fun e=>e.trans hss))
     have hB5:=hB.grown hgrow5 (by have:=hB.size;omega) (fun k e=>by have:=(hP.row.lt _ e).1;omega)
     have hrN:(Value.slice ma L.length mc).ownBlock≠some N:=fun e=>by have:=hmN _ e;omega
     have hS5:w5.cell? ⟨N,0,none⟩=some (.string fm)∧w5.cell? ⟨N,1,none⟩=some (.slice ua nv uc)∧w5.cell? ⟨N,2,none⟩=some (.slice pa np pc):=⟨far hS.1 hgrow5 hrN,far hS.2.1 hgrow5 hrN,far hS.2.2 hgrow5 hrN⟩
     have hbx:=hP.box.grown hgrow5 hrD
     have m1:=hbx.cell 0 rfl
     have mf:=hbx.fz 0
     clear hP hbx hS hB hM
     refine hK.out _ _ hS5 (fun hHeld=>?_)
     clear hK KK hHeld
     have hS:=hS5
     simp only [Act.put,jA,jB,jC]
     refine tkP 11 (.pointer (some ⟨D+1,0,none⟩)) hS ?_
     simp only [Act.put,jA,jB,jC]
     refine tkP 12 (.pointer (some ⟨D+1,0,none⟩)) hS ?_
     simp only [Act.put,jA,jB,jC]
     refine oneH 13 fun KK hK=>?_
     go_simp
     refine hK.out _ _ ⟨far2 (by omega) hS.1 _,far2 (by omega) hS.2.1 _,far2 (by omega) hS.2.2 _⟩ (fun hHeld=>?_)
     clear hK KK hHeld m1 mf
     refine wpAnyH_done (by kernel_rfl) ?_ _
     go_wp2
     go_roundw
     case rel=>exact ⟨j+1,_,L++[⟨x,(.slice ua nv uc),(.slice pa np pc),(.slice ia ni ic)⟩],by omega,by go_num,hfin,hB5.setCell (by show D≤D+1;omega) _,by rw [List.map_append,hL];show xs.take j++[x]=_;rw [← hxj];exact take_snoc hlt,HNX.out⟩
     case measure=>simp [intOf];omega
    ·skip
     go_simp
     have hsl:∀ j u,[Value.string x,.string fm,(.slice ua nv uc),(.slice pa np pc),(.slice ia ni ic)][j]?=some u→(W.alloc (.cells #[.string x,.string fm,(.slice ua nv uc),(.slice pa np pc),(.slice ia ni ic)] 172)).cell? ((⟨W.heap.size,0,none⟩:Addr).add j)=some u:=news_new _ #[.string x,.string fm,(.slice ua nv uc),(.slice pa np pc),(.slice ia ni ic)] _ _ rfl
     have hss:W.heap.size+1=(W.alloc (.cells #[.string x,.string fm,(.slice ua nv uc),(.slice pa np pc),(.slice ia ni ic)] 172)).heap.size:=by simp
     replace hB:=hB.alloc (by have:=hB.size;omega) (.cells #[.string x,.string fm,(.slice ua nv uc),(.slice pa np pc),(.slice ia ni ic)] 172)
     replace hP:=hP.below (bal (.cells #[.string x,.string fm,(.slice ua nv uc),(.slice pa np pc),(.slice ia ni ic)] 172))
     replace hM:MdIn (holes (busy D (.slice ma L.length mc)) (W.alloc (.cells #[.string x,.string fm,(.slice ua nv uc),(.slice pa np pc),(.slice ia ni ic)] 172))) ⟨x,(.slice ua nv uc),(.slice pa np pc),(.slice ia ni ic)⟩:=hM.move fun a v h1 h2=>⟨h1,cell_new h2 _⟩
     replace hS:(W.alloc (.cells #[.string x,.string fm,(.slice ua nv uc),(.slice pa np pc),(.slice ia ni ic)] 172)).cell? ⟨N,0,none⟩=some (.string fm)∧(W.alloc (.cells #[.string x,.string fm,(.slice ua nv uc),(.slice pa np pc),(.slice ia ni ic)] 172)).cell? ⟨N,1,none⟩=some (.slice ua nv uc)∧(W.alloc (.cells #[.string x,.string fm,(.slice ua nv uc),(.slice pa np pc),(.slice ia ni ic)] 172)).cell? ⟨N,2,none⟩=some (.slice pa np pc):=⟨cell_new hS.1 _,cell_new hS.2.1 _,cell_new hS.2.2 _⟩
     refine hK.out _ _ hS (fun hHeld=>?_)
     clear hK KK hHeld
     generalize W.alloc (.cells #[.string x,.string fm,(.slice ua nv uc),(.slice pa np pc),(.slice ia ni ic)] 172)=W3 at *
     generalize W.heap.size=s0 at *
     refine oneH 4 fun KK hK=>?_
     have m1:=hP.box.cell 0 rfl
     go_simp
     refine hK.out _ _ hS (fun hHeld=>?_)
     clear hK KK hHeld m1
     refine oneH 10 fun KK hK=>?_
     refine step_append_lies _ (by rfl) (.tmp 35) (.tmp 40) 137 (by rfl) (D+2) 172 i0 (.agg #[.string ⟨#[]⟩,.string ⟨#[]⟩,.slice none 0 0,.slice none 0 0,.slice none 0 0]) 5 104 Tryz.underlying137 hi hz0 hz1 hz2 rfl (by decide) (.slice ma L.length mc) L.length (modCells L) (by simp [Act.eval,Act.put]) hP.row ⟨s0,0,none⟩ 1 1 [.string x,.string fm,(.slice ua nv uc),(.slice pa np pc),(.slice ia ni ic)] (by simp [Act.eval,Act.put]) rfl hsl (by intro u hu;simp at hu;rcases hu with rfl | rfl | rfl | rfl | rfl<;>rfl) (by omega) (by unfold maxLen;omega) (by omega) (by have:=hP.lt;omega) (s0+1) hss.symm ?_
     intro g5 cap5 w5 hown5 hgrow5 hat5 hlt5
     have hrD:(Value.slice ma L.length mc).ownBlock≠some (D+1):=fun e=>by have:=(hP.row.lt _ e).1;omega
     have hfin:=hP.push hM (by rw [← hfm] at hown5;exact hown5) hgrow5 (hat5.imp id (fun e=>e.trans hss))
     have hB5:=hB.grown hgrow5 (by have:=hB.size;omega) (fun k e=>by have:=(hP.row.lt _ e).1;omega)
     have hrN:(Value.slice ma L.length mc).ownBlock≠some N:=fun e=>by have:=hmN _ e;omega
     have hS5:w5.cell? ⟨N,0,none⟩=some (.string fm)∧w5.cell? ⟨N,1,none⟩=some (.slice ua nv uc)∧w5.cell? ⟨N,2,none⟩=some (.slice pa np pc):=⟨far hS.1 hgrow5 hrN,far hS.2.1 hgrow5 hrN,far hS.2.2 hgrow5 hrN⟩
     have hbx:=hP.box.grown hgrow5 hrD
     have m1:=hbx.cell 0 rfl
     have mf:=hbx.fz 0
     clear hP hbx hS hB hM
     refine hK.out _ _ hS5 (fun hHeld=>?_)
     clear hK KK hHeld
     have hS:=hS5
     simp only [Act.put,jA,jB,jC]
     refine tkP 11 (.pointer (some ⟨D+1,0,none⟩)) hS ?_
     simp only [Act.put,jA,jB,jC]
     refine tkP 12 (.pointer (some ⟨D+1,0,none⟩)) hS ?_
     simp only [Act.put,jA,jB,jC]
     refine oneH 13 fun KK hK=>?_
     go_simp
     refine hK.out _ _ ⟨far2 (by omega) hS.1 _,far2 (by omega) hS.2.1 _,far2 (by omega) hS.2.2 _⟩ (fun hHeld=>?_)
     clear hK KK hHeld m1 mf
     refine wpAnyH_done (by kernel_rfl) ?_ _
     go_wp2
     go_roundw
     case rel=>exact ⟨j+1,_,L++[⟨x,(.slice ua nv uc),(.slice pa np pc),(.slice ia ni ic)⟩],by omega,by go_num,hfin,hB5.setCell (by show D≤D+1;omega) _,by rw [List.map_append,hL];show xs.take j++[x]=_;rw [← hxj];exact take_snoc hlt,HNX.out⟩
     case measure=>simp [intOf];omega
   ·have hcn:(ec != 0)=true:=by simp [h0]
    go_wp2_with first
     | (go_at_call 16;refine hOf.mono ?_;rintro e w1 ⟨fv,lv,rfl,⟨vv,pv,rfl,⟨ua,uc,rfl,_,_⟩,⟨ta2,tc2,rfl,_,_⟩⟩,⟨ia,ic,rfl,_,_⟩,hb1⟩)
     | (go_at_call 120;refine (oRefuse _ _ _ _).mono ?_;rintro e w2 ⟨rfl,hw2⟩;obtain rfl:=hw2.symm)
    have hA1:=(Joins.below_alloc2 w1 (.cells #[.string (tx x).F.module,.slice ua (tx x).F.vars.length uc,.slice ta2 (tx x).F.procs.length tc2] 44) (.cells #[.int .i64 ec,.int .i64 ep] 28))
    have hb2:=hb1.trans (hA1.mono hb1.size)
    refine ⟨rfl,hB.trans (hb2.mono (by have:=hB.size;omega)),.inl ⟨_,?_,rfl⟩⟩
    rw [← HRR.out,HX.out,hxj,hec,hep,if_pos h0]
  ·go_wp2
   go_end0
   have hjj:j=xs.length:=by omega
   subst hjj
   refine ⟨hB,.inr ⟨?_,rfl,mv,L,?_,hP⟩⟩
   ·rw [← HRR.out,List.drop_length]
    rfl
   ·rw [hL,List.take_length]
theorem MdIn.shape {w:World} {m:MD} (h:MdIn w m):∃ ua n1 uc pa n2 pc ia ic,m.vv=.slice ua n1 uc∧m.pv=.slice pa n2 pc∧m.iv=.slice ia (tx m.x).I.length ic:=by
 obtain ⟨⟨vv,pv,e,⟨ua,uc,rfl,_⟩,⟨pa,pc,rfl,_⟩⟩,⟨ia,ic,e3,_⟩,_⟩:=h
 unfold fvV MD.q at e
 injection e with e
 simp only [List.toArray_eq_toArray_eq,Array.mk.injEq,List.cons.injEq,and_true] at e
 exact ⟨ua,_,uc,pa,_,pc,ia,ic,e.2.1,e.2.2,e3⟩
def nmOf (L:List MD):List ByteArray:=L.map fun m=>nameOf m.x
theorem enterF_drop {ns:List ByteArray} {j:Nat} (h:j<ns.length):enterF (ns.take j) (ns.drop j)=if among (ns.take j) ns[j] then some ((j:Int),5,0) else enterF (ns.take (j+1)) (ns.drop (j+1)):=by
 rw [List.drop_eq_getElem_cons h]
 conv=>lhs;unfold enterF
 rw [take_snoc h,List.length_take,Nat.min_eq_left (by omega)]
def EnE (w0:World) (D:Nat) (mv:Value) (L:List MD) (e:Ending) (w':World):Prop :=
 Below D w0 w'∧((∃ t,enterF [] (nmOf L)=some t∧e=.panicked (ThrownT t))∨(enterF [] (nmOf L)=none∧e=.returned (.tuple #[])∧PS w' D mv L L.length (numF (nmOf L))))
set_option maxHeartbeats 4000000 in
theorem oEnter (w0:World) (D:Nat) (hD:w0.heap.size=D) (mv:Value) (L:List MD) (h6:L.length≤6) (w:World) (hB:Below D w0 w) (hP:PS w D mv L 0 (fun _=>none)) :
  Calls Tryz.prog 74 #[.pointer (some ⟨D+1,0,none⟩)] w (EnE w0 D mv L):=by
 have c5:=kc172
 have c3:Tryz.prog.cellsOf 44=3:=cell3
 obtain ⟨ma,mc,rfl⟩:∃ a c,mv=.slice a L.length c:=by obtain ⟨a,c,e,_⟩:=hP.shape;exact ⟨a,c,e⟩
 have hnl:(nmOf L).length=L.length:=by simp [nmOf]
 have m0:=hP.box.cell 0 rfl
 go_enter Tryz.func74,Tryz.ntmps74
 go_wp2
 go_loopw [11] (fun t wr=>∃ (j:Nat),j≤L.length∧t=.int .i64 j∧PS wr D (.slice ma L.length mc) L j (numF ((nmOf L).take j))∧Below D w0 wr∧enterF ((nmOf L).take j) ((nmOf L).drop j)=enterF [] (nmOf L)) (fun t _=>L.length - (intOf t).toNat)
 case atStart=>exact ⟨0,Nat.zero_le _,rfl,hP,hB,rfl⟩
 case round =>
  clear hP hB m0
  obtain ⟨j,hj,rfl,hP,hB,hR⟩:=hrel
  have HRR:=show Hid _ from hR
  clear hR
  by_cases hlt:j<L.length
  ·obtain ⟨g,rfl,q0,q1,q2,q3,q4⟩:∃ g,ma=some ⟨g,0,none⟩∧wr.cell? ⟨g,j*5,none⟩=some (.string L[j].x)∧wr.cell? ⟨g,j*5+1,none⟩=some (.string (nameOf L[j].x))∧wr.cell? ⟨g,j*5+2,none⟩=some L[j].vv∧wr.cell? ⟨g,j*5+3,none⟩=some L[j].pv∧wr.cell? ⟨g,j*5+4,none⟩=some L[j].iv:=by
    obtain ⟨a,c,e,hk⟩:=hP.shape
    obtain ⟨g,e2,hc⟩:=hk (by omega)
    injection e with e1
    exact ⟨g,e1.trans e2,hc j hlt⟩
   have hmd:=hP.md (List.getElem_mem hlt)
   have hnj:(nmOf L)[j]'(by omega)=nameOf L[j].x:=by simp [nmOf]
   have HX:=show Hid _ from enterF_drop (ns:=nmOf L) (j:=j) (by omega)
   rw [hnj] at HX
   have HS:Hid (among ((nmOf L).take j) (nameOf L[j].x)=false→numF ((nmOf L).take (j+1))=fun z=>if eqS z (nameOf L[j].x) then some j else numF ((nmOf L).take j) z):=fun h=>by
    funext z
    have:=numF_snoc ((nmOf L).take j) (nameOf L[j].x) z h
    rw [← hnj,take_snoc (by omega:j<(nmOf L).length),hnj,List.length_take,Nat.min_eq_left (by omega)] at this
    exact this
   have hsm:=hmd.small
   obtain ⟨ua,n1,uc,pa,n2,pc,ia,ic,e1,e2,e3⟩:=hmd.shape
   rw [e1] at q2
   rw [e2] at q3
   rw [e3] at q4
   generalize (tx L[j].x).I.length=n3 at q4
   clear hmd e1 e2 e3
   generalize nameOf L[j].x=nm at *
   generalize L[j].x=x at *
   have hB1:=(hB.alloc (by have:=hB.size;omega) (.cells #[.string x,.string nm,.slice ua n1 uc,.slice pa n2 pc,.slice ia n3 ic] 172)).drew
   have hP1:=(hP.below (bal (.cells #[.string x,.string nm,.slice ua n1 uc,.slice pa n2 pc,.slice ia n3 ic] 172))).below (Below.refl _ _).drew
   have hwl:=hP.lt
   have hS:PS (wr.alloc (.cells #[.string x,.string nm,.slice ua n1 uc,.slice pa n2 pc,.slice ia n3 ic] 172)).drew D (.slice (some ⟨g,0,none⟩) L.length mc) L j (numF ((nmOf L).take j))∧(wr.alloc (.cells #[.string x,.string nm,.slice ua n1 uc,.slice pa n2 pc,.slice ia n3 ic] 172)).drew.cell? ⟨wr.heap.size,1,none⟩=some (.string nm):=⟨hP1,by simp⟩
   go_wp2
   refine wp_region_held_drew (S:=fun W=>PS W D (.slice (some ⟨g,0,none⟩) L.length mc) L j (numF ((nmOf L).take j))∧W.cell? ⟨wr.heap.size,1,none⟩=some (.string nm)) (by kernel_rfl) hS (fun hHeld=>?_)
   clear hHeld hP hB hP1 q0 q1 q2 q3 q4
   generalize (wr.alloc (.cells #[.string x,.string nm,.slice ua n1 uc,.slice pa n2 pc,.slice ia n3 ic] 172)).drew=W at *
   generalize hNe:wr.heap.size=N at *
   refine tkR 0 (.pointer (some ⟨D+1,0,none⟩)) hS ?_
   simp only [jA,jB,jC]
   refine tkR 1 (.pointer (some ⟨D+1,0,none⟩)) hS ?_
   simp only [jA,jB,jC]
   refine tkR 2 (.pointer (some ⟨D+1,1,none⟩)) hS ?_
   simp only [jA,jB,jC]
   refine tkS (i:=3) (v:=.map (some D)) rfl rfl (Or.inl ⟨by rfl,fun w hSw=>by have z:=hSw.1.box.cell 1 rfl;go_simp⟩) hS ?_
   simp only [jA,jB,jC]
   refine tkR 4 (.pointer (some ⟨N,1,none⟩)) hS ?_
   simp only [jA,jB,jC]
   refine tkR 5 (.pointer (some ⟨N,1,none⟩)) hS ?_
   simp only [jA,jB,jC]
   refine tkS (i:=6) (v:=.string nm) rfl rfl (Or.inl ⟨by rfl,fun w hSw=>by have z:=hSw.2;go_simp⟩) hS ?_
   simp only [jA,jB,jC]
   generalize hnf:numF ((nmOf L).take j) nm=o
   refine tkS (i:=7) (v:=.tuple #[.int .i64 (o.getD 0:Nat),.bool o.isSome] ) rfl rfl (Or.inl ⟨by rfl,fun w hSw=>by have z:=map_look2 hSw.1.map nm (by unfold maxLen;omega);rw [hnf] at z ;go_simp⟩) hS ?_
   simp only [jA,jB,jC]
   refine tkR 8 (.tuple #[.int .i64 (o.getD 0:Nat),.bool o.isSome] ) hS ?_
   simp only [jA,jB,jC]
   refine tkR 9 (.int .i64 (o.getD 0:Nat)) hS ?_
   simp only [jA,jB,jC]
   refine tkR 10 (.bool o.isSome) hS ?_
   simp only [jA,jB,jC]
   refine tkR 11 (.int .i64 (o.getD 0:Nat)) hS ?_
   simp only [jA,jB,jC]
   refine tkR 12 (.bool o.isSome) hS ?_
   simp only [jA,jB,jC]
   refine wpAnyH_done (by kernel_rfl) ?_ _
   cases ha:among ((nmOf L).take j) nm with
   | true =>
    obtain ⟨i,hi,_,_⟩:=numF_some ha
    obtain rfl:o=some i:=by rw [← hnf,hi]
    go_wp2_with (go_at_call 120;refine (oRefuse _ _ _ _).mono ?_;rintro e w2 ⟨rfl,hw2⟩;obtain rfl:=hw2.symm)
    refine ⟨rfl,hB1,.inl ⟨_,?_,rfl⟩⟩
    rw [← HRR.out,HX.out,ha]
    rfl
   | false =>
    obtain rfl:o=none:=by rw [← hnf,numF_none ha]
    go_wp2
    replace hS:PS W.drew D (.slice (some ⟨g,0,none⟩) L.length mc) L j (numF ((nmOf L).take j))∧W.drew.cell? ⟨N,1,none⟩=some (.string nm):=⟨hS.1.below (Below.refl _ _).drew,by simpa using hS.2⟩
    replace hB1:=hB1.drew
    refine wp_region_held_drew (S:=fun W=>W.cell? ⟨D+1,1,none⟩=some (.map (some D))∧W.cell? ⟨N,1,none⟩=some (.string nm)) (by kernel_rfl) ⟨hS.1.box.cell 1 rfl,hS.2⟩ (fun hHeld=>?_)
    have hP3:=hS.1
    have hB3:=hB1
    clear hHeld hB1
    replace hS:W.drew.cell? ⟨D+1,1,none⟩=some (.map (some D))∧W.drew.cell? ⟨N,1,none⟩=some (.string nm):=⟨hS.1.box.cell 1 rfl,hS.2⟩
    generalize W.drew=W at *
    refine tkR 0 (.pointer (some ⟨D+1,0,none⟩)) hS ?_
    simp only [jA,jB,jC]
    refine tkR 1 (.pointer (some ⟨D+1,0,none⟩)) hS ?_
    simp only [jA,jB,jC]
    refine tkR 2 (.pointer (some ⟨D+1,1,none⟩)) hS ?_
    simp only [jA,jB,jC]
    refine tkS (i:=3) (v:=.map (some D)) rfl rfl (Or.inl ⟨by rfl,fun w hSw=>by obtain ⟨z0,z1⟩:=hSw;go_simp⟩) hS ?_
    simp only [jA,jB,jC]
    refine tkR 4 (.pointer (some ⟨N,1,none⟩)) hS ?_
    simp only [jA,jB,jC]
    refine tkR 5 (.pointer (some ⟨N,1,none⟩)) hS ?_
    simp only [jA,jB,jC]
    refine tkS (i:=6) (v:=.string nm) rfl rfl (Or.inl ⟨by rfl,fun w hSw=>by obtain ⟨z0,z1⟩:=hSw;go_simp⟩) hS ?_
    simp only [jA,jB,jC]
    refine tkR 7 (.int .i64 j) hS ?_
    simp only [jA,jB,jC]
    refine oneH 8 fun KK hK=>?_
    obtain ⟨w4,hrun,hmap,hgr⟩:=map_store hP3.map (by unfold maxLen;omega) nm (by unfold maxLen;omega) j
    go_simp
    have hmap':MapF w4 D (j+1) (fun z=>(numF ((nmOf L).take (j+1)) z).map natV):=by rw [HS.out ha];exact hmap
    have hP4:=hP3.turned hmap' hgr
    have hB4:=hB3.grown hgr (by have:=hB3.size;omega) (fun k e=>by cases e;omega)
    refine hK.out _ _ ⟨far hS.1 hgr (by simp),far hS.2 hgr (by simp;omega)⟩ (fun hHeld=>?_)
    clear hK KK hHeld
    refine wpAnyH_done (by kernel_rfl) ?_ _
    go_wp2
    go_roundw
    case rel=>exact ⟨j+1,by omega,by go_num,hP4,hB4,by rw [← HRR.out,HX.out,ha];rfl⟩
    case measure=>simp [intOf];omega
  ·go_wp2
   go_end0
   have hjj:j=L.length:=by omega
   subst hjj
   refine ⟨hB,.inr ⟨?_,rfl,?_⟩⟩
   ·rw [← HRR.out,← hnl,List.drop_length]
    rfl
   ·rw [← hnl,List.take_length] at hP
    rw [hnl] at hP
    exact hP
theorem mem_imports:∀ (K:List Kid) (z:ByteArray),z∈importsK K→Kid.imp z∈K
 | [],_,h=>by cases h
 | k :: r,z,h=>by
  have ih:=mem_imports r z
  cases k<;>simp_all [importsK]
  rcases h with h | h
  ·exact .inl h
  ·exact .inr (ih h)
theorem importsK_len:∀ K:List Kid,(importsK K).length≤K.length
 | []=>jE _
 | k :: r=>by
  have ih:=importsK_len r
  cases k<;>simp [importsK]<;>omega
theorem I_small {x:ByteArray} (h:(tx x).ec=0):(∀ y∈(tx x).I,y.size≤16)∧(tx x).I.length≤900:=by
 obtain ⟨h1,h2,h3,h4,h5⟩:=(txo x).good h
 have hs:=(txo x).shp h4
 rw [h2]
 refine ⟨fun y hy=>?_,?_⟩
 ·exact (hs.2.2.1 _ (mem_imports _ _ hy)).1
 ·have:=importsK_len (tx x).K
  have:=hs.2.2.2.2.1
  omega
def imOf (L:List MD):List (List ByteArray):=L.map fun m=>(tx m.x).I
theorem findF_drop {ns:List ByteArray} {Is:List (List ByteArray)} {j:Nat} (h:j<Is.length):findF ns (Is.drop j) j=match impF ns j Is[j] 0 with
  | some t=>some t
  | none=>findF ns (Is.drop (j+1)) (j+1):=by
 rw [List.drop_eq_getElem_cons h]
 rfl
theorem impF_drop {ns l:List ByteArray} {i k:Nat} (h:k<l.length):impF ns i (l.drop k) k=if among ns l[k] then impF ns i (l.drop (k+1)) (k+1) else some ((i:Int),4,1+(k:Int)):=by
 rw [List.drop_eq_getElem_cons h]
 rfl
def FiE (w0:World) (D:Nat) (mv:Value) (L:List MD) (e:Ending) (w':World):Prop :=
 Below D w0 w'∧((∃ t,findF (nmOf L) (imOf L) 0=some t∧e=.panicked (ThrownT t))∨(findF (nmOf L) (imOf L) 0=none∧e=.returned (.tuple #[])∧PS w' D mv L L.length (numF (nmOf L))))
set_option maxHeartbeats 4000000 in
theorem oFind (w0:World) (D:Nat) (hD:w0.heap.size=D) (mv:Value) (L:List MD) (h6:L.length≤6) (w:World) (hB:Below D w0 w) (hP:PS w D mv L L.length (numF (nmOf L))) :
  Calls Tryz.prog 75 #[.pointer (some ⟨D+1,0,none⟩)] w (FiE w0 D mv L):=by
 have c5:=kc172
 have c3:Tryz.prog.cellsOf 44=3:=cell3
 obtain ⟨ma,mc,rfl⟩:∃ a c,mv=.slice a L.length c:=by obtain ⟨a,c,e,_⟩:=hP.shape;exact ⟨a,c,e⟩
 have HIL:Hid ((imOf L).length=L.length):=by show _=_;simp [imOf]
 have m0:=hP.box.cell 0 rfl
 generalize hns:nmOf L=ns at hP
 go_enter Tryz.func75,Tryz.ntmps75
 go_wp2
 go_loopw [13] (fun t wr=>∃ (j:Nat),j≤L.length∧t=.int .i64 j∧PS wr D (.slice ma L.length mc) L L.length (numF ns)∧Below D w0 wr∧Hid (findF ns ((imOf L).drop j) j=findF ns (imOf L) 0)) (fun t _=>L.length - (intOf t).toNat)
 case atStart=>exact ⟨0,Nat.zero_le _,rfl,hP,hB,rfl⟩
 case round =>
  clear hP hB m0
  obtain ⟨j,hj,rfl,hP,hB,HRR⟩:=hrel
  by_cases hlt:j<L.length
  ·obtain ⟨g,rfl,q0,q1,q2,q3,q4⟩:∃ g,ma=some ⟨g,0,none⟩∧wr.cell? ⟨g,j*5,none⟩=some (.string L[j].x)∧wr.cell? ⟨g,j*5+1,none⟩=some (.string (nameOf L[j].x))∧wr.cell? ⟨g,j*5+2,none⟩=some L[j].vv∧wr.cell? ⟨g,j*5+3,none⟩=some L[j].pv∧wr.cell? ⟨g,j*5+4,none⟩=some L[j].iv:=by
    obtain ⟨a,c,e,hk⟩:=hP.shape
    obtain ⟨g,e2,hc⟩:=hk (by omega)
    injection e with e1
    exact ⟨g,e1.trans e2,hc j hlt⟩
   have hmd:=hP.md (List.getElem_mem hlt)
   have HX:=show Hid _ from findF_drop (ns:=ns) (Is:=imOf L) (j:=j) (by rw [HIL.out];exact hlt)
   have hij:(imOf L)[j]'(by rw [HIL.out];exact hlt)=(tx L[j].x).I:=by simp [imOf]
   rw [hij] at HX
   obtain ⟨hsm,hil⟩:=I_small hmd.2.2
   obtain ⟨ua,n1,uc,pa,n2,pc,ia,ic,e1,e2,e3⟩:=hmd.shape
   have hst:=hmd.2.1
   rw [e3] at hst
   rw [e1] at q2
   rw [e2] at q3
   rw [e3] at q4
   clear hmd e1 e2 e3 hij
   generalize (tx L[j].x).I=I at *
   generalize nameOf L[j].x=nm at *
   generalize L[j].x=x at *
   have hB1:=hB.alloc (by have:=hB.size;omega) (.cells #[.string x,.string nm,.slice ua n1 uc,.slice pa n2 pc,.slice ia I.length ic] 172)
   have hP1:=hP.below (bal (.cells #[.string x,.string nm,.slice ua n1 uc,.slice pa n2 pc,.slice ia I.length ic] 172))
   have hst1:=StrsIn.mono (fun a v h=>cell_new h (.cells #[.string x,.string nm,.slice ua n1 uc,.slice pa n2 pc,.slice ia I.length ic] 172)) hst
   have m1:=hP1.box.cell 1 rfl
   go_wp2
   go_loopw [21] (fun t wq=>∃ (k:Nat),k≤I.length∧t=.int .i64 k∧wq=wr.alloc (.cells #[.string x,.string nm,.slice ua n1 uc,.slice pa n2 pc,.slice ia I.length ic] 172)∧Hid (impF ns j (I.drop k) k=impF ns j I 0)) (fun t _=>I.length - (intOf t).toNat)
   case atStart=>exact ⟨0,Nat.zero_le _,rfl,rfl,rfl⟩
   case round =>
    obtain ⟨k,hk,rfl,rfl,HN⟩:=hrel
    by_cases hkl:k<I.length
    ·obtain ⟨ga,go,rfl,hc⟩:∃ ga go,ia=some ⟨ga,go,none⟩∧(wr.alloc (.cells #[.string x,.string nm,.slice ua n1 uc,.slice pa n2 pc,.slice ia I.length ic] 172)).cell? ⟨ga,go+k,none⟩=some (.string I[k]):=by
      obtain ⟨a',c',e',_,hk'⟩:=hst1
      obtain ⟨g',o',e2,hc⟩:=hk' (by intro e;rw [e] at hkl;simp at hkl)
      injection e' with e1
      exact ⟨g',o',e1.trans e2,hc k hkl⟩
     have hy:=hsm _ (List.getElem_mem hkl)
     have HY:=show Hid _ from impF_drop (ns:=ns) (i:=j) hkl
     generalize I[k]=y at *
     have hlk:=map_look2 hP1.map y (by unfold maxLen;omega)
     cases ha:among ns y with
     | true =>
      obtain ⟨i,hi,_,_⟩:=numF_some ha
      rw [hi] at hlk
      have HN2:Hid (impF ns j (I.drop (k+1)) (k+1)=impF ns j I 0):=by
       show _=_
       rw [← HN.out,HY.out,ha]
       rfl
      clear hi
      go_wp2
      go_roundw
      case rel=>exact ⟨k+1,by omega,by go_num,trivial,HN2⟩
      case measure=>simp [intOf];omega
     | false =>
      rw [numF_none ha] at hlk
      have HN2:Hid (impF ns j I 0=some ((j:Int),4,1+(k:Int))):=by
       show _=_
       rw [← HN.out,HY.out,ha]
       rfl
      go_wp2_with (go_at_call 120;refine (oRefuse _ _ _ _).mono ?_;rintro e w2 ⟨rfl,hw2⟩;obtain rfl:=hw2.symm)
      refine ⟨rfl,hB1,.inl ⟨_,?_,rfl⟩⟩
      rw [hns,← HRR.out,HX.out,HN2.out]
    ·have hkk:k=I.length:=by omega
     subst hkk
     have HN2:Hid (impF ns j I 0=none):=by
      show _=_
      rw [← HN.out,List.drop_length]
      rfl
     go_wp2
     go_roundw
     case rel=>exact ⟨j+1,by omega,by go_num,hP1,hB1,by show _=_;rw [← HRR.out,HX.out,HN2.out]⟩
     case measure=>simp [intOf];omega
  ·go_wp2
   go_end0
   have hjj:j=L.length:=by omega
   subst hjj
   refine ⟨hB,.inr ⟨?_,rfl,by rw [hns];exact hP⟩⟩
   rw [hns,← HRR.out,← HIL.out,List.drop_length]
   rfl
def NatsIn (w:World) (v:Value) (t:List Nat):Prop:=∃ a c,v=.slice a t.length c∧(t≠[]→∃ g,a=some ⟨g,0,none⟩∧∀ i (h:i<t.length),w.cell? ⟨g,i,none⟩=some (.int .i64 (t[i]:Int)))
theorem NatsIn.below {w w':World} {v:Value} {t:List Nat} (h:NatsIn w v t) (hb:Below w.heap.size w w'):NatsIn w' v t:=by
 obtain ⟨a,c,e,hk⟩:=h
 refine ⟨a,c,e,fun hne=>?_⟩
 obtain ⟨g,e2,hc⟩:=hk hne
 exact ⟨g,e2,fun i hi=>keep (hc i hi) hb⟩
theorem nats_own {w:World} {B:Nat} {v:Value} {t:List Nat} (h:w.ownsRow B 3 1 v t.length (t.map natV)):NatsIn w v t:=by
 rcases h.2 with ⟨rfl,hn⟩|⟨g,cap,cur,rfl,_,_,h1,h2,_⟩
 ·exact ⟨none,0,by rw [hn],fun h=>absurd (List.eq_nil_of_length_eq_zero hn) h⟩
 ·refine ⟨some ⟨g,0,none⟩,cap,rfl,fun _=>⟨g,rfl,fun i hi=>?_⟩⟩
  rw [h.cellAt _ (by omega)]
  simp [natV,hi]
set_option maxHeartbeats 1000000 in
theorem oIndexI (i:Nat) (t:List Nat) (v:Value) (w:World) (ht:t.length≤6) (hv:NatsIn w v t) :
  Calls Tryz.prog 152 #[v,.int .i64 i] w fun e w'=>∃ k:Int,e=.returned (.int .i64 k)∧decide (0≤k)=t.contains i∧w'=w:=by
 obtain ⟨a,c,rfl,hk⟩:=hv
 go_enter Tryz.func152,Tryz.ntmps152
 go_wp2
 go_loopw [8] (fun u wr=>∃ k:Nat,k≤t.length∧u=.int .i64 k∧wr=w∧Hid (∀ j (hj:j<t.length),j<k→t[j]≠i)) (fun u _=>t.length - (intOf u).toNat)
 case atStart=>exact ⟨0,Nat.zero_le _,rfl,rfl,fun j _ hj=>by omega⟩
 case round =>
  obtain ⟨k,hkl,rfl,rfl,HN⟩:=hrel
  by_cases hlt:k<t.length
  ·obtain ⟨g,rfl,hc⟩:=hk (by intro e;rw [e] at hlt;simp at hlt)
   have q:=hc k hlt
   clear hc hk
   by_cases he:t[k]=i
   ·have HE:Hid (t.contains i=true):=by
     show _=_
     rw [List.contains_iff_mem,← he]
     exact List.getElem_mem hlt
    rw [he] at q
    clear he
    go_wp2
    go_ret
    exact ⟨(k:Int),rfl,by rw [HE.out];simp,rfl⟩
   ·have HE:Hid (t[k]≠i):=he
    have he2:¬ ((i:Int)=((t[k]:Nat):Int)):=by omega
    clear he
    go_wp2
    go_roundw
    case rel=>exact ⟨k+1,by omega,by go_num,by trivial,fun j hj h1=>by
     rcases Nat.lt_or_ge j k with h | h
     ·exact HN.out j hj h
     ·have:j=k:=by omega
      subst this
      exact HE.out⟩
    case measure=>simp [intOf];omega
  ·have HE:Hid (t.contains i=false):=by
    show _=_
    cases hc:t.contains i with
    | false=>rfl
    | true =>
     rw [List.contains_iff_mem] at hc
     obtain ⟨j,hj,e⟩:=List.mem_iff_getElem.1 hc
     exact absurd e (HN.out j hj (by omega))
   clear HN
   go_wp2
   go_ret
   exact ⟨-1,rfl,by rw [HE.out];rfl,rfl⟩
theorem oContainsI (i:Nat) (t:List Nat) (v:Value) (w:World) (ht:t.length≤6) (hv:NatsIn w v t) :
  Calls Tryz.prog 122 #[v,.int .i64 i] w fun e w'=>e=.returned (.bool (t.contains i))∧w'=w:=by
 have h:=oIndexI i t v w ht hv
 obtain ⟨a,c,rfl,hk⟩:=hv
 generalize t.contains i=V at *
 go_enter Tryz.func122,Tryz.ntmps122
 go_wp2_with (fail)
 refine h.mono ?_
 rintro e w1 ⟨k,rfl,hi,hw⟩
 obtain rfl:=hw.symm
 go_wp2
 go_ret
 exact ⟨by rw [← hi];rfl,rfl⟩
theorem oIsLeft (i:Nat) (t:List Nat) (v:Value) (p:Nat) (w:World) (ht:t.length≤6) (hv:NatsIn w v t) (hp:w.cell? ⟨p,0,none⟩=some v) :
  Calls Tryz.prog 121 #[.int .i64 i,.pointer (some ⟨p,0,none⟩)] w fun e w'=>e=.returned (.bool (!t.contains i))∧w'=w:=by
 have h:=oContainsI i t v w ht hv
 obtain ⟨a,c,rfl,hk⟩:=hv
 generalize t.contains i=V at *
 go_enter Tryz.func121,Tryz.ntmps121
 go_wp2_with (go_at_call 122;refine h.mono ?_;rintro e w1 ⟨rfl,hw⟩;obtain rfl:=hw.symm)
 go_ret
 exact ⟨rfl,rfl⟩
abbrev isLeftV (b:Nat):Value:=.func (.func 121) #[] #[.pointer (some ⟨b+1,0,none⟩)]
abbrev awaitedV (b:Nat):Value:=.func (.func 123) #[] #[.pointer (some ⟨b+2,0,none⟩),.pointer (some ⟨b,0,none⟩)]
structure TS (w1:World) (D b:Nat) (mv:Value) (L:List MD) (tv:Value) (t:List Nat) (w:World):Prop where
 sz:w1.heap.size=b
 ps:PS w1 D mv L L.length (numF (nmOf L))
 bl:Below b w1 w
 b0:BoxC w b #[.pointer (some ⟨D+1,0,none⟩)] 169
 b1:BoxC w (b+1) #[tv] 51
 b2:BoxC w (b+2) #[isLeftV b] 90
 b3:BoxC w (b+3) #[awaitedV b] 35
 row:w.ownsRow (b+4) 3 1 tv t.length (t.map natV)
 tk:Tk L.length t
section
variable {w1 w w':World} {D b:Nat} {mv tv:Value} {L:List MD} {t:List Nat}
theorem TS.now (h:TS w1 D b mv L tv t w):PS w D mv L L.length (numF (nmOf L)):=h.ps.below (by rw [h.sz];exact h.bl)
theorem TS.below (h:TS w1 D b mv L tv t w) (hb:Below w.heap.size w w'):TS w1 D b mv L tv t w' :=
 ⟨h.sz,h.ps,h.bl.trans (hb.mono (by have:=h.bl.size;have:=h.sz;omega)),h.b0.below hb,h.b1.below hb,h.b2.below hb,h.b3.below hb,h.row.kept (grown_of_below hb) (by cases tv.ownBlock<;>simp),h.tk⟩
theorem TS.nats (h:TS w1 D b mv L tv t w):NatsIn w tv t:=nats_own h.row
theorem TS.cells (h:TS w1 D b mv L tv t w):w.cell? ⟨b,0,none⟩=some (.pointer (some ⟨D+1,0,none⟩))∧w.cell? ⟨b+1,0,none⟩=some tv∧w.cell? ⟨b+2,0,none⟩=some (isLeftV b)∧w.cell? ⟨b+3,0,none⟩=some (awaitedV b)∧w.cell? ⟨D+1,0,none⟩=some mv∧w.cell? ⟨D+1,1,none⟩=some (.map (some D)) :=
 ⟨h.b0.cell 0 rfl,h.b1.cell 0 rfl,h.b2.cell 0 rfl,h.b3.cell 0 rfl,h.now.box.cell 0 rfl,h.now.box.cell 1 rfl⟩
end
set_option maxHeartbeats 1000000 in
theorem oAwaited {w1 w:World} {D b:Nat} {mv tv:Value} {L:List MD} {t:List Nat} (h6:L.length≤6) (hS:TS w1 D b mv L tv t w) (y:ByteArray) (hy:y.size≤16) :
  Calls Tryz.prog 123 #[.string y,.pointer (some ⟨b+2,0,none⟩),.pointer (some ⟨b,0,none⟩)] w fun e w'=>e=.returned (.bool (!t.contains (numD (nmOf L) y)))∧Below w.heap.size w w':=by
 have ht:=hS.tk.len
 go_enter Tryz.func123,Tryz.ntmps123
 go_wp2
 have hB:Below w.heap.size w w.drew:=(Below.refl _ _).drew
 replace hS:=hS.below hB
 refine wp_region_held_drew (S:=TS w1 D b mv L tv t) (by kernel_rfl) hS (fun hHeld=>?_)
 clear hHeld
 generalize hN:w.heap.size=N at *
 generalize w.drew=W at *
 refine tkS (i:=0) (v:=isLeftV b) rfl rfl (Or.inl ⟨by rfl,fun w hSw=>by obtain ⟨z0,z1,z2,z3,z4,z5⟩:=hSw.cells;go_simp⟩) hS ?_
 simp only [jA,jB,jC]
 refine tkS (i:=1) (v:=.pointer (some ⟨D+1,0,none⟩)) rfl rfl (Or.inl ⟨by rfl,fun w hSw=>by obtain ⟨z0,z1,z2,z3,z4,z5⟩:=hSw.cells;go_simp⟩) hS ?_
 simp only [jA,jB,jC]
 refine tkR 2 (.pointer (some ⟨D+1,0,none⟩)) hS ?_
 simp only [jA,jB,jC]
 refine tkR 3 (.pointer (some ⟨D+1,1,none⟩)) hS ?_
 simp only [jA,jB,jC]
 refine tkS (i:=4) (v:=.map (some D)) rfl rfl (Or.inl ⟨by rfl,fun w hSw=>by obtain ⟨z0,z1,z2,z3,z4,z5⟩:=hSw.cells;go_simp⟩) hS ?_
 simp only [jA,jB,jC]
 refine tkR 5 (.string y) hS ?_
 simp only [jA,jB,jC]
 refine tkS (i:=6) (v:=.int .i64 ((numD (nmOf L) y:Nat):Int)) rfl rfl (Or.inl ⟨by rfl,fun w hSw=>by have hl:=map_look hSw.now.map y (by unfold maxLen;omega);unfold numD;go_simp⟩) hS ?_
 simp only [jA,jB,jC]
 refine oneH 7 fun KK hK=>?_
 go_simp
 go_at_call 121
 refine (oIsLeft (numD (nmOf L) y) t tv (b+1) W (by omega) hS.nats hS.cells.2.1).mono ?_
 rintro e w2 ⟨rfl,hw⟩
 obtain rfl:=hw.symm
 go_wp2
 refine hK.out _ _ hS (fun hHeld=>?_)
 clear hHeld hK KK
 refine tkR 8 (.bool (!t.contains (numD (nmOf L) y))) hS ?_
 simp only [jA,jB,jC]
 refine wpAnyH_done (by kernel_rfl) ?_ _
 go_wp2
 go_ret
 exact ⟨rfl,hN▸hB⟩
theorem strs_below {w w':World} {v:Value} {l:List ByteArray} (h:StrsIn w v l) (hb:Below w.heap.size w w'):StrsIn w' v l:=StrsIn.mono (fun a v hc=>keep hc hb) h
section
variable {w1 w:World} {D b:Nat} {mv tv:Value} {L:List MD} {t:List Nat}
theorem any_none {α:Type} {l:List α} {p:α→Bool} (h:∀ j (hj:j<l.length),p l[j]=false):l.any p=false:=by
 rw [List.any_eq_false]
 intro y hy
 obtain ⟨k,hk,rfl⟩:=List.mem_iff_getElem.1 hy
 simp [h k hk]
theorem any_one {α:Type} {l:List α} {p:α→Bool} {k:Nat} (hk:k<l.length) (h:p l[k]=true):l.any p=true:=by
 rw [List.any_eq_true]
 exact ⟨l[k],List.getElem_mem _,h⟩
set_option maxHeartbeats 1000000 in
theorem oIndexAw (h6:L.length≤6) (hS:TS w1 D b mv L tv t w) (I:List ByteArray) (iv:Value) (hI:StrsIn w iv I) (hs:∀ y∈I,y.size≤16) (hl:I.length≤900) :
  Calls Tryz.prog 153 #[iv,awaitedV b] w fun e w'=>∃ k:Int,e=.returned (.int .i64 k)∧decide (0≤k)=awaitedB (nmOf L) t I∧Below w.heap.size w w':=by
 obtain ⟨ia,ic,rfl⟩:∃ a c,iv=.slice a I.length c:=by obtain ⟨a,c,e,_⟩:=hI;exact ⟨a,c,e⟩
 go_enter Tryz.func153,Tryz.ntmps153
 go_wp2
 go_loopw [8] (fun u wr=>∃ k:Nat,k≤I.length∧u=.int .i64 k∧TS w1 D b mv L tv t wr∧Below w.heap.size w wr∧Hid (∀ j (hj:j<I.length),j<k→(!t.contains (numD (nmOf L) I[j]))=false)) (fun u _=>I.length - (intOf u).toNat)
 case atStart=>exact ⟨0,Nat.zero_le _,rfl,hS,Below.refl _ _,fun j _ hj=>by omega⟩
 case round =>
  obtain ⟨k,hkl,rfl,hSr,hBr,HN⟩:=hrel
  by_cases hlt:k<I.length
  ·obtain ⟨g,o,rfl,hc⟩:∃ g o,ia=some ⟨g,o,none⟩∧wr.cell? ⟨g,o+k,none⟩=some (.string I[k]):=by
    obtain ⟨a',c',e',_,hk'⟩:=strs_below hI hBr
    obtain ⟨g',o',e2,hc⟩:=hk' (by intro e;rw [e] at hlt;simp at hlt)
    injection e' with e1
    exact ⟨g',o',e1.trans e2,hc k hlt⟩
   have hct:=oAwaited h6 hSr I[k] (hs _ (List.getElem_mem hlt))
   generalize hV:(!t.contains (numD (nmOf L) I[k]))=V at hct
   cases V
   ·have HE:=show Hid _ from hV
    clear hV
    generalize I[k]=y at hc hct
    go_wp2_with (go_at_call 123;refine hct.mono ?_;rintro e w2 ⟨rfl,hb2⟩)
    go_roundw
    case rel=>exact ⟨k+1,by omega,by go_num,hSr.below hb2,hBr.trans (hb2.mono hBr.size),fun j hj h1=>by
     rcases Nat.lt_or_ge j k with h | h
     ·exact HN.out j hj h
     ·have:j=k:=by omega
      subst this
      exact HE.out⟩
    case measure=>simp [intOf];omega
   ·have HE:Hid (awaitedB (nmOf L) t I=true):=any_one hlt hV
    clear hV
    generalize I[k]=y at hc hct
    go_wp2_with (go_at_call 123;refine hct.mono ?_;rintro e w2 ⟨rfl,hb2⟩)
    go_ret
    exact ⟨(k:Int),rfl,by rw [HE.out];simp,hBr.trans (hb2.mono hBr.size)⟩
  ·have HE:Hid (awaitedB (nmOf L) t I=false):=any_none (fun j hj=>HN.out j hj (by omega))
   clear HN
   go_wp2
   go_ret
   exact ⟨-1,rfl,by rw [HE.out];rfl,hBr⟩
theorem oContainsAw (h6:L.length≤6) (hS:TS w1 D b mv L tv t w) (I:List ByteArray) (iv:Value) (hI:StrsIn w iv I) (hs:∀ y∈I,y.size≤16) (hl:I.length≤900) :
  Calls Tryz.prog 125 #[iv,awaitedV b] w fun e w'=>e=.returned (.bool (awaitedB (nmOf L) t I))∧Below w.heap.size w w':=by
 have h:=oIndexAw h6 hS I iv hI hs hl
 obtain ⟨ia,ic,rfl⟩:∃ a c,iv=.slice a I.length c:=by obtain ⟨a,c,e,_⟩:=hI;exact ⟨a,c,e⟩
 generalize awaitedB (nmOf L) t I=V at *
 go_enter Tryz.func125,Tryz.ntmps125
 go_wp2_with (fail)
 refine h.mono ?_
 rintro e w1 ⟨k,rfl,hi,hw⟩
 go_wp2
 go_ret
 exact ⟨by rw [← hi];rfl,hw⟩
theorem PS.at {g k mc n:Nat} {f:ByteArray→Option Nat} (h:PS w D (.slice (some ⟨g,0,none⟩) k mc) L n f) (i:Nat) (hi:i<L.length):w.cell? ⟨g,i*5,none⟩=some (.string L[i].x)∧w.cell? ⟨g,i*5+1,none⟩=some (.string (nameOf L[i].x))∧w.cell? ⟨g,i*5+2,none⟩=some L[i].vv∧w.cell? ⟨g,i*5+3,none⟩=some L[i].pv∧w.cell? ⟨g,i*5+4,none⟩=some L[i].iv:=by
 obtain ⟨a,c,e,hk⟩:=h.shape
 obtain ⟨g',e2,hc⟩:=hk (by omega)
 injection e with e1
 rw [← e1] at e2
 injection e2 with e2
 injection e2 with e2
 subst e2
 exact hc i hi
theorem PS.slot {n:Nat} {f:ByteArray→Option Nat} (h:PS w D mv L n f) (hl:0<L.length):∃ g c,mv=.slice (some ⟨g,0,none⟩) L.length c:=by
 obtain ⟨a,c,rfl,hk⟩:=h.shape
 obtain ⟨g',rfl,hc⟩:=hk hl
 exact ⟨g',c,rfl⟩
set_option maxHeartbeats 1000000 in
theorem oMayBe (h6:L.length≤6) (hS:TS w1 D b mv L tv t w) (i:Nat) (hi:i<L.length) :
  Calls Tryz.prog 124 #[.int .i64 i,.pointer (some ⟨b+2,0,none⟩),.pointer (some ⟨b,0,none⟩),.pointer (some ⟨b+3,0,none⟩)] w fun e w'=>e=.returned (.bool (mayBeB (nmOf L) (imOf L) t i))∧Below w.heap.size w w':=by
 have c5:=kc172
 have ht:=hS.tk.len
 obtain ⟨g,mc,rfl⟩:=hS.now.slot (by omega)
 have hmd:=hS.now.md (List.getElem_mem hi)
 have hiv:(imOf L).getD i []=(tx L[i].x).I:=by simp [imOf,hi]
 have hR:mayBeB (nmOf L) (imOf L) t i=(!t.contains i&&!awaitedB (nmOf L) t (tx L[i].x).I):=by unfold mayBeB;rw [hiv]
 rw [hR]
 clear hR hiv
 obtain ⟨hsm,hil⟩:=I_small hmd.2.2
 have hst:StrsIn w L[i].iv (tx L[i].x).I:=hmd.2.1
 have hat:∀ W,TS w1 D b (.slice (some ⟨g,0,none⟩) L.length mc) L tv t W→W.cell? ⟨g,i*5+4,none⟩=some L[i].iv:=fun W hW=>(hW.now.at i hi).2.2.2.2
 obtain ⟨ia,ic,eiv⟩:∃ a c,L[i].iv=.slice a (tx L[i].x).I.length c:=by obtain ⟨a,c,e,_⟩:=hst;exact ⟨a,c,e⟩
 rw [eiv] at hst hat
 clear hmd eiv
 generalize (tx L[i].x).I=I at *
 have hct:∀ W,TS w1 D b (.slice (some ⟨g,0,none⟩) L.length mc) L tv t W→Calls Tryz.prog 121 #[.int .i64 i,.pointer (some ⟨b+1,0,none⟩)] W fun e w'=>e=.returned (.bool (!t.contains i))∧w'=W:=fun W hW=>oIsLeft i t tv (b+1) W (by omega) hW.nats hW.cells.2.1
 generalize (!t.contains i)=V at hct ⊢
 go_enter Tryz.func124,Tryz.ntmps124
 go_wp2
 have hB:Below w.heap.size w w.drew:=(Below.refl _ _).drew
 replace hS:=hS.below hB
 replace hst:=strs_below hst hB
 refine wp_region_held_drew (S:=TS w1 D b (.slice (some ⟨g,0,none⟩) L.length mc) L tv t) (by kernel_rfl) hS (fun hHeld=>?_)
 clear hHeld
 generalize hN:w.heap.size=N at *
 generalize w.drew=W at *
 refine tkS (i:=0) (v:=isLeftV b) rfl rfl (Or.inl ⟨by rfl,fun w hSw=>by obtain ⟨z0,z1,z2,z3,z4,z5⟩:=hSw.cells;go_simp⟩) hS ?_
 simp only [jA,jB,jC]
 refine tkR 1 (.int .i64 i) hS ?_
 simp only [jA,jB,jC]
 refine oneH 2 fun KK hK=>?_
 go_simp
 go_at_call 121
 refine (hct W hS).mono ?_
 rintro e w2 ⟨rfl,hw⟩
 obtain rfl:=hw.symm
 go_wp2
 refine hK.out _ _ hS (fun hHeld=>?_)
 clear hHeld hK KK
 clear hct
 cases V
 ·skip
  refine tkR 3 (.bool false) hS ?_
  simp only [jA,jB,jC]
  refine tkU 4 hS ?_
  simp only [jA,jB,jC]
  refine tkU 5 hS ?_
  simp only [jA,jB,jC]
  refine tkU 6 hS ?_
  simp only [jA,jB,jC]
  refine tkU 7 hS ?_
  simp only [jA,jB,jC]
  refine tkU 8 hS ?_
  simp only [jA,jB,jC]
  refine tkU 9 hS ?_
  simp only [jA,jB,jC]
  refine tkU 10 hS ?_
  simp only [jA,jB,jC]
  refine tkU 11 hS ?_
  simp only [jA,jB,jC]
  refine tkU 12 hS ?_
  simp only [jA,jB,jC]
  refine tkU 13 hS ?_
  simp only [jA,jB,jC]
  refine tkU 14 hS ?_
  simp only [jA,jB,jC]
  refine tkR 15 (.bool false) hS ?_
  simp only [jA,jB,jC]
  refine tkR 16 (.bool false) hS ?_
  simp only [jA,jB,jC]
  refine wpAnyH_done (by kernel_rfl) ?_ _
  go_wp2
  go_ret
  exact ⟨rfl,hN▸hB⟩
 ·skip
  refine tkR 3 (.bool true) hS ?_
  simp only [jA,jB,jC]
  refine tkS (i:=4) (v:=.pointer (some ⟨D+1,0,none⟩)) rfl rfl (Or.inl ⟨by rfl,fun w hSw=>by obtain ⟨z0,z1,z2,z3,z4,z5⟩:=hSw.cells;go_simp⟩) hS ?_
  simp only [jA,jB,jC]
  refine tkR 5 (.pointer (some ⟨D+1,0,none⟩)) hS ?_
  simp only [jA,jB,jC]
  refine tkR 6 (.pointer (some ⟨D+1,0,none⟩)) hS ?_
  simp only [jA,jB,jC]
  refine tkS (i:=7) (v:=.slice (some ⟨g,0,none⟩) L.length mc) rfl rfl (Or.inl ⟨by rfl,fun w hSw=>by obtain ⟨z0,z1,z2,z3,z4,z5⟩:=hSw.cells;go_simp⟩) hS ?_
  simp only [jA,jB,jC]
  refine tkR 8 (.int .i64 i) hS ?_
  simp only [jA,jB,jC]
  refine tkR 9 (.pointer (some ⟨g,i*5,none⟩)) hS ?_
  simp only [jA,jB,jC]
  refine tkR 10 (.pointer (some ⟨g,i*5+4,none⟩)) hS ?_
  simp only [jA,jB,jC]
  refine tkS (i:=11) (v:=.slice ia I.length ic) rfl rfl (Or.inl ⟨by rfl,fun w hSw=>by have z:=hat w hSw;go_simp⟩) hS ?_
  simp only [jA,jB,jC]
  refine tkS (i:=12) (v:=awaitedV b) rfl rfl (Or.inl ⟨by rfl,fun w hSw=>by obtain ⟨z0,z1,z2,z3,z4,z5⟩:=hSw.cells;go_simp⟩) hS ?_
  simp only [jA,jB,jC]
  refine oneH 13 fun KK hK=>?_
  go_simp
  go_at_call 125
  refine (oContainsAw h6 hS I _ hst hsm hil).mono ?_
  rintro e w2 ⟨rfl,hb2⟩
  go_wp2
  refine hK.out _ _ (hS.below hb2) (fun hHeld=>?_)
  clear hHeld hK KK
  have hB2:=hB.trans (hb2.mono (by have:=hB.size;omega))
  replace hS:=hS.below hb2
  generalize hV:awaitedB (nmOf L) t I=V
  refine tkR 14 (.bool (!V)) hS ?_
  simp only [jA,jB,jC]
  refine tkR 15 (.bool (!V)) hS ?_
  simp only [jA,jB,jC]
  refine tkR 16 (.bool (!V)) hS ?_
  simp only [jA,jB,jC]
  refine wpAnyH_done (by kernel_rfl) ?_ _
  go_wp2
  go_ret
  exact ⟨by rw [hV];rfl,hN▸hB2⟩
end
end ord
end Go.Proofs.YtfopddgjdaoidaaGreatDoor
