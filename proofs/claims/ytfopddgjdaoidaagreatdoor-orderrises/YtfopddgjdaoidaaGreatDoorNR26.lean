/- Texts that come in as a slice: how it is opened. -/
import Derived.Test.YtfopddgjdaoidaaGreatDoorNR25
set_option linter.unusedVariables false
set_option linter.unusedSimpArgs false
set_option maxRecDepth 100000
namespace Go.Proofs.YtfopddgjdaoidaaGreatDoor
namespace ord
open Go.RowKit Go.Shelf Go.Maps Go.WideMaps
open syn face chk
theorem jump_mono {l:Nat} {J J':Act→World→Prop} {Q:Exit→Act→World→Prop} (h:∀ a w,J a w→J' a w):∀ e a w,Exit.jump l J Q e a w→Exit.jump l J' Q e a w
 | .goto _,a,w,hq=>⟨hq.1,h _ _ hq.2⟩
 | .normal,_,_,hq=>hq
 | .exit _,_,_,hq=>hq
 | .ret,_,_,hq=>hq
 | .panic _,_,_,hq=>hq
 | .outgrown,_,_,hq=>hq
theorem scope_once {P:Program} {a:Act} {w:World} {Q:Exit→Act→World→Prop} {c rest:Code} (l:Nat) (J:Act→World→Prop) (μ:Act→World→Nat) (hf:findLabel c l=some (Code.skip.seq rest))
  (pass:∀ a w,J a w→rest.wp P (Exit.jump l (fun a' w'=>J a' w'∧μ a' w'<μ a w) Q) a w)
  (first:(∀ a w,J a w→rest.wp P (Exit.jump l J Q) a w)→c.wp P (Exit.jump l J Q) a w):(Code.scope c).wp P Q a w :=
 wp_scope_jumps l J μ hf (first fun a w h=>wp_mono (pass a w h) (jump_mono fun _ _ h=>h.1)) fun a w h=>wp_seq (wp_skip (pass a w h))
def NatsAt (B:Nat) (w:World) (v:Value) (t:List Nat):Prop:=∃ a c,v=.slice a t.length c∧(t≠[]→∃ g,B≤g∧a=some ⟨g,0,none⟩∧∀ i (h:i<t.length),w.cell? ⟨g,i,none⟩=some (.int .i64 (t[i]:Int)))
theorem NatsAt.nats {B:Nat} {w:World} {v:Value} {t:List Nat} (h:NatsAt B w v t):NatsIn w v t:=by
 obtain ⟨a,c,e,hk⟩:=h
 exact ⟨a,c,e,fun hne=>by obtain ⟨g,_,e2,hc⟩:=hk hne;exact ⟨g,e2,hc⟩⟩
theorem NatsAt.below {B:Nat} {w w':World} {v:Value} {t:List Nat} (h:NatsAt B w v t) (hb:Below w.heap.size w w'):NatsAt B w' v t:=by
 obtain ⟨a,c,e,hk⟩:=h
 exact ⟨a,c,e,fun hne=>by obtain ⟨g,h1,e2,hc⟩:=hk hne;exact ⟨g,h1,e2,fun i hi=>keep (hc i hi) hb⟩⟩
theorem NatsAt.other {B b o:Nat} {w:World} {v:Value} {t:List Nat} (h:NatsAt B w v t) (hb:b<B) (u:Value):NatsAt B (w.setCell ⟨b,o,none⟩ u) v t:=by
 obtain ⟨a,c,e,hk⟩:=h
 exact ⟨a,c,e,fun hne=>by obtain ⟨g,h1,e2,hc⟩:=hk hne;exact ⟨g,h1,e2,fun i hi=>far2 (by omega) (hc i hi) u⟩⟩
theorem NatsAt.mono {B B':Nat} {w:World} {v:Value} {t:List Nat} (h:NatsAt B w v t) (hb:B'≤B):NatsAt B' w v t:=by
 obtain ⟨a,c,e,hk⟩:=h
 exact ⟨a,c,e,fun hne=>by obtain ⟨g,h1,e2,hc⟩:=hk hne;exact ⟨g,by omega,e2,hc⟩⟩
theorem nats_at {w:World} {B:Nat} {v:Value} {t:List Nat} (h:w.ownsRow B 3 1 v t.length (t.map natV)):NatsAt B w v t:=by
 rcases h.2 with ⟨rfl,hn⟩|⟨g,cap,cur,rfl,hB,_,h1,h2,_⟩
 ·exact ⟨none,0,by rw [hn],fun h=>absurd (List.eq_nil_of_length_eq_zero hn) h⟩
 ·refine ⟨some ⟨g,0,none⟩,cap,rfl,fun _=>⟨g,hB,rfl,fun i hi=>?_⟩⟩
  rw [h.cellAt _ (by omega)]
  simp [natV,hi]
def TkF (L:List MD):List Nat:=takeF (nmOf L) (imOf L) L.length []
def TkE (w:World) (L:List MD) (e:Ending) (w':World):Prop :=
 Below w.heap.size w w'∧((∃ r,leftF L.length (TkF L)=some r∧e=.panicked (ThrownT r))∨(leftF L.length (TkF L)=none∧∃ tv,e=.returned tv∧NatsAt (w.heap.size+4) w' tv (TkF L)))
def lenAt (w:World) (b:Nat):Nat:=match w.cell? ⟨b,0,none⟩ with
 | some (.slice _ n _)=>n
 | _=>0
theorem lenAt_is {w:World} {b:Nat} {a:Option Addr} {n c:Nat} (h:w.cell? ⟨b,0,none⟩=some (.slice a n c)):lenAt w b=n:=by
 unfold lenAt
 rw [h]
theorem infoI:(Tryz.prog.info? 3).map (fun i=>(i.zero,i.size,i.bytes))=some (some (.int .i64 0),1,8):=by kernel_rfl
abbrev mayV (b:Nat):Value:=.func (.func 124) #[] #[.pointer (some ⟨b+2,0,none⟩),.pointer (some ⟨b,0,none⟩),.pointer (some ⟨b+3,0,none⟩)]
theorem next_hit {ns:List ByteArray} {Is:List (List ByteArray)} {t:List Nat} {j:Nat} (hj:j<Is.length) (h:mayBeB ns Is t j=true) (hn:∀ i,i<j→mayBeB ns Is t i=false):nextF ns Is t=some j:=by
 unfold nextF
 rw [List.find?_range_eq_some]
 exact ⟨h,List.mem_range.2 hj,fun i hi=>by rw [hn i hi];rfl⟩
theorem next_miss {ns:List ByteArray} {Is:List (List ByteArray)} {t:List Nat} (hn:∀ i,i<Is.length→mayBeB ns Is t i=false):nextF ns Is t=none:=by
 unfold nextF
 rw [List.find?_eq_none]
 intro i hi
 rw [hn i (List.mem_range.1 hi)]
 simp
theorem left_hit {n:Nat} {t:List Nat} {j:Nat} (hj:j<n) (h:(!t.contains j)=true) (hn:∀ i,i<j→(!t.contains i)=false):leftF n t=some ((j:Int),3,0):=by
 unfold leftF
 have:(List.range n).find? (fun i=>!t.contains i)=some j:=by
  rw [List.find?_range_eq_some]
  exact ⟨h,List.mem_range.2 hj,fun i hi=>by rw [hn i hi];rfl⟩
 rw [this]
 rfl
theorem left_miss {n:Nat} {t:List Nat} (hn:∀ i,i<n→(!t.contains i)=false):leftF n t=none:=by
 unfold leftF
 have:(List.range n).find? (fun i=>!t.contains i)=none:=by
  rw [List.find?_eq_none]
  intro i hi
  rw [hn i (List.mem_range.1 hi)]
  simp
 rw [this]
 rfl
section
variable {w1 w w':World} {D b:Nat} {mv tv:Value} {L:List MD} {t:List Nat}
theorem TS.new (w:World) (D:Nat) (mv:Value) (L:List MD) (hP:PS w D mv L L.length (numF (nmOf L))):TS w D w.heap.size mv L (.slice none 0 0) [] ((((w.alloc (.cells #[.pointer (some ⟨D+1,0,none⟩)] 169)).alloc (.cells #[.slice none 0 0] 51)).alloc (.cells #[isLeftV w.heap.size] 90)).alloc (.cells #[awaitedV w.heap.size] 35)):=by
 have s1:(w.alloc (.cells #[.pointer (some ⟨D+1,0,none⟩)] 169)).heap.size=w.heap.size+1:=by simp
 have s2:((w.alloc (.cells #[.pointer (some ⟨D+1,0,none⟩)] 169)).alloc (.cells #[.slice none 0 0] 51)).heap.size=w.heap.size+2:=by simp
 have s3:(((w.alloc (.cells #[.pointer (some ⟨D+1,0,none⟩)] 169)).alloc (.cells #[.slice none 0 0] 51)).alloc (.cells #[isLeftV w.heap.size] 90)).heap.size=w.heap.size+3:=by simp
 have x0:=BoxC.new w #[.pointer (some ⟨D+1,0,none⟩)] 169
 have x1:=BoxC.new (w.alloc (.cells #[.pointer (some ⟨D+1,0,none⟩)] 169)) #[.slice none 0 0] 51
 have x2:=BoxC.new ((w.alloc (.cells #[.pointer (some ⟨D+1,0,none⟩)] 169)).alloc (.cells #[.slice none 0 0] 51)) #[isLeftV w.heap.size] 90
 have x3:=BoxC.new (((w.alloc (.cells #[.pointer (some ⟨D+1,0,none⟩)] 169)).alloc (.cells #[.slice none 0 0] 51)).alloc (.cells #[isLeftV w.heap.size] 90)) #[awaitedV w.heap.size] 35
 rw [s1] at x1
 rw [s2] at x2
 rw [s3] at x3
 exact ⟨rfl,hP,(((bal _).alloc (by simp) _).alloc (by simp;omega) _).alloc (by simp;omega) _,((x0.alloc _).alloc _).alloc _,(x1.alloc _).alloc _,x2.alloc _,x3,World.ownsRow_nil _ _ _ _,⟨fun i hi=>(by cases hi),List.nodup_nil⟩⟩
theorem TS.push (h:TS w1 D b mv L tv t w) {j g cap:Nat} (hj:j<L.length) (hn:j∉t) (ho:w'.ownsRow (b+4) 3 1 (.slice (some ⟨g,0,none⟩) (t.length+1) cap) (t.length+1) (t.map natV++[natV j])) (hg:w.grownBy w' tv.ownBlock) :
  TS w1 D b mv L (.slice (some ⟨g,0,none⟩) (t.length+1) cap) (t++[j]) (w'.setCell ⟨b+1,0,none⟩ (.slice (some ⟨g,0,none⟩) (t.length+1) cap)):=by
 have hrow:∀ k,tv.ownBlock=some k→b+4≤k:=fun k e=>(h.row.lt k e).1
 have hne:∀ k,k<b+4→tv.ownBlock≠some k:=fun k hk e=>by have:=hrow _ e;omega
 have hgb:b+4≤g:=(ho.lt g rfl).1
 have hsz:=h.bl.size
 have hs:=h.sz
 refine ⟨h.sz,h.ps,(h.bl.grown hg (by omega) (fun k e=>by have:=hrow _ e;omega)).setCell (by show b≤b+1;omega) _,(h.b0.grown hg (hne _ (by omega))).other (by omega) _,?_,(h.b2.grown hg (hne _ (by omega))).other (by omega) _,(h.b3.grown hg (hne _ (by omega))).other (by omega) _,?_,h.tk.snoc hj hn⟩
 ·have:=(h.b1.grown hg (hne _ (by omega))).set 0 (.slice (some ⟨g,0,none⟩) (t.length+1) cap)
  simpa using this
 ·have:=ownsRow_setCell_other (a:=⟨b+1,0,none⟩) ho (fun e=>by simp [Value.ownBlock] at e;omega) (.slice (some ⟨g,0,none⟩) (t.length+1) cap)
  rw [List.length_append,List.map_append]
  exact this
end
def JT (w:World) (D b:Nat) (mv:Value) (L:List MD) (a':Act) (w':World):Prop :=
 ∃ (tv:Value) (t:List Nat) (u7 u12 u13 u14 u15 u16 u17 u18 u19 u20 u21 u22 u23 u24 u25 u26 u27:Value),a'={ tmps:=#[.pointer (some ⟨D+1,0,none⟩),.pointer (some ⟨b,0,none⟩),.slice none 0 0,.pointer (some ⟨b+1,0,none⟩),.pointer (some ⟨b+2,0,none⟩),.pointer (some ⟨b+3,0,none⟩),mayV b,u7,undef,isLeftV b,awaitedV b,mayV b,u12,u13,u14,u15,u16,u17,u18,u19,u20,u21,u22,u23,u24,u25,u26,u27,undef,undef,undef,undef,undef,undef,undef,undef,undef,undef,undef,undef,undef,undef,undef],defers:=[] }∧TS w D b mv L tv t w'∧Hid (takeF (nmOf L) (imOf L) (L.length - t.length) t=TkF L)
set_option maxHeartbeats 4000000 in
theorem oTake (D:Nat) (mv:Value) (L:List MD) (h6:L.length≤6) (h0:0<L.length) (w:World) (hP:PS w D mv L L.length (numF (nmOf L))) :
  Calls Tryz.prog 76 #[.pointer (some ⟨D+1,0,none⟩)] w (TkE w L):=by
 have hmf:∀ (fn:Fn) (first cap:Array Value) (w:World),(Instr.makeFunc fn first cap).run Tryz.prog w=.ok (.func fn first cap) w:=fun _ _ _ _=>rfl
 obtain ⟨i0,hi,hz0,hz1,hz2⟩:=info_parts infoI
 have HIL:Hid ((imOf L).length=L.length):=by show _=_;simp [imOf]
 obtain ⟨g,mc,rfl⟩:=hP.slot h0
 have hNew:=TS.new w D _ L hP
 go_enter Tryz.func76,Tryz.ntmps76
 go_wp2
 obtain ⟨b,HB⟩:∃ b,Hid (b=w.heap.size):=⟨_,rfl⟩
 refine scope_once 0 (JT w D b (.slice (some ⟨g,0,none⟩) L.length mc) L) (fun a' w'=>7 - lenAt w' (b+1)) rfl ?_ ?_
 ·clear hNew
  rintro a' w' ⟨tv,t,u7,u12,u13,u14,u15,u16,u17,u18,u19,u20,u21,u22,u23,u24,u25,u26,u27,rfl,hS,HT⟩
  obtain ⟨ta,tc,rfl⟩:∃ a c,tv=.slice a t.length c:=by obtain ⟨a,c,e,_⟩:=hS.nats;exact ⟨a,c,e⟩
  have HM:Hid (lenAt w' (b+1)=t.length):=lenAt_is hS.cells.2.1
  obtain ⟨z0,z1,z2,z3,z4,z5⟩:=hS.cells
  have htl:=hS.tk.len
  go_wp2
  go_loopw [17] (fun u wr=>∃ (j:Nat),j≤L.length∧u=.int .i64 j∧TS w D b (.slice (some ⟨g,0,none⟩) L.length mc) L (.slice ta t.length tc) t wr∧Hid (∀ i,i<j→mayBeB (nmOf L) (imOf L) t i=false)) (fun u _=>L.length - (intOf u).toNat)
  case atStart=>exact ⟨0,Nat.zero_le _,rfl,hS,fun i hi=>by omega⟩
  case round =>
   clear hS z0 z1 z2 z3 z4 z5
   obtain ⟨j,hj,rfl,hS,HN⟩:=hrel
   by_cases hlt:j<L.length
   ·have hct:=oMayBe h6 hS j hlt
    cases hm:mayBeB (nmOf L) (imOf L) t j
    ·rw [hm] at hct
     go_wp2_with (go_at_call 124;refine hct.mono ?_;rintro e w2 ⟨rfl,hb2⟩)
     go_roundw
     case rel=>exact ⟨j+1,by omega,by go_num,hS.below hb2,fun i hi=>by
      rcases Nat.lt_or_ge i j with h | h
      ·exact HN.out i h
      ·have:i=j:=by omega
       subst this
       exact hm⟩
     case measure=>simp [intOf];omega
    ·rw [hm] at hct
     have HX:Hid (nextF (nmOf L) (imOf L) t=some j):=next_hit (by rw [HIL.out];exact hlt) hm HN.out
     have hnt:j∉t:=(next_some HX.out).2.2
     have HT2:Hid (takeF (nmOf L) (imOf L) (L.length - (t++[j]).length) (t++[j])=TkF L):=by
      show _=_
      have:=takeF_some (ns:=nmOf L) (Is:=imOf L) (t:=t) (i:=j) (by rw [HIL.out];exact hS.tk) HX.out
      rw [HIL.out] at this
      rw [← this,HT.out]
     have hz:∀ W,TS w D b (.slice (some ⟨g,0,none⟩) L.length mc) L (.slice ta t.length tc) t W→W.cell? ⟨b+1,0,none⟩=some (.slice ta t.length tc)∧W.frozen? ⟨b+1,0,none⟩=false:=fun W hW=>⟨hW.cells.2.1,hW.b1.fz 0⟩
     go_wp2_with first
      | (go_at_call 124;refine hct.mono ?_;rintro e w2 ⟨rfl,hb2⟩;replace hS:=hS.below hb2;clear hct;obtain ⟨y1,y2⟩:=hz w2 hS)
      | (at_builtin;have hSa:=hS.below ((Below.refl w2.heap.size w2).alloc (jE _) (.cells #[.int .i64 j] 3));refine wpList_append_lies _ rfl (.tmp 23) (.tmp 25) 51 rfl (b+4) 3 i0 (.int .i64 0) 1 8 Tryz.underlying51 hi hz0 hz1 hz2 rfl (by decide) _ _ _ rfl hSa.row ⟨w2.heap.size,0,none⟩ 1 1 [.int .i64 j] rfl rfl (news_new _ #[.int .i64 j] _ _ rfl) (by intro u hu;simp at hu;subst hu;rfl) (by omega) (by unfold maxLen;omega) (by omega) (by have:=hSa.b3.lt;omega) _ rfl ?_;intro g5 cap5 w5 hown5 hgrow5 hat5 hlt5;have hb1:=(hSa.b1.grown hgrow5 (fun e=>by have:=(hSa.row.lt _ e).1;omega));have y3:=hb1.cell 0 rfl;have y4:=hb1.fz 0;have hfin:=hSa.push hlt hnt hown5 hgrow5)
     go_step3
     refine ⟨rfl,⟨_,t++[j],_,_,_,_,_,_,_,_,_,_,_,_,_,_,_,_,_,rfl,hfin,HT2⟩,?_⟩
     show 7 - lenAt _ (b+1)<7 - lenAt w' (b+1)
     rw [HM.out,lenAt_is hfin.cells.2.1]
     omega
   ·have HTT:Hid (TkF L=t):=by
     show _=_
     rw [← HT.out]
     exact takeF_none (next_miss (fun i hi=>HN.out i (by rw [HIL.out] at hi;omega))) _
    obtain ⟨z0,z1,z2,z3,z4,z5⟩:=hS.cells
    have HBL:Hid (Below w.heap.size w wr):=by show Below _ _ _;rw [← HB.out];exact hS.bl
    clear HN
    go_wp2
    go_loopw [33] (fun u wq=>∃ (k:Nat),k≤L.length∧u=.int .i64 k∧wq=wr∧Hid (∀ i,i<k→(!t.contains i)=false)) (fun u _=>L.length - (intOf u).toNat)
    case atStart=>exact ⟨0,Nat.zero_le _,rfl,rfl,fun i hi=>by omega⟩
    case round =>
     obtain ⟨k,hk,rfl,rfl,HN⟩:=hrel
     by_cases hkl:k<L.length
     ·have hct:=oIsLeft k t _ (b+1) wr (by omega) hS.nats z1
      generalize hV:(!t.contains k)=V at hct
      cases V
      ·have HV:=show Hid _ from hV
       clear hV
       go_wp2_with (go_at_call 121;refine hct.mono ?_;rintro e w2 ⟨rfl,hw⟩;obtain rfl:=hw.symm)
       go_roundw
       case rel=>exact ⟨k+1,by omega,by go_num,trivial,fun i hi=>by
        rcases Nat.lt_or_ge i k with h | h
        ·exact HN.out i h
        ·have:i=k:=by omega
         subst this
         exact HV.out⟩
       case measure=>simp [intOf];omega
      ·have HV:Hid (leftF L.length t=some ((k:Int),3,0)):=left_hit hkl hV HN.out
       clear hV
       go_wp2_with first
        | (go_at_call 121;refine hct.mono ?_;rintro e w2 ⟨rfl,hw⟩;obtain rfl:=hw.symm)
        | (go_at_call 120;refine (oRefuse _ _ _ _).mono ?_;rintro e w3 ⟨rfl,hw2⟩;obtain rfl:=hw2.symm)
       exact ⟨rfl,HBL.out,.inl ⟨_,by rw [HTT.out];exact HV.out,rfl⟩⟩
     ·have HV:Hid (leftF L.length t=none):=left_miss (fun i hi=>HN.out i (by omega))
      clear HN
      go_wp2
      go_ret
      exact ⟨HBL.out,.inr ⟨by rw [HTT.out];exact HV.out,_,rfl,by rw [HTT.out,← HB.out];exact nats_at hS.row⟩⟩
 ·intro hR
  go_wp2
  go_step3
  rename_i hKK
  refine hKK _ _ (hR _ _ ?_)
  obtain rfl:=HB.out
  exact ⟨_,[],_,_,_,_,_,_,_,_,_,_,_,_,_,_,_,_,_,rfl,hNew,rfl⟩
set_option maxHeartbeats 200000 in
theorem tcatch_idle (p:Addr) (w:World) :
  CallsD Tryz.prog 72 #[.pointer (some p)] .returning w fun e u' w'=>e=.returned (.tuple #[])∧u'=.returning∧w'=w:=by
 have hnn:∀ w:World,(binOp BinOp.eql 20 .nilIface .nilIface).run Tryz.prog w=.ok (.bool true) w:=fun _=>by kernel_rfl
 refine callsD_of_wpS Tryz.func72 rfl fun c₀ cs hu=>?_
 refine recover_none (by simp [recoverD,hu]) ?_
 simp only [Tryz.ntmps72,List.size_toArray,List.length_cons,List.length_nil,Nat.reduceAdd,Nat.reduceSub,Array.replicate_succ,Array.replicate_zero,List.push_toArray,List.append_toArray,List.nil_append,List.cons_append,Act.put,List.setIfInBounds_toArray,List.set_cons_succ,List.set_cons_zero]
 refine wpS_of_wp (wp_mono (Q:=fun e a w'=>e=.normal∧a.defers=[]∧w'=w) ?_ ?_)
 ·go_wp2
 ·rintro e a w' ⟨rfl,h1,rfl⟩
  exact ⟨h1,_,rfl,.tuple #[],by simp [results,Tryz.results72],rfl,hu,rfl⟩
set_option maxHeartbeats 1000000 in
theorem tcatch (fb:Nat) (i c a:Int) (w:World) (hb:BoxC w fb #[.int .i64 0,.int .i64 0,.int .i64 0] 53) :
  CallsD Tryz.prog 72 #[.pointer (some ⟨fb,0,none⟩)] (.panicking (ThrownT (i,c,a))) w fun e u' w'=>e=.returned (.tuple #[])∧u'=.panicking [{ v:=.iface 53 (.agg #[.int .i64 i,.int .i64 c,.int .i64 a]),recovered:=true }]∧w'.cell? ⟨fb,0,none⟩=some (.int .i64 i)∧w'.cell? ⟨fb,1,none⟩=some (.int .i64 c)∧w'.cell? ⟨fb,2,none⟩=some (.int .i64 a)∧Fr fb w w':=by
 have c27:=kc53
 have hfb:=hb.lt
 have h0:=hb.cell 0 rfl
 have h1:=hb.cell 1 rfl
 have h2:=hb.cell 2 rfl
 have f0:=hb.fz 0
 have f1:=hb.fz 1
 have f2:=hb.fz 2
 clear hb
 have hnn:∀ w:World,(binOp BinOp.eql 20 (.iface 53 (.agg #[.int .i64 i,.int .i64 c,.int .i64 a])) .nilIface).run Tryz.prog w=.ok (.bool false) w:=fun _=>by kernel_rfl
 have hta:∀ w:World,(Instr.typeAssert (.iface 53 (.agg #[.int .i64 i,.int .i64 c,.int .i64 a])) 20 53 true).run Tryz.prog w=.ok (.tuple #[.agg #[.int .i64 i,.int .i64 c,.int .i64 a],.bool true]) w:=fun _=>by kernel_rfl
 unfold ThrownT
 refine callsD_of_wpS Tryz.func72 rfl fun c₀ cs hu=>?_
 refine recover_some (v:=.iface 53 (.agg #[.int .i64 i,.int .i64 c,.int .i64 a])) (cs':={ c₀ with mode:=.panicking [{ v:=.iface 53 (.agg #[.int .i64 i,.int .i64 c,.int .i64 a]),recovered:=true }] } :: cs) (by simp [recoverD,hu]) ?_
 simp only [Tryz.ntmps72,List.size_toArray,List.length_cons,List.length_nil,Nat.reduceAdd,Nat.reduceSub,Array.replicate_succ,Array.replicate_zero,List.push_toArray,List.append_toArray,List.nil_append,List.cons_append,Act.put,List.setIfInBounds_toArray,List.set_cons_succ,List.set_cons_zero]
 refine wpS_of_wp (wp_mono (Q:=fun e q w'=>e=.normal∧q.defers=[]∧w'.cell? ⟨fb,0,none⟩=some (.int .i64 i)∧w'.cell? ⟨fb,1,none⟩=some (.int .i64 c)∧w'.cell? ⟨fb,2,none⟩=some (.int .i64 a)∧Fr fb w w') ?_ ?_)
 ·go_wp2
  exact ((((Fr.refl _ _).set _ _).set _ _).set _ _).alloc _
 ·rintro e q w' ⟨rfl,h1,h2,h3,h4,h5⟩
  exact ⟨h1,_,rfl,.tuple #[],by simp [results,Tryz.results72],rfl,rfl,h2,h3,h4,h5⟩
def arrF (xs:List ByteArray):Option Tr :=
 match readF xs 0 with
 | some t=>some t
 | none=>match enterF [] (xs.map nameOf) with
  | some t=>some t
  | none=>match findF (xs.map nameOf) (xs.map fun x=>(tx x).I) 0 with
   | some t=>some t
   | none=>match leftF xs.length (takenF xs) with
    | some t=>some t
    | none=>match chkF xs (takenF xs) with
     | some t=>some t
     | none=>mainF xs
theorem orderF_is (xs:List ByteArray):orderF xs=if xs.length=0∨6<xs.length then some (0,1,0) else arrF xs:=rfl
def OrE (w:World) (xs:List ByteArray) (o:Option Tr) (e:Ending) (w':World):Prop :=
 Below w.heap.size w w'∧match o with
  | some t=>e=.returned (.tuple #[.slice none 0 0,.agg #[.int .i64 t.1,.int .i64 t.2.1,.int .i64 t.2.2]])
  | none=>∃ tv,e=.returned (.tuple #[tv,.agg #[.int .i64 0,.int .i64 0,.int .i64 0]])∧NatsAt w.heap.size w' tv (takenF xs)
theorem PS.new (w:World):PS ((w.alloc (.map #[] 0)).alloc (.cells #[.slice none 0 0,.map (some w.heap.size)] 139)) w.heap.size (.slice none 0 0) [] 0 (fun _=>none):=by
 refine ⟨?_,World.ownsRow_nil _ _ _ _,?_,fun m hm=>by cases hm⟩
 ·have:=BoxC.new (w.alloc (.map #[] 0)) #[.slice none 0 0,.map (some w.heap.size)] 139
  rw [World.size_alloc] at this
  exact this
 ·exact (MapF.made w).below (bal _)
set_option maxHeartbeats 4000000 in
theorem oArrange (w:World) (hH:HasAll w) (xs:List ByteArray) (tv:Value) (hT:StrsIn w tv xs) (h6:xs.length≤6) (h0:0<xs.length) :
  Calls Tryz.prog 35 #[tv] w (OrE w xs (arrF xs)):=by
 have c53:=kc53
 have c139:=kc139
 have hmm0:=@run_makeMap Tryz.prog
 have hmf:∀ (fn:Fn) (first cap:Array Value) (w:World),(Instr.makeFunc fn first cap).run Tryz.prog w=.ok (.func fn first cap) w:=fun _ _ _ _=>rfl
 obtain ⟨ta,tc,rfl⟩:∃ a c,tv=.slice a xs.length c:=by obtain ⟨a,c,e,_⟩:=hT;exact ⟨a,c,e⟩
 obtain ⟨N,hN⟩:∃ N,N=w.heap.size:=⟨_,rfl⟩
 obtain ⟨wA,hwA⟩:∃ wA,wA=w.alloc (.cells #[.int .i64 0,.int .i64 0,.int .i64 0] 53):=⟨_,rfl⟩
 have hD:wA.heap.size=N+1:=by rw [hwA,hN];simp
 have hbA:Below N w wA:=by rw [hwA,hN];exact bal _
 have bG:BoxC wA N #[.int .i64 0,.int .i64 0,.int .i64 0] 53:=by rw [hwA,hN];exact BoxC.new _ _ _
 have hHA:=hasAll_below hH (hN▸hbA)
 have hTA:=strs_below hT (hN▸hbA)
 have hP0:=PS.new wA
 obtain ⟨wB,hwB⟩:∃ wB,wB=(wA.alloc (.map #[] 0)).alloc (.cells #[.slice none 0 0,.map (some wA.heap.size)] 139):=⟨_,rfl⟩
 have hBB:Below (N+1) wA wB:=by rw [hwB];exact ((Below.refl _ _).alloc (by omega) _).alloc (by simp;omega) _
 rw [← hwB,hD] at hP0
 have hC1:=oRead wA (N+1) hD hHA xs _ hTA h6 wB hBB hP0
 rw [hD] at hwB
 rw [hwA] at hwB
 clear hP0
 go_enter_defers Tryz.func35,Tryz.ntmps35
 go_wp2_with (fail)
 have HNe:Hid (N=w.heap.size):=hN
 rw [← hN]
 clear hN
 rw [← hwB]
 refine hC1.mono ?_
 clear hC1 hwB hwA
 rintro e w5 ⟨hb5,(⟨q,hq,rfl⟩|⟨hq,rfl,mv,L,hL,hP5⟩)⟩
 ·skip
  have bG5:BoxC w5 N #[.int .i64 0,.int .i64 0,.int .i64 0] 53:=(hb5.block N (by omega)).trans bG
  have key:=tcatch N q.1 q.2.1 q.2.2 w5 bG5
  have HK:Hid (Below N w w5):=hbA.trans (hb5.mono (by omega))
  have HQ:Hid (arrF xs=some q):=by show _=_;unfold arrF;rw [hq]
  clear hq hb5
  go_wp2
  refine leaves_cons (f:=72) (args:=#[.pointer (some ⟨N,0,none⟩)]) (by simp) (by simp [go_sem]) ?_
  refine key.mono ?_
  rintro e u' w6 ⟨rfl,rfl,c0,c1,c2,hF6⟩
  have hNe:=HNe.out
  have HK6:Below N w w6:=⟨hF6.os.trans HK.out.os,hF6.tape.trans HK.out.tape,hF6.output.trans HK.out.output,Nat.le_trans HK.out.size hF6.size,fun j hj=>(hF6.block j (by have:=HK.out.size;omega) (by simp;omega)).trans (HK.out.block j hj)⟩
  refine ⟨.tuple #[.slice none 0 0,.agg #[.int .i64 q.1,.int .i64 q.2.1,.int .i64 q.2.2]],?_,?_⟩
  ·simp [results,Tryz.results35,go_sem,c0,c1,c2]
  ·unfold OrE
   rw [HQ.out]
   exact ⟨by rw [← hNe];exact HK6,rfl⟩
 have hLl:L.length=xs.length:=by rw [← hL];simp
 have HQ1:Hid (readF xs 0=none):=hq
 have hC2:=oEnter wA (N+1) hD mv L (by omega) w5 hb5 hP5
 clear hq hb5 hP5
 go_wp2_with (fail)
 refine hC2.mono ?_
 clear hC2
 rintro e w5 ⟨hb5,(⟨q,hq,rfl⟩|⟨hq,rfl,hP5⟩)⟩
 ·skip
  have bG5:BoxC w5 N #[.int .i64 0,.int .i64 0,.int .i64 0] 53:=(hb5.block N (by omega)).trans bG
  have key:=tcatch N q.1 q.2.1 q.2.2 w5 bG5
  have HK:Hid (Below N w w5):=hbA.trans (hb5.mono (by omega))
  have HQ:Hid (arrF xs=some q):=by show _=_;unfold arrF;rw [HQ1.out,names_is hL,hq]
  clear hq hb5
  go_wp2
  refine leaves_cons (f:=72) (args:=#[.pointer (some ⟨N,0,none⟩)]) (by simp) (by simp [go_sem]) ?_
  refine key.mono ?_
  rintro e u' w6 ⟨rfl,rfl,c0,c1,c2,hF6⟩
  have hNe:=HNe.out
  have HK6:Below N w w6:=⟨hF6.os.trans HK.out.os,hF6.tape.trans HK.out.tape,hF6.output.trans HK.out.output,Nat.le_trans HK.out.size hF6.size,fun j hj=>(hF6.block j (by have:=HK.out.size;omega) (by simp;omega)).trans (HK.out.block j hj)⟩
  refine ⟨.tuple #[.slice none 0 0,.agg #[.int .i64 q.1,.int .i64 q.2.1,.int .i64 q.2.2]],?_,?_⟩
  ·simp [results,Tryz.results35,go_sem,c0,c1,c2]
  ·unfold OrE
   rw [HQ.out]
   exact ⟨by rw [← hNe];exact HK6,rfl⟩
 have HQ2:Hid (enterF [] (nmOf L)=none):=hq
 have hC3:=oFind wA (N+1) hD mv L (by omega) w5 hb5 hP5
 clear hq hb5 hP5
 go_wp2_with (fail)
 refine hC3.mono ?_
 clear hC3
 rintro e w5 ⟨hb5,(⟨q,hq,rfl⟩|⟨hq,rfl,hP5⟩)⟩
 ·skip
  have bG5:BoxC w5 N #[.int .i64 0,.int .i64 0,.int .i64 0] 53:=(hb5.block N (by omega)).trans bG
  have key:=tcatch N q.1 q.2.1 q.2.2 w5 bG5
  have HK:Hid (Below N w w5):=hbA.trans (hb5.mono (by omega))
  have HQ:Hid (arrF xs=some q):=by show _=_;unfold arrF;rw [HQ1.out,names_is hL,imps_is hL,HQ2.out,hq]
  clear hq hb5
  go_wp2
  refine leaves_cons (f:=72) (args:=#[.pointer (some ⟨N,0,none⟩)]) (by simp) (by simp [go_sem]) ?_
  refine key.mono ?_
  rintro e u' w6 ⟨rfl,rfl,c0,c1,c2,hF6⟩
  have hNe:=HNe.out
  have HK6:Below N w w6:=⟨hF6.os.trans HK.out.os,hF6.tape.trans HK.out.tape,hF6.output.trans HK.out.output,Nat.le_trans HK.out.size hF6.size,fun j hj=>(hF6.block j (by have:=HK.out.size;omega) (by simp;omega)).trans (HK.out.block j hj)⟩
  refine ⟨.tuple #[.slice none 0 0,.agg #[.int .i64 q.1,.int .i64 q.2.1,.int .i64 q.2.2]],?_,?_⟩
  ·simp [results,Tryz.results35,go_sem,c0,c1,c2]
  ·unfold OrE
   rw [HQ.out]
   exact ⟨by rw [← hNe];exact HK6,rfl⟩
 have HQ3:Hid (findF (nmOf L) (imOf L) 0=none):=hq
 have hTk:takenF xs=TkF L:=by unfold takenF TkF;rw [names_is hL,imps_is hL,hLl]
 have hC4:=oTake (N+1) mv L (by omega) (by omega) w5 hP5
 have hb4:=hb5
 clear hq hb5
 go_wp2_with (fail)
 refine hC4.mono ?_
 clear hC4
 rintro e w6 ⟨hb6,(⟨q,hq,rfl⟩|⟨hq,tv,rfl,hN6⟩)⟩
 ·have hb5:=hb4.trans (hb6.mono (by have:=hb4.size;omega))
  have bG5:BoxC w6 N #[.int .i64 0,.int .i64 0,.int .i64 0] 53:=(hb5.block N (by omega)).trans bG
  have key:=tcatch N q.1 q.2.1 q.2.2 w6 bG5
  have HK:Hid (Below N w w6):=hbA.trans (hb5.mono (by omega))
  have HQ:Hid (arrF xs=some q):=by show _=_;unfold arrF;rw [HQ1.out,names_is hL,imps_is hL,HQ2.out,HQ3.out,hTk,← hLl,hq]
  clear hq hb5
  go_wp2
  refine leaves_cons (f:=72) (args:=#[.pointer (some ⟨N,0,none⟩)]) (by simp) (by simp [go_sem]) ?_
  refine key.mono ?_
  rintro e u' w6 ⟨rfl,rfl,c0,c1,c2,hF6⟩
  have hNe:=HNe.out
  have HK6:Below N w w6:=⟨hF6.os.trans HK.out.os,hF6.tape.trans HK.out.tape,hF6.output.trans HK.out.output,Nat.le_trans HK.out.size hF6.size,fun j hj=>(hF6.block j (by have:=HK.out.size;omega) (by simp;omega)).trans (HK.out.block j hj)⟩
  refine ⟨.tuple #[.slice none 0 0,.agg #[.int .i64 q.1,.int .i64 q.2.1,.int .i64 q.2.2]],?_,?_⟩
  ·simp [results,Tryz.results35,go_sem,c0,c1,c2]
  ·unfold OrE
   rw [HQ.out]
   exact ⟨by rw [← hNe];exact HK6,rfl⟩
 have HQ4:Hid (leftF L.length (TkF L)=none):=hq
 have hb5:=hb4.trans (hb6.mono (by have:=hb4.size;omega))
 have hP6:=hP5.below hb6
 have hH6:=hasAll_below hHA (hD▸hb5)
 have hTT:Tk L.length (TkF L):=by
  have:=takeF_tk (ns:=nmOf L) (Is:=imOf L) L.length [] ⟨fun i hi=>(by cases hi),List.nodup_nil⟩
  have e:(imOf L).length=L.length:=by simp [imOf]
  rw [e] at this
  exact this
 obtain ⟨oa,oc,rfl⟩:∃ a c,tv=.slice a (TkF L).length c:=by obtain ⟨a,c,e,_⟩:=hN6;exact ⟨a,c,e⟩
 have hN1:N<w5.heap.size+4:=by have:=hb4.size;omega
 have hC5:=oChk (N+1) mv L xs hL (by omega) (by omega) w6 hH6 hP6 (fun m hm y hy=>findF_none _ _ _ HQ3.out _ (List.mem_map.2 ⟨m,hm,rfl⟩) y hy) (TkF L) hTT _ hN6.nats
 clear hq hb6 hb4 hP5
 go_wp2_with (fail)
 refine hC5.mono ?_
 clear hC5
 rintro e w7 ⟨hb7,(⟨q,hq,rfl⟩|⟨hq,rfl⟩)⟩
 ·replace hb5:=hb5.trans (hb7.mono (by have:=hb5.size;omega))
  have bG5:BoxC w7 N #[.int .i64 0,.int .i64 0,.int .i64 0] 53:=(hb5.block N (by omega)).trans bG
  have key:=tcatch N q.1 q.2.1 q.2.2 w7 bG5
  have HK:Hid (Below N w w7):=hbA.trans (hb5.mono (by omega))
  have HQ:Hid (arrF xs=some q):=by show _=_;unfold arrF;rw [HQ1.out,names_is hL,imps_is hL,HQ2.out,HQ3.out,hTk,← hLl,HQ4.out,hq]
  clear hq hb5
  go_wp2
  refine leaves_cons (f:=72) (args:=#[.pointer (some ⟨N,0,none⟩)]) (by simp) (by simp [go_sem]) ?_
  refine key.mono ?_
  rintro e u' w6 ⟨rfl,rfl,c0,c1,c2,hF6⟩
  have hNe:=HNe.out
  have HK6:Below N w w6:=⟨hF6.os.trans HK.out.os,hF6.tape.trans HK.out.tape,hF6.output.trans HK.out.output,Nat.le_trans HK.out.size hF6.size,fun j hj=>(hF6.block j (by have:=HK.out.size;omega) (by simp;omega)).trans (HK.out.block j hj)⟩
  refine ⟨.tuple #[.slice none 0 0,.agg #[.int .i64 q.1,.int .i64 q.2.1,.int .i64 q.2.2]],?_,?_⟩
  ·simp [results,Tryz.results35,go_sem,c0,c1,c2]
  ·unfold OrE
   rw [HQ.out]
   exact ⟨by rw [← hNe];exact HK6,rfl⟩
 have HQ5:Hid (chkF xs (TkF L)=none):=hq
 have hP7:=hP6.below hb7
 have hN7:=hN6.below hb7
 have hb8:=hb5.trans (hb7.mono (by have:=hb5.size;omega))
 have hC6:=oFindMain (N+1) mv L xs hL (by omega) w7 hP7
 clear hq hb5 hP6 hP7
 go_wp2_with (fail)
 refine hC6.mono ?_
 clear hC6
 rintro e w8 ⟨hb9,(⟨q,hq,rfl⟩|⟨hq,rfl⟩)⟩
 ·have hb5:=hb8.trans (hb9.mono (by have:=hb8.size;omega))
  have bG5:BoxC w8 N #[.int .i64 0,.int .i64 0,.int .i64 0] 53:=(hb5.block N (by omega)).trans bG
  have key:=tcatch N q.1 q.2.1 q.2.2 w8 bG5
  have HK:Hid (Below N w w8):=hbA.trans (hb5.mono (by omega))
  have HQ:Hid (arrF xs=some q):=by show _=_;unfold arrF;rw [HQ1.out,names_is hL,imps_is hL,HQ2.out,HQ3.out,hTk,← hLl,HQ4.out,HQ5.out,hq]
  clear hq hb5
  go_wp2
  refine leaves_cons (f:=72) (args:=#[.pointer (some ⟨N,0,none⟩)]) (by simp) (by simp [go_sem]) ?_
  refine key.mono ?_
  rintro e u' w6 ⟨rfl,rfl,c0,c1,c2,hF6⟩
  have hNe:=HNe.out
  have HK6:Below N w w6:=⟨hF6.os.trans HK.out.os,hF6.tape.trans HK.out.tape,hF6.output.trans HK.out.output,Nat.le_trans HK.out.size hF6.size,fun j hj=>(hF6.block j (by have:=HK.out.size;omega) (by simp;omega)).trans (HK.out.block j hj)⟩
  refine ⟨.tuple #[.slice none 0 0,.agg #[.int .i64 q.1,.int .i64 q.2.1,.int .i64 q.2.2]],?_,?_⟩
  ·simp [results,Tryz.results35,go_sem,c0,c1,c2]
  ·unfold OrE
   rw [HQ.out]
   exact ⟨by rw [← hNe];exact HK6,rfl⟩
 have HQ6:Hid (arrF xs=none):=by show _=_;unfold arrF;rw [HQ1.out,names_is hL,imps_is hL,HQ2.out,HQ3.out,hTk,← hLl,HQ4.out,HQ5.out,hq]
 have hb5:=hb8.trans (hb9.mono (by have:=hb8.size;omega))
 have bG8:BoxC w8 N #[.int .i64 0,.int .i64 0,.int .i64 0] 53:=(hb5.block N (by omega)).trans bG
 have hN8:=((((hN7.below hb9).other (b:=N) (o:=0) hN1 (.int .i64 0)).other (b:=N) (o:=1) hN1 (.int .i64 0)).other (b:=N) (o:=2) hN1 (.int .i64 0)).mono (B':=N) (by omega)
 have HK:Hid (Below N w (((w8.setCell ⟨N,0,none⟩ (.int .i64 0)).setCell ⟨N,1,none⟩ (.int .i64 0)).setCell ⟨N,2,none⟩ (.int .i64 0))):=(((hbA.trans (hb5.mono (by omega))).setCell (Nat.le_refl N) _).setCell (Nat.le_refl N) _).setCell (Nat.le_refl N) _
 have y0:=bG8.cell 0 rfl
 have y1:=bG8.cell 1 rfl
 have y2:=bG8.cell 2 rfl
 have f0:=bG8.fz 0
 have f1:=bG8.fz 1
 have f2:=bG8.fz 2
 clear hq hb5 hb8 hb9 hN7 hN6 bG bG8 hbA hN1
 have HT8:=show Hid _ from hTk
 clear hTk
 go_wp2
 refine leaves_cons (f:=72) (args:=#[.pointer (some ⟨N,0,none⟩)]) (by simp) (by simp [go_sem]) ?_
 refine (tcatch_idle _ _).mono ?_
 rintro e u' w9 ⟨rfl,rfl,hw9⟩
 subst hw9
 refine ⟨.tuple #[.slice oa (TkF L).length oc,.agg #[.int .i64 0,.int .i64 0,.int .i64 0]],?_,?_⟩
 ·simp [results,Tryz.results35,go_sem,y0,y1,y2]
 ·unfold OrE
  rw [HQ6.out]
  exact ⟨by rw [← HNe.out];exact HK.out,_,rfl,by rw [HT8.out,← HNe.out];exact hN8⟩
theorem orderRes {W:World} {t0 t1 t2 a0 a1 v:Value} (tl:List Value) (B:Nat) (h:BoxC W B #[t0,t1,t2] 53):(results Tryz.f19 (List.toArray (a0 :: a1 :: v :: .pointer (some ⟨B,0,none⟩) :: tl))).run Tryz.prog W=.ok (.tuple #[v,.agg #[t0,t1,t2]]) W:=by
 have c53:=kc53
 have z0:=h.cell 0 rfl
 have z1:=h.cell 1 rfl
 have z2:=h.cell 2 rfl
 simp [results,Tryz.results19,go_sem,z0,z1,z2,c53]
set_option maxHeartbeats 1000000 in
theorem oOrder (w:World) (hH:HasAll w) (xs:List ByteArray) (tv:Value) (hT:StrsIn w tv xs) :
  Calls Tryz.prog 19 #[tv] w (OrE w xs (orderF xs)):=by
 have c53:=kc53
 obtain ⟨ta,tc,rfl⟩:∃ a c,tv=.slice a xs.length c:=by obtain ⟨a,c,e,_⟩:=hT;exact ⟨a,c,e⟩
 have hxl:xs.length≤9223372036854775807:=by obtain ⟨_,_,_,h,_⟩:=hT;exact h
 have hA:=(Below.refl w.heap.size w).alloc (jE _) (.cells #[.int .i64 0,.int .i64 0,.int .i64 0] 53)
 have hA1:=(Below.refl w.heap.size w).alloc (jE _) (.cells #[.int .i64 0,.int .i64 1,.int .i64 0] 53)
 have hAr:=fun h6 h0=>oArrange _ (hasAll_below hH hA) xs _ (strs_below hT hA) h6 h0
 have HO:=show Hid _ from orderF_is xs
 by_cases hz:xs.length=0
 ·have HO2:Hid (orderF xs=some (0,1,0)):=by show _=_;rw [HO.out,if_pos (.inl hz)]
  clear hAr
  rw [hz]
  go_enter Tryz.func19,Tryz.ntmps19
  go_wp2
  refine bodyPost_ret (v:=.tuple #[.slice none 0 0,.agg #[.int .i64 0,.int .i64 1,.int .i64 0]]) (orderRes _ _ (BoxC.new _ _ _)) rfl ?_
  unfold OrE
  rw [HO2.out]
  exact ⟨hA1,rfl⟩
 ·have hz':((xs.length:Int)==0)=false:=beq_eq_false_iff_ne.2 (by omega)
  by_cases h6:6<xs.length
  ·have HO2:Hid (orderF xs=some (0,1,0)):=by show _=_;rw [HO.out,if_pos (.inr h6)]
   have h6':decide (6<(xs.length:Int))=true:=decide_eq_true (by omega)
   clear hAr hz h6
   go_enter Tryz.func19,Tryz.ntmps19
   go_wp2
   refine bodyPost_ret (v:=.tuple #[.slice none 0 0,.agg #[.int .i64 0,.int .i64 1,.int .i64 0]]) (orderRes _ _ (BoxC.new _ _ _)) rfl ?_
   unfold OrE
   rw [HO2.out]
   exact ⟨hA1,rfl⟩
  ·have HO2:Hid (orderF xs=arrF xs):=by show _=_;rw [HO.out,if_neg (by omega)]
   have h6':decide (6<(xs.length:Int))=false:=decide_eq_false (by omega)
   have hC:=hAr (by omega) (by omega)
   have bN:=BoxC.new w #[.int .i64 0,.int .i64 0,.int .i64 0] 53
   have hsz:(w.alloc (.cells #[.int .i64 0,.int .i64 0,.int .i64 0] 53)).heap.size=w.heap.size+1:=by simp
   clear hAr hz h6
   unfold OrE at hC
   rw [hsz] at hC
   go_enter Tryz.func19,Tryz.ntmps19
   go_wp2_with (fail)
   refine hC.mono ?_
   clear hC
   rintro e w2 ⟨hb2,he⟩
   replace bN:=bN.below (by rw [hsz];exact hb2)
   have hB:Below w.heap.size w w2:=hA.trans (hb2.mono (by omega))
   have y0:=bN.cell 0 rfl
   have y1:=bN.cell 1 rfl
   have y2:=bN.cell 2 rfl
   have f0:=bN.fz 0
   have f1:=bN.fz 1
   have f2:=bN.fz 2
   clear hA hA1 hb2 hsz
   cases ho:arrF xs with
   | some q =>
    rw [ho] at he
    subst he
    have HO3:Hid (orderF xs=some q):=by show _=_;rw [HO2.out,ho]
    clear ho
    go_wp2
    refine bodyPost_ret (v:=.tuple #[.slice none 0 0,.agg #[.int .i64 q.1,.int .i64 q.2.1,.int .i64 q.2.2]]) (orderRes _ _ (by have:=((bN.set 0 (.int .i64 q.1)).set 1 (.int .i64 q.2.1)).set 2 (.int .i64 q.2.2);simpa using this)) rfl ?_
    unfold OrE
    rw [HO3.out]
    exact ⟨((hB.setCell (Nat.le_refl w.heap.size) _).setCell (Nat.le_refl w.heap.size) _).setCell (Nat.le_refl w.heap.size) _,rfl⟩
   | none =>
    rw [ho] at he
    obtain ⟨ov,rfl,hN⟩:=he
    have HO3:Hid (orderF xs=none):=by show _=_;rw [HO2.out,ho]
    obtain ⟨oa,on,oc,rfl⟩:∃ a n c,ov=.slice a n c:=by obtain ⟨a,c,e,_⟩:=hN;exact ⟨a,_,c,e⟩
    have HN:=show Hid _ from ((((hN.other (b:=w.heap.size) (o:=0) (by omega) (.int .i64 0)).other (b:=w.heap.size) (o:=1) (by omega) (.int .i64 0)).other (b:=w.heap.size) (o:=2) (by omega) (.int .i64 0)).mono (B':=w.heap.size) (by omega))
    clear ho hN
    go_wp2
    refine bodyPost_ret (v:=.tuple #[.slice oa on oc,.agg #[.int .i64 0,.int .i64 0,.int .i64 0]]) (orderRes _ _ (by have:=((bN.set 0 (.int .i64 0)).set 1 (.int .i64 0)).set 2 (.int .i64 0);simpa using this)) rfl ?_
    unfold OrE
    rw [HO3.out]
    exact ⟨((hB.setCell (Nat.le_refl w.heap.size) _).setCell (Nat.le_refl w.heap.size) _).setCell (Nat.le_refl w.heap.size) _,_,rfl,HN.out⟩
end ord
namespace ord
open Go.RowKit Go.Shelf
open syn face chk
def Good (ns:List ByteArray) (Is:List (List ByteArray)) (t:List Nat):Prop:=∀ p (h:p<t.length),awaitedB ns (t.take p) (Is.getD t[p] [])=false
theorem Good.snoc {ns:List ByteArray} {Is:List (List ByteArray)} {t:List Nat} (h:Good ns Is t) {i:Nat} (hm:mayBeB ns Is t i=true):Good ns Is (t++[i]):=by
 intro p hp
 rcases Nat.lt_or_ge p t.length with hl | hl
 ·rw [List.getElem_append_left hl,List.take_append_of_le_length (Nat.le_of_lt hl)]
  exact h p hl
 ·have:p=t.length:=by simp at hp;omega
  subst this
  rw [List.getElem_append_right (jE _)]
  simp only [Nat.sub_self,List.getElem_cons_zero,List.take_left']
  unfold mayBeB at hm
  simp only [Bool.and_eq_true,Bool.not_eq_true'] at hm
  exact hm.2
theorem takeF_good {ns:List ByteArray} {Is:List (List ByteArray)}:∀ (k:Nat) (t:List Nat),Good ns Is t→Good ns Is (takeF ns Is k t)
 | 0,t,h=>h
 | k+1,t,h=>by
  unfold takeF
  split
  ·rename_i i hi
   exact takeF_good k _ (h.snoc (next_some hi).2.1)
  ·exact h
theorem enterF_none:∀ (r seen:List ByteArray),enterF seen r=none→∀ i (hi:i<r.length),among (seen++r.take i) r[i]=false
 | [],_,_,i,hi=>by simp at hi
 | n :: r,seen,h,i,hi=>by
  unfold enterF at h
  split at h
  ·cases h
  ·rename_i hn
   cases i with
   | zero=>simpa using hn
   | succ i =>
    have:=enterF_none r (seen++[n]) h i (by simpa using hi)
    simpa [List.append_assoc] using this
theorem eqS_comm (x y:ByteArray):eqS x y=eqS y x:=by
 cases h:eqS x y with
 | true=>rw [eqS_symm h]
 | false =>
  cases h2:eqS y x with
  | false=>rfl
  | true=>rw [eqS_symm h2] at h;cases h
theorem names_apart {ns:List ByteArray} (h:enterF [] ns=none) {i j:Nat} (hi:i<ns.length) (hj:j<ns.length) (hne:i≠j):eqS ns[i] ns[j]=false:=by
 have key:∀ a b (ha:a<ns.length) (hb:b<ns.length),a<b→eqS ns[a] ns[b]=false:=fun a b ha hb hab=>by
  have:=enterF_none ns [] h b hb
  rw [List.nil_append] at this
  unfold among at this
  rw [List.any_eq_false] at this
  have hm:ns[a]∈ns.take b:=by
   rw [List.mem_take_iff_getElem]
   exact ⟨a,by omega,rfl⟩
  simpa using this _ hm
 rcases Nat.lt_or_gt_of_ne hne with h1 | h1
 ·exact key i j hi hj h1
 ·rw [eqS_comm]
  exact key j i hj hi h1
structure Rises (xs:List ByteArray) (t:List Nat):Prop where
 top:xs.length≤6
 ec:∀ x∈xs,(tx x).ec=0
 apart:enterF [] (xs.map nameOf)=none
 all:∀ x∈xs,∀ y∈(tx x).I,among (xs.map nameOf) y=true
 tk:Tk xs.length t
 len:t.length=xs.length
 good:Good (xs.map nameOf) (xs.map fun x=>(tx x).I) t
theorem rises_of {xs:List ByteArray} (h:orderF xs=none):Rises xs (takenF xs):=by
 unfold orderF at h
 split at h
 ·cases h
 rename_i h0
 split at h
 ·cases h
 rename_i h1
 split at h
 ·cases h
 rename_i h2
 split at h
 ·cases h
 rename_i h3
 split at h
 ·cases h
 rename_i h4
 have hT:Tk xs.length (takenF xs):=by
  have:=takeF_tk (ns:=xs.map nameOf) (Is:=xs.map fun x=>(tx x).I) xs.length [] ⟨fun i hi=>(by cases hi),List.nodup_nil⟩
  rw [List.length_map] at this
  exact this
 refine ⟨by omega,readF_none _ _ h1,h2,fun x hx y hy=>?_,hT,?_,?_⟩
 ·exact findF_none _ _ _ h3 _ (List.mem_map.2 ⟨x,hx,rfl⟩) y hy
 ·have h5:=List.nodup_range (n:=xs.length) |>.length_le_of_subset (l₂:=takenF xs) (fun i hi=>leftF_none h4 i (List.mem_range.1 hi))
  rw [List.length_range] at h5
  have:=hT.len
  omega
 ·exact takeF_good _ _ (fun p hp=>by simp at hp)
def ahead (xs:List ByteArray) (t:List Nat) (p:Nat):List ByteArray:=(t.take p).map fun i=>nameOf (xs.getD i ⟨#[]⟩)
section
variable {xs:List ByteArray} {t:List Nat}
theorem Rises.lt (h:Rises xs t) {p:Nat} (hp:p<t.length):t[p]<xs.length:=h.tk.lt _ (List.getElem_mem hp)
theorem getD_at {i:Nat} (hi:i<xs.length) (d:ByteArray):xs.getD i d=xs[i]:=by simp [hi]
theorem Rises.imports (h:Rises xs t) {p:Nat} (hp:p<t.length) (y:ByteArray) (hy:y∈(tx (xs[t[p]]'(h.lt hp))).I):among (ahead xs t p) y=true:=by
 have hlt:=h.lt hp
 have hg:=h.good p hp
 have e:(xs.map fun x=>(tx x).I).getD t[p] []=(tx xs[t[p]]).I:=by simp [hlt]
 rw [e] at hg
 unfold awaitedB at hg
 rw [List.any_eq_false] at hg
 have h1:=hg y hy
 simp only [Bool.not_eq_true,Bool.not_eq_false'] at h1
 have hmem:numD (xs.map nameOf) y∈t.take p:=by simpa using h1
 obtain ⟨i,hn,hi,hd⟩:=numF_some (h.all _ (List.getElem_mem hlt) y hy)
 rw [hd] at hmem
 obtain ⟨hi',he⟩:=numF_at hn
 have hix:i<xs.length:=by simpa using hi
 unfold among
 rw [List.any_eq_true]
 refine ⟨nameOf xs[i],?_,?_⟩
 ·unfold ahead
  rw [List.mem_map]
  exact ⟨i,hmem,by rw [getD_at hix]⟩
 ·have:=eqS_symm he
  simpa using this
theorem Rises.once (h:Rises xs t) {p:Nat} (hp:p<t.length):among (ahead xs t p) (nameOf (xs[t[p]]'(h.lt hp)))=false:=by
 have hlt:=h.lt hp
 unfold among
 rw [List.any_eq_false]
 intro z hz
 unfold ahead at hz
 rw [List.mem_map] at hz
 obtain ⟨i,hi,rfl⟩:=hz
 have hix:i<xs.length:=h.tk.lt _ (List.mem_of_mem_take hi)
 rw [getD_at hix]
 have hne:i≠t[p]:=by
  intro e
  rw [List.mem_take_iff_getElem] at hi
  obtain ⟨q,hq,hqe⟩:=hi
  exact (List.pairwise_iff_getElem.1 h.tk.nd) q p (by omega) hp (by omega) (hqe.trans e)
 have:=names_apart h.apart (i:=i) (j:=t[p]) (by simpa using hix) (by simpa using hlt) hne
 simpa using this
theorem ahead_next {p:Nat} (hp:p<t.length):ahead xs t (p+1)=ahead xs t p++[nameOf (xs.getD t[p] ⟨#[]⟩)]:=by
 unfold ahead
 rw [List.take_succ_eq_append_getElem hp,List.map_append]
 rfl
end
abbrev mainX:ByteArray:=⟨#[109,111,100,117,108,101,32,109,97,105,110,59,112,117,98,32,112,114,111,99,32,109,97,105,110,40,41,108,111,119,123,125]⟩
abbrev mainK:List Kid:=[.proc ⟨#[109,97,105,110]⟩ true false none [] (.node 6 empty 0 [])]
theorem main_code:(parse mainX).code=0:=by kernel_rfl
theorem main_tree:(parse mainX).tree=.node 1 ⟨#[109,97,105,110]⟩ 0 [.node 4 ⟨#[109,97,105,110]⟩ 2 [.node 6 empty 0 []]]:=by kernel_rfl
theorem main_ck:ckF mainX [] ⟨#[109,97,105,110]⟩ mainK=(0,0):=by
 unfold ckF
 rw [if_neg (by decide),if_neg (by rw [main_code];decide)]
 rfl
theorem kid_is {k:Kid} {x:ByteArray} {b:Tree} (h:k.tree=.node 4 x 2 [b]):k=.proc x true false none [] b:=by
 cases k with
 | imp y=>unfold Kid.tree at h;injection h with h1;exact absurd h1 (by decide)
 | var y p l n=>cases n<;>(unfold Kid.tree at h;injection h with h1;exact absurd h1 (by decide))
 | proc y p l g ps c =>
  unfold Kid.tree at h
  injection h with h1 h2 h3 h4
  subst h2
  have hps:ps=[]:=by
   cases ps with
   | nil=>rfl
   | cons q r =>
    have:=congrArg List.length h4
    simp at this
  subst hps
  simp at h4
  subst h4
  cases p<;>cases l<;>(cases g with | none=>(first | rfl | (exact absurd h3 (by decide))) | some e=>cases e<;>exact absurd h3 (by decide))
theorem main_tx:(tx mainX).m=⟨#[109,97,105,110]⟩∧(tx mainX).K=mainK:=by
 have h:=((txo mainX).shp main_code).1
 rw [main_tree] at h
 injection h with h1 h2 h3 h4
 refine ⟨h2.symm,?_⟩
 cases hK:(tx mainX).K with
 | nil=>rw [hK] at h4;simp at h4
 | cons k r =>
  rw [hK] at h4
  cases r with
  | nil =>
   simp only [List.map_cons,List.map_nil,List.cons.injEq,and_true] at h4
   rw [kid_is h4.symm]
  | cons k2 r2=>simp at h4
theorem main_ec:(tx mainX).ec=0:=by
 by_cases h:(tx mainX).ec=0
 ·exact h
 ·have:=(txo mainX).bad h []
  rw [main_tx.1,main_tx.2,main_ck] at this
  exact absurd rfl this
theorem main_name:nameOf mainX=⟨#[109,97,105,110]⟩:=by
 unfold nameOf
 rw [((txo mainX).good main_ec).1,main_tx.1]
 rfl
theorem main_I:(tx mainX).I=[]:=by
 rw [((txo mainX).good main_ec).2.1,main_tx.2]
 rfl
theorem main_taken:takenF [mainX]=[0]:=by
 unfold takenF
 simp only [List.map_cons,List.map_nil,main_I]
 rfl
theorem main_order:orderF [mainX]=none:=by
 have h1:readF [mainX] 0=none:=by
  unfold readF
  rw [main_ec]
  rfl
 have h2:enterF [] ([mainX].map nameOf)=none:=rfl
 have h3:findF ([mainX].map nameOf) ([mainX].map fun x=>(tx x).I) 0=none:=by
  simp only [List.map_cons,List.map_nil,main_I]
  rfl
 have h4:leftF [mainX].length (takenF [mainX])=none:=by
  rw [main_taken]
  rfl
 have h5:chkF [mainX] (takenF [mainX])=none:=by
  rw [main_taken]
  show (if (ckF mainX (impsF [mainX] mainX) (tx mainX).m (tx mainX).K).1≠0 then _ else _)=none
  have e:impsF [mainX] mainX=[]:=by unfold impsF;rw [main_I];rfl
  rw [e,main_tx.1,main_tx.2,main_ck]
  rfl
 have h6:mainF [mainX]=none:=by
  unfold mainF
  have e:numF ([mainX].map nameOf) ⟨#[109,97,105,110]⟩=some 0:=by
   simp only [List.map_cons,List.map_nil,main_name]
   kernel_rfl
  rw [e]
  show (if (tx mainX).F.procs.any isMainB then none else some (0,4,0))=none
  have e2:(faceK false ⟨#[109,97,105,110]⟩ mainK).procs.any isMainB=true:=by kernel_rfl
  rw [((txo mainX).good main_ec).1,main_tx.1,main_tx.2,e2]
  rfl
 unfold orderF
 rw [if_neg (by simp),h1,h2,h3,h4,h5,h6]
theorem order_code {xs:List ByteArray} {q:Tr} (h:orderF xs=some q):q.2.1≠0:=by
 have hr:∀ (l:List ByteArray) i,readF l i=some q→q.2.1≠0:=by
  intro l
  induction l with
  | nil=>intro i h;cases h
  | cons x r ih =>
   intro i h
   unfold readF at h
   split at h
   ·rename_i hz
    injection h with h
    subst h
    exact hz
   ·exact ih _ h
 have he:∀ (l s:List ByteArray),enterF s l=some q→q.2.1≠0:=by
  intro l
  induction l with
  | nil=>intro s h;cases h
  | cons x r ih =>
   intro s h
   unfold enterF at h
   split at h
   ·injection h with h
    subst h
    show (5:Int)≠0
    decide
   ·exact ih _ h
 have hi:∀ (ns l:List ByteArray) i k,impF ns i l k=some q→q.2.1≠0:=by
  intro ns l
  induction l with
  | nil=>intro i k h;cases h
  | cons x r ih =>
   intro i k h
   unfold impF at h
   split at h
   ·exact ih _ _ h
   ·injection h with h
    subst h
    show (4:Int)≠0
    decide
 have hf:∀ (ns:List ByteArray) (l:List (List ByteArray)) i,findF ns l i=some q→q.2.1≠0:=by
  intro ns l
  induction l with
  | nil=>intro i h;cases h
  | cons x r ih =>
   intro i h
   unfold findF at h
   split at h
   ·rename_i t ht
    injection h with h
    subst h
    exact hi _ _ _ _ ht
   ·exact ih _ h
 have hc:∀ (l:List Nat),chkF xs l=some q→q.2.1≠0:=by
  intro l
  induction l with
  | nil=>intro h;cases h
  | cons x r ih =>
   intro h
   unfold chkF at h
   simp only at h
   split at h
   ·rename_i hz
    injection h with h
    subst h
    exact hz
   ·exact ih h
 unfold orderF at h
 split at h
 ·injection h with h
  subst h
  decide
 split at h
 ·rename_i t ht
  injection h with h
  subst h
  exact hr _ _ ht
 split at h
 ·rename_i t ht
  injection h with h
  subst h
  exact he _ _ ht
 split at h
 ·rename_i t ht
  injection h with h
  subst h
  exact hf _ _ _ ht
 split at h
 ·rename_i t ht
  injection h with h
  subst h
  unfold leftF at ht
  rw [Option.map_eq_some_iff] at ht
  obtain ⟨i,_,rfl⟩:=ht
  show (3:Int)≠0
  decide
 split at h
 ·rename_i t ht
  injection h with h
  subst h
  exact hc _ ht
 unfold mainF at h
 split at h
 ·injection h with h
  subst h
  decide
 ·split at h
  ·cases h
  ·injection h with h
   subst h
   decide
end ord
namespace ord
open Go.RowKit Go.Shelf Go.Maps Go.WideMaps
open syn face chk
theorem strs_one (w:World) (x:ByteArray):StrsIn (w.alloc (.cells #[.string x] 9)) (.slice (some ⟨w.heap.size,0,none⟩) 1 1) [x]:=by
 refine ⟨_,_,rfl,by simp,fun _=>⟨w.heap.size,0,rfl,fun i hi=>?_⟩⟩
 have:i=0:=by simp at hi;omega
 subst this
 simp
set_option maxHeartbeats 4000000 in
theorem rise_walk (w:World) (hH:HasAll w) (xs:List ByteArray) (tv:Value) (hT:StrsIn w tv xs) :
  Calls Tryz.prog 8 #[tv] w fun e w'=>e=.returned (.bool true)∧Below w.heap.size w w':=by
 have c53:=kc53
 have c28:=kc28
 have c3:Tryz.prog.cellsOf 44=3:=cell3
 obtain ⟨i0,hi,hz0,hz1,hz2⟩:=info_parts infoS
 obtain ⟨ta,tc,rfl⟩:∃ a c,tv=.slice a xs.length c:=by obtain ⟨a,c,e,_⟩:=hT;exact ⟨a,c,e⟩
 have hxl:xs.length≤9223372036854775807:=by obtain ⟨_,_,_,h,_⟩:=hT;exact h
 have hA:=(Below.refl w.heap.size w).alloc (jE _) (.cells #[.string mainX] 9)
 have hC1:=oOrder _ (hasAll_below hH hA) [mainX] _ (strs_one w mainX)
 unfold OrE at hC1
 rw [main_order,main_taken] at hC1
 go_enter Tryz.func8,Tryz.ntmps8
 go_wp2_with (fail)
 refine hC1.mono ?_
 clear hC1
 rintro e w2 ⟨hb2,ov1,rfl,hN1⟩
 obtain ⟨oa1,oc1,rfl⟩:∃ a c,ov1=.slice a 1 c:=by obtain ⟨a,c,e,_⟩:=hN1;exact ⟨a,c,e⟩
 have hB2:Below w.heap.size w w2:=hA.trans (hb2.mono hA.size)
 have hB3:=hB2.alloc hB2.size (.cells #[.int .i64 0,.int .i64 0,.int .i64 0] 53)
 have hC2:=oOrder _ (hasAll_below hH hB3) xs _ (strs_below hT hB3)
 unfold OrE at hC2
 clear hN1 hb2 hA hB2
 go_wp2_with (fail)
 refine hC2.mono ?_
 clear hC2
 rintro e w4 ⟨hb4,he⟩
 have hB4:=hB3.trans (hb4.mono hB3.size)
 clear hb4 hB3
 cases ho:orderF xs with
 | some q =>
  rw [ho] at he
  subst he
  have hq:(q.2.1 != 0)=true:=by simp [order_code ho]
  clear ho
  go_wp2
  go_ret
  exact ⟨rfl,hB4.alloc hB4.size _⟩
 | none =>
  rw [ho] at he
  obtain ⟨ov,rfl,hN⟩:=he
  have hR:=rises_of ho
  replace hN:=hN.nats
  generalize takenF xs=t at *
  obtain ⟨oa,oc,rfl⟩:∃ a c,ov=.slice a t.length c:=by obtain ⟨a,c,e,_⟩:=hN;exact ⟨a,c,e⟩
  have htl:t.length≤6:=by have:=hR.len;have:=hR.top;omega
  have hB5:=hB4.alloc hB4.size (.cells #[.int .i64 0,.int .i64 0,.int .i64 0] 53)
  have hN5:=hN.below ((Below.refl w4.heap.size w4).alloc (jE _) (.cells #[.int .i64 0,.int .i64 0,.int .i64 0] 53))
  have HLE:Hid (((t.length:Int)==(xs.length:Int))=true):=by show _=_;rw [hR.len];simp
  clear ho hN hB4
  go_wp2
  generalize w4.alloc (.cells #[.int .i64 0,.int .i64 0,.int .i64 0] 53)=W5 at *
  obtain ⟨b,HB⟩:∃ b,Hid (b=W5.heap.size):=⟨_,rfl⟩
  go_loopw [7,8] (fun nv u wr=>∃ (p:Nat) (na:Option Addr) (nc:Nat),p≤t.length∧u=.int .i64 p∧nv=.slice na p nc∧wr.ownsRow b 9 1 (.slice na p nc) p (strV (ahead xs t p))∧Below b W5 wr) (fun _ u _=>t.length - (intOf u).toNat)
  case atStart=>exact ⟨0,none,0,Nat.zero_le _,rfl,rfl,World.ownsRow_nil _ _ _ _,Below.refl _ _⟩
  case round =>
   obtain ⟨p,na,nc,hp,rfl,rfl,hrow,hBr⟩:=hrel
   have hBr':Below W5.heap.size W5 wr:=HB.out▸hBr
   by_cases hlt:p<t.length
   ·have hiL:=hR.lt hlt
    have hImp:=hR.imports hlt
    have hOnce:=hR.once hlt
    have hNext:=ahead_next (xs:=xs) hlt
    rw [getD_at hiL] at hNext
    have hec:=hR.ec _ (List.getElem_mem hiL)
    have hal:(ahead xs t p).length=p:=by simp [ahead];omega
    have hBw:=hB5.trans (hBr'.mono hB5.size)
    obtain ⟨go,rfl,hct⟩:∃ g,oa=some ⟨g,0,none⟩∧wr.cell? ⟨g,p,none⟩=some (.int .i64 (t[p]:Int)):=by
     obtain ⟨a',c',e',hk'⟩:=hN5.below hBr'
     obtain ⟨g',e2,hc⟩:=hk' (by intro e;rw [e] at hlt;simp at hlt)
     injection e' with e1
     exact ⟨g',e1.trans e2,hc p hlt⟩
    obtain ⟨gx,ox,rfl,hcx⟩:∃ g o,ta=some ⟨g,o,none⟩∧wr.cell? ⟨g,o+t[p],none⟩=some (.string xs[t[p]]):=by
     obtain ⟨a',c',e',_,hk'⟩:=strs_below hT hBw
     obtain ⟨g',o',e2,hc⟩:=hk' (by intro e;rw [e] at hiL;simp at hiL)
     injection e' with e1
     exact ⟨g',o',e1.trans e2,hc _ hiL⟩
    have hOf:=(txo xs[t[p]]).of wr (hasAll_below hH hBw).1
    obtain ⟨hsm,hil⟩:=I_small hec
    rw [hec] at hOf
    unfold nameOf at hOnce hNext
    clear hec
    generalize (tx xs[t[p]]).ep=ep at *
    generalize (tx xs[t[p]]).F=F at *
    generalize (tx xs[t[p]]).I=I at *
    generalize xs[t[p]]=x at *
    generalize t[p]=i at *
    have HNX:=show Hid _ from hNext
    have hon:Hid (among (ahead xs t p) F.module=false):=hOnce
    clear hNext hOnce hR hN5 hT
    go_wp2_with (go_at_call 16;refine hOf.mono ?_;rintro e w6 ⟨fv,fiv,rfl,⟨fvv,fpv,rfl,⟨ua,uc,rfl,-,-⟩,⟨pa,pc,rfl,-,-⟩⟩,hsI,hb6⟩;obtain ⟨ia,ic,rfl⟩:∃ a c,fiv=.slice a I.length c:=by obtain ⟨a,c,e,_⟩:=hsI;exact ⟨a,c,e⟩)
    have hb7:=hb6.trans ((Joins.below_alloc2 w6 (.cells #[.string F.module,.slice ua F.vars.length uc,.slice pa F.procs.length pc] 44) (.cells #[.int .i64 0,.int .i64 ep] 28)).mono hb6.size)
    have hsI2:=strs_below (StrsIn.mono (fun a v hc=>(holes_cell hc).2) hsI) (Joins.below_alloc2 w6 (.cells #[.string F.module,.slice ua F.vars.length uc,.slice pa F.procs.length pc] 44) (.cells #[.int .i64 0,.int .i64 ep] 28))
    have hrow7:=hrow.kept (grown_of_below hb7) (by cases (Value.slice na p nc).ownBlock<;>simp)
    have bF:((w6.alloc (.cells #[.string F.module,.slice ua F.vars.length uc,.slice pa F.procs.length pc] 44)).alloc (.cells #[.int .i64 0,.int .i64 ep] 28)).cell? ⟨w6.heap.size,0,none⟩=some (.string F.module):=by simp
    have hB7:=hBr.trans (hb7.mono (by have:=hBr.size;have:=HB.out;omega))
    clear hsI hb6 hrow hBr hBr' hct hcx hOf
    generalize (w6.alloc (.cells #[.string F.module,.slice ua F.vars.length uc,.slice pa F.procs.length pc] 44)).alloc (.cells #[.int .i64 0,.int .i64 ep] 28)=W7 at *
    have hnm:StrsIn W7 (.slice na p nc) (ahead xs t p):=strs_own (by rw [hal];exact hrow7)
    go_loopw [12] (fun u wq=>∃ (k:Nat),k≤I.length∧u=.int .i64 k∧W7=wq) (fun u _=>I.length - (intOf u).toNat)
    case atStart=>exact ⟨0,Nat.zero_le _,rfl,rfl⟩
    case round =>
     obtain ⟨k,hk,rfl,rfl⟩:=hrel
     by_cases hkl:k<I.length
     ·obtain ⟨gi,oi,rfl,hci⟩:∃ g o,ia=some ⟨g,o,none⟩∧W7.cell? ⟨g,o+k,none⟩=some (.string I[k]):=by
       obtain ⟨a',c',e',_,hk'⟩:=hsI2
       obtain ⟨g',o',e2,hc⟩:=hk' (by intro e;rw [e] at hkl;simp at hkl)
       injection e' with e1
       exact ⟨g',o',e1.trans e2,hc k hkl⟩
      have hHas:=oHas (ahead xs t p) I[k] _ W7 hnm
      rw [hImp _ (List.getElem_mem hkl)] at hHas
      generalize I[k]=y at *
      go_wp2_with (go_at_call 17;refine hHas.mono ?_;rintro e w8 ⟨rfl,hw8⟩;obtain rfl:=hw8.symm)
      go_roundw
      case rel=>exact ⟨k+1,by omega,by go_num,trivial⟩
      case measure=>simp [intOf];omega
     ·have hHas:=oHas (ahead xs t p) F.module _ W7 hnm
      rw [hon.out] at hHas
      clear hImp
      go_wp2_with first
       | (go_at_call 17;refine hHas.mono ?_;rintro e w8 ⟨rfl,hw8⟩;obtain rfl:=hw8.symm)
       | (at_builtin;have hrw:=hrow7.alloc (.cells #[.string F.module] 9);refine wpList_append_lies _ rfl (.tmp 84) (.tmp 87) 45 rfl b 9 i0 (.string ⟨#[]⟩) 1 16 Tryz.underlying45 hi hz0 hz1 hz2 rfl (by decide) _ _ _ rfl hrw ⟨W7.heap.size,0,none⟩ 1 1 [.string F.module] rfl rfl (news_new _ #[.string F.module] _ _ rfl) (by intro u hu;simp at hu;subst hu;rfl) (by omega) (by unfold maxLen;omega) (by omega) (by have:=hB7.size;have:=HB.out;simp;omega) _ rfl ?_;intro g5 cap5 w5 hown5 hgrow5 hat5 hlt5;have hB9:=(hB7.alloc (by have:=hB7.size;have:=HB.out;omega) (.cells #[.string F.module] 9)).grown hgrow5 (by have:=hB7.size;have:=HB.out;simp;omega) (fun k e=>(hrw.lt _ e).1))
      rw [show strV (ahead xs t p)++[Value.string F.module]=strV (ahead xs t (p+1)) by rw [HNX.out];simp [strV]] at hown5
      exact ⟨⟨p+1,_,_,by omega,by go_num,rfl,hown5,hB9⟩,by simp [intOf];omega⟩
   ·have h2:=HLE.out
    have hBw:=hB5.trans (hBr'.mono hB5.size)
    go_wp2
    go_ret
    exact ⟨rfl,hBw⟩
end ord
namespace ord
open Go.RowKit Go.ChangeShapes Go.WideShapes
open syn face chk
theorem open_strsS {H:Type} {enc:TypeId × Value→H} {W:World} {n:Nat} {v:Value} {x:DataW H × List MemPlace} (h:DataW.trod enc Tryz.prog W 0 (fun _=>true) true n 45 [v]=some x):∃ l,StrsIn W v l:=by
 rcases open_strings Tryz.underlying45 Tryz.underlying9 (by kernel_rfl) h with ⟨h0,_⟩|⟨a,len,cap,ss,h0,_,hl,hm,hz,_,hc,_⟩
 ·simp only [List.cons.injEq,and_true] at h0
  exact ⟨[],none,0,h0,by simp,fun h=>absurd rfl h⟩
 ·simp only [List.cons.injEq,and_true] at h0
  simp only [if_true] at hz
  have hlen:(ss.take len).length=len:=by simp;omega
  refine ⟨ss.take len,some a,cap,by rw [hlen];exact h0,by unfold maxLen at hm;omega,fun hne=>?_⟩
  have hpos:0<ss.length:=by
   rcases Nat.eq_zero_or_pos ss.length with h | h
   ·exact absurd (by simp [List.eq_nil_of_length_eq_zero h]) hne
   ·exact h
  have h00:=hc 0 hpos
  rw [Addr.add,if_pos rfl] at h00
  obtain ⟨g,o,rfl⟩:=plain_addr h00
  refine ⟨g,o,rfl,fun i hi=>?_⟩
  have hi':i<ss.length:=by rw [hlen] at hi;omega
  have:=hc i hi'
  rw [add_plain] at this
  rw [this]
  simp [hi']
end ord
end Go.Proofs.YtfopddgjdaoidaaGreatDoor
