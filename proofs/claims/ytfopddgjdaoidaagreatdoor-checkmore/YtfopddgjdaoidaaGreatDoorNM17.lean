/- A text that has no tokens has a fault. No Go in sight. -/
import Derived.Laws.EntriesVeiled
import Derived.Test.YtfopddgjdaoidaaGreatDoorNM16
set_option linter.unusedVariables false
set_option linter.unusedSimpArgs false
set_option maxRecDepth 100000
namespace Go.Proofs.YtfopddgjdaoidaaGreatDoor.syn
open Go.RowKit
open lexs (Tok Fine own_shape)
section
variable {w w' w0:World} {r G B:Nat} {ts:List Tok} {s:St}
theorem recover_some {P:Program} {Q:Exit→Act→List Frame→World→Prop} {a:Act} {cs cs':List Frame} {w:World} {y:Code} {v:Value} {d:Nat} {T:TypeId} {pos:String} (h:recoverD cs=some (v,cs')) (hy:y.wpS P Q (a.put (some d) v) cs' w) :
    ((Code.region 0 #[{ dst:=some d,op:=Op.call { callee:=Callee.builtin Builtin.recover,args:=#[],argTypes:=#[] },type:=T,pos:=pos,after:=#[],guard:=none }] false).seq y).wpS P Q a cs w:=by
  apply wpS_seq
  apply wpS_region
  simp [wpOpsS,go_sem,h,Exit.thenS]
  exact hy
theorem recover_none {P:Program} {Q:Exit→Act→List Frame→World→Prop} {a:Act} {cs:List Frame} {w:World} {y:Code} {d:Nat} {T:TypeId} {pos:String} (h:recoverD cs=none) (hy:y.wpS P Q (a.put (some d) .nilIface) cs w) :
    ((Code.region 0 #[{ dst:=some d,op:=Op.call { callee:=Callee.builtin Builtin.recover,args:=#[],argTypes:=#[] },type:=T,pos:=pos,after:=#[],guard:=none }] false).seq y).wpS P Q a cs w:=by
  apply wpS_seq
  apply wpS_region
  simp [wpOpsS,go_sem,h,Exit.thenS]
  exact hy
set_option maxHeartbeats 200000 in
theorem catch_idle (p e:Addr) (w:World) :
    CallsD Tryz.prog 60 #[.pointer (some p),.pointer (some e)] .returning w fun e u' w'=>e=.returned (.tuple #[])∧u'=.returning∧w'=w:=by
  have hnn:∀ w:World,(binOp BinOp.eql 20 .nilIface .nilIface).run Tryz.prog w=.ok (.bool true) w:=fun _=>by kernel_rfl
  refine callsD_of_wpS Tryz.func60 rfl fun c₀ cs hu=>?_
  refine recover_none (by simp [recoverD,hu]) ?_
  simp only [Tryz.ntmps60,List.size_toArray,List.length_cons,List.length_nil,Nat.reduceAdd,Nat.reduceSub,Array.replicate_succ,Array.replicate_zero,List.push_toArray,List.append_toArray,List.nil_append,List.cons_append,Act.put,List.setIfInBounds_toArray,List.set_cons_succ,List.set_cons_zero]
  refine wpS_of_wp (wp_mono (Q:=fun e a w'=>e=.normal∧a.defers=[]∧w'=w) ?_ ?_)
  · go_wp2
  · rintro e a w' ⟨rfl,h1,rfl⟩
    exact ⟨h1,_,rfl,.tuple #[],by simp [results,Tryz.results60],rfl,hu,rfl⟩
set_option maxHeartbeats 1000000 in
theorem catch_strange (fb eb:Nat) (at_:Int) (w:World) (h0:w.cell? ⟨fb,0,none⟩=some (.int .i64 0)) (h1:w.cell? ⟨fb,1,none⟩=some (.int .i64 0)) (f0:w.frozen? ⟨fb,0,none⟩=false) (f1:w.frozen? ⟨fb,1,none⟩=false) (hfb:fb<w.heap.size) :
    CallsD Tryz.prog 60 #[.pointer (some ⟨fb,0,none⟩),.pointer (some ⟨eb,0,none⟩)] (.panicking [{ v:=.iface 115 (.agg #[.int .i64 at_]),recovered:=false }]) w fun e u' w'=>e=.returned (.tuple #[])∧u'=.panicking [{ v:=.iface 115 (.agg #[.int .i64 at_]),recovered:=true }]∧w'.cell? ⟨fb,0,none⟩=some (.int .i64 2)∧w'.cell? ⟨fb,1,none⟩=some (.int .i64 at_)∧Fr fb w w':=by
  have c60:Tryz.prog.cellsOf 115=1:=by kernel_rfl
  have c27:Tryz.prog.cellsOf 28=2:=by kernel_rfl
  have hnn:∀ w:World,(binOp BinOp.eql 20 (.iface 115 (.agg #[.int .i64 at_])) .nilIface).run Tryz.prog w=.ok (.bool false) w:=fun _=>by kernel_rfl
  have hta:∀ w:World,(Instr.typeAssert (.iface 115 (.agg #[.int .i64 at_])) 20 115 true).run Tryz.prog w=.ok (.tuple #[.agg #[.int .i64 at_],.bool true]) w:=fun _=>by kernel_rfl
  refine callsD_of_wpS Tryz.func60 rfl fun c₀ cs hu=>?_
  refine recover_some (v:=.iface 115 (.agg #[.int .i64 at_])) (cs':={ c₀ with mode:=.panicking [{ v:=.iface 115 (.agg #[.int .i64 at_]),recovered:=true }] } :: cs) (by simp [recoverD,hu]) ?_
  simp only [Tryz.ntmps60,List.size_toArray,List.length_cons,List.length_nil,Nat.reduceAdd,Nat.reduceSub,Array.replicate_succ,Array.replicate_zero,List.push_toArray,List.append_toArray,List.nil_append,List.cons_append,Act.put,List.setIfInBounds_toArray,List.set_cons_succ,List.set_cons_zero]
  refine wpS_of_wp (wp_mono (Q:=fun e a w'=>e=.normal∧a.defers=[]∧w'.cell? ⟨fb,0,none⟩=some (.int .i64 2)∧w'.cell? ⟨fb,1,none⟩=some (.int .i64 at_)∧Fr fb w w') ?_ ?_)
  · go_wp2
    exact (((Fr.refl _ _).set _ _).set _ _).alloc _
  · rintro e a w' ⟨rfl,h1,h2,h3,h4⟩
    exact ⟨h1,_,rfl,.tuple #[],by simp [results,Tryz.results60],rfl,rfl,h2,h3,h4⟩
set_option maxHeartbeats 1000000 in
theorem catch_short (fb eb:Nat) (at_:Int) (w:World) (he:w.cell? ⟨eb,0,none⟩=some (.int .i64 at_)) (heb:eb<w.heap.size) (h0:w.cell? ⟨fb,0,none⟩=some (.int .i64 0)) (h1:w.cell? ⟨fb,1,none⟩=some (.int .i64 0)) (f0:w.frozen? ⟨fb,0,none⟩=false) (f1:w.frozen? ⟨fb,1,none⟩=false) (hfb:fb<w.heap.size) :
    CallsD Tryz.prog 60 #[.pointer (some ⟨fb,0,none⟩),.pointer (some ⟨eb,0,none⟩)] (.panicking [{ v:=.iface 116 (.agg #[]),recovered:=false }]) w fun e u' w'=>e=.returned (.tuple #[])∧u'=.panicking [{ v:=.iface 116 (.agg #[]),recovered:=true }]∧w'.cell? ⟨fb,0,none⟩=some (.int .i64 2)∧w'.cell? ⟨fb,1,none⟩=some (.int .i64 at_)∧Fr fb w w':=by
  have c60:Tryz.prog.cellsOf 115=1:=by kernel_rfl
  have c27:Tryz.prog.cellsOf 28=2:=by kernel_rfl
  have hnn:∀ w:World,(binOp BinOp.eql 20 (.iface 116 (.agg #[])) .nilIface).run Tryz.prog w=.ok (.bool false) w:=fun _=>by kernel_rfl
  have hta:∀ w:World,(Instr.typeAssert (.iface 116 (.agg #[])) 20 115 true).run Tryz.prog w=.ok (.tuple #[.agg #[.int .i64 0],.bool false]) w:=fun _=>by kernel_rfl
  have htb:∀ w:World,(Instr.typeAssert (.iface 116 (.agg #[])) 20 116 true).run Tryz.prog w=.ok (.tuple #[.agg #[],.bool true]) w:=fun _=>by kernel_rfl
  have c62:Tryz.prog.cellsOf 116=0:=by kernel_rfl
  refine callsD_of_wpS Tryz.func60 rfl fun c₀ cs hu=>?_
  refine recover_some (v:=.iface 116 (.agg #[])) (cs':={ c₀ with mode:=.panicking [{ v:=.iface 116 (.agg #[]),recovered:=true }] } :: cs) (by simp [recoverD,hu]) ?_
  simp only [Tryz.ntmps60,List.size_toArray,List.length_cons,List.length_nil,Nat.reduceAdd,Nat.reduceSub,Array.replicate_succ,Array.replicate_zero,List.push_toArray,List.append_toArray,List.nil_append,List.cons_append,Act.put,List.setIfInBounds_toArray,List.set_cons_succ,List.set_cons_zero]
  refine wpS_of_wp (wp_mono (Q:=fun e a w'=>e=.normal∧a.defers=[]∧w'.cell? ⟨fb,0,none⟩=some (.int .i64 2)∧w'.cell? ⟨fb,1,none⟩=some (.int .i64 at_)∧Fr fb w w') ?_ ?_)
  · go_wp2
    exact (((Fr.refl _ _).set _ _).set _ _).alloc _
  · rintro e a w' ⟨rfl,h1,h2,h3,h4⟩
    exact ⟨h1,_,rfl,.tuple #[],by simp [results,Tryz.results60],rfl,rfl,h2,h3,h4⟩
theorem Ld.new {L:Value} {T:TypeId} {B0:Nat} (hown:w.ownsRow B0 99 3 L ts.length (lexs.cellsOf ts)) (hlen:ts.length≤3000) (hfine:∀ t ∈ ts,Fine t) (hO:HasOps w):∃ G,Ld (w.alloc (.cells #[L] T)) w.heap.size G ts ⟨0,false⟩:=by
  have hlow:5<w.heap.size:=by
    obtain ⟨cs,t,fr,h1,_⟩:=hO
    rcases Nat.lt_or_ge 5 w.heap.size with h | h
    · exact h
    · rw [Array.getElem?_eq_none h] at h1
      simp at h1
  have hO':HasOps (w.alloc (.cells #[L] T)):=hasOps_below hO ((Below.refl _ _).alloc (jE _) _)
  have hown':=hown.alloc (.cells #[L] T)
  obtain ⟨a,c,rfl,hm,hg⟩:=own_shape hown
  have hcap:ts.length≤c:=by
    rcases hown.2 with ⟨e1,e2⟩ | ⟨g,cap,cur,e1,_,_,e2,_⟩
    · omega
    · injection e1 with _ _ e3
      omega
  rcases Nat.eq_zero_or_pos ts.length with h0 | h0
  · refine ⟨0,⟨a,c,by simp,by simpa using hcap,fun h=>by dsimp only at h;omega⟩,by simp,fun k hk=>by omega,by omega,hlen,Nat.zero_le _,hfine,rfl,hO',hlow⟩
  · obtain ⟨g,rfl⟩:=hg h0
    have hlt:=hown.lt g rfl
    refine ⟨g,⟨some ⟨g,0,none⟩,c,by simp,by simpa using hcap,fun h=>by simp⟩,by simp,fun k hk=>?_,hlt.2,hlen,Nat.zero_le _,hfine,rfl,hO',hlow⟩
    exact lexs.tok_cells hown' hk
def RdOut (w:World) (n:Nat) (ts:List Tok) (q:Tree × St) (e:Ending) (w':World):Prop :=
  ∃ v,e=.returned (.tuple #[v,.agg #[.int .i64 (if q.2.bad then 2 else 0),.int .i64 (if q.2.bad then failAt ts n q.2 else 0)]])∧Lies (fun b=>w.heap.size≤b∧b<w'.heap.size) w' (if q.2.bad then none0 else q.1) v∧Below w.heap.size w w'
theorem RdOut.bad {n:Nat} {q:Tree × St} (hb:q.2.bad=true) (hB:Below w.heap.size w w'):RdOut w n ts q (.returned (.tuple #[.agg #[.int .i64 0,.string empty,.int .i64 0,.slice none 0 0],.agg #[.int .i64 2,.int .i64 (failAt ts n q.2)]])) w':=by
  unfold RdOut
  rw [hb]
  exact ⟨_,rfl,Lies.leaf _ _ _ _ _,hB⟩
theorem RdOut.good {n:Nat} {q:Tree × St} {v:Value} (hb:q.2.bad=false) (hl:Lies (fun b=>w.heap.size≤b∧b<w'.heap.size) w' q.1 v) (hB:Below w.heap.size w w'):RdOut w n ts q (.returned (.tuple #[v,.agg #[.int .i64 0,.int .i64 0]])) w':=by
  unfold RdOut
  rw [hb]
  exact ⟨_,rfl,hl,hB⟩
set_option maxHeartbeats 2000000 in
theorem oread {L:Value} {B0 n:Nat} (hown:w.ownsRow B0 99 3 L ts.length (lexs.cellsOf ts)) (hlen:ts.length≤3000) (hfine:∀ t ∈ ts,Fine t) (hO:HasOps w) {q:Tree × St} (hq:moduleF ts=some q) :
    Calls Tryz.prog 27 #[L,.int .i64 n] w (RdOut w n ts q):=by
  have c24:Tryz.prog.cellsOf 25=4:=by kernel_rfl
  have c27:Tryz.prog.cellsOf 28=2:=by kernel_rfl
  have c64:Tryz.prog.cellsOf 118=1:=by kernel_rfl
  have hmf:∀ (fn:Fn) (first cap:Array Value) (w:World),(Instr.makeFunc fn first cap).run Tryz.prog w=.ok (.func fn first cap) w:=fun _ _ _ _=>rfl
  obtain ⟨w3,hw3⟩:∃ w3,w3=((w.alloc (.cells #[.int .i64 n] 3)).alloc (.cells #[.int .i64 0,.string empty,.int .i64 0,.slice none 0 0] 25)).alloc (.cells #[.int .i64 0,.int .i64 0] 28):=⟨_,rfl⟩
  have hs3:w3.heap.size=w.heap.size+3:=by rw [hw3];simp
  have hbel:Below w.heap.size w w3:=by rw [hw3];exact (((Below.refl _ _).alloc (jE _) _).alloc (by simp) _).alloc (by simp;omega) _
  obtain ⟨G,hL⟩:=Ld.new (w:=w3) (L:=L) (T:=118) (by rw [hw3];exact ((hown.alloc _).alloc _).alloc _) hlen hfine (hasOps_below hO hbel)
  have hM:=omodule hL hq
  rw [hs3] at hM hL
  obtain ⟨a,c,rfl,hm,_⟩:=own_shape hown
  rw [hw3] at hM hL
  go_enter_defers Tryz.func27,Tryz.ntmps27
  obtain ⟨w4,hw4⟩:∃ w4,w4=(((w.alloc (.cells #[.int .i64 n] 3)).alloc (.cells #[.int .i64 0,.string empty,.int .i64 0,.slice none 0 0] 25)).alloc (.cells #[.int .i64 0,.int .i64 0] 28)).alloc (.cells #[.slice a ts.length c] 118):=⟨_,rfl⟩
  rw [← hw4] at hM hL
  have hs4:w4.heap.size=w.heap.size+4:=by rw [hw4];simp
  have hb4:Below w.heap.size w w4:=by rw [hw4];exact ((((Below.refl _ _).alloc (jE _) _).alloc (by simp) _).alloc (by simp;omega) _).alloc (by simp;omega) _
  have k0:w4.cell? ⟨w.heap.size,0,none⟩=some (.int .i64 n):=by
    have a0:(w.alloc (.cells #[.int .i64 n] 3)).cell? ⟨w.heap.size,0,none⟩=some (.int .i64 n):=by simp
    rw [hw4]
    exact ((((Below.refl (w.alloc (.cells #[.int .i64 n] 3)).heap.size (w.alloc (.cells #[.int .i64 n] 3))).alloc (jE _) _).alloc (by simp) _).alloc (by simp) _).cell (p:=⟨w.heap.size,0,none⟩) (by simp) |>.trans a0
  have k2:Box4 w4 (w.heap.size+1) (.int .i64 0) (.string empty) (.int .i64 0) (.slice none 0 0):=by
    have:=((Box4.new (w.alloc (.cells #[.int .i64 n] 3)) (.int .i64 0) (.string empty) (.int .i64 0) (.slice none 0 0) 25).alloc (.cells #[.int .i64 0,.int .i64 0] 28)).alloc (.cells #[.slice a ts.length c] 118)
    rw [World.size_alloc] at this
    rw [hw4]
    exact this
  have k1:w4.cell? ⟨w.heap.size+2,0,none⟩=some (.int .i64 0)∧w4.cell? ⟨w.heap.size+2,1,none⟩=some (.int .i64 0)∧w4.frozen? ⟨w.heap.size+2,0,none⟩=false∧w4.frozen? ⟨w.heap.size+2,1,none⟩=false:=by
    have hs2:((w.alloc (.cells #[.int .i64 n] 3)).alloc (.cells #[.int .i64 0,.string empty,.int .i64 0,.slice none 0 0] 25)).heap.size=w.heap.size+2:=by simp
    generalize (w.alloc (.cells #[.int .i64 n] 3)).alloc (.cells #[.int .i64 0,.string empty,.int .i64 0,.slice none 0 0] 25)=wz at *
    rw [← hs2]
    have hb:=((Below.refl (wz.alloc (.cells #[.int .i64 0,.int .i64 0] 28)).heap.size (wz.alloc (.cells #[.int .i64 0,.int .i64 0] 28))).alloc (jE _) (.cells #[.slice a ts.length c] 118)).block wz.heap.size (by simp)
    rw [hw4]
    refine ⟨(World.cell?_of_block (a:=⟨wz.heap.size,0,none⟩) hb).trans (by simp),(World.cell?_of_block (a:=⟨wz.heap.size,1,none⟩) hb).trans (by simp),(World.frozen?_of_block (a:=⟨wz.heap.size,0,none⟩) hb).trans (by simp),(World.frozen?_of_block (a:=⟨wz.heap.size,1,none⟩) hb).trans (by simp)⟩
  go_wp2_with (fail)
  rw [hw4] at hM
  refine hM.mono ?_
  rw [← hw4]
  rintro e w5 (⟨hb,rfl,hF⟩ | ⟨hb,v,rfl,hl,hL5,hF⟩)
  · have hz5:=hF.size
    have hB2:=hF.block (w.heap.size+2) (by omega) (by simp)
    have hBe:=hF.block w.heap.size (by omega) (by simp)
    have hB1:=k2.fr hF (by omega)
    have e0:=(World.cell?_of_block (a:=⟨w.heap.size+2,0,none⟩) hB2).trans k1.1
    have e1:=(World.cell?_of_block (a:=⟨w.heap.size+2,1,none⟩) hB2).trans k1.2.1
    have e2:=(World.frozen?_of_block (a:=⟨w.heap.size+2,0,none⟩) hB2).trans k1.2.2.1
    have e3:=(World.frozen?_of_block (a:=⟨w.heap.size+2,1,none⟩) hB2).trans k1.2.2.2
    have e4:=(World.cell?_of_block (a:=⟨w.heap.size,0,none⟩) hBe).trans k0
    have key:CallsD Tryz.prog 60 #[.pointer (some ⟨w.heap.size+2,0,none⟩),.pointer (some ⟨w.heap.size,0,none⟩)] (.panicking (Pan ts q.2)) w5 fun e u' w'=>e=.returned (.tuple #[])∧u'=.panicking [{ v:=lost ts q.2,recovered:=true }]∧w'.cell? ⟨w.heap.size+2,0,none⟩=some (.int .i64 2)∧w'.cell? ⟨w.heap.size+2,1,none⟩=some (.int .i64 (failAt ts n q.2))∧Fr (w.heap.size+2) w5 w':=by
      unfold Pan lost failAt
      cases ht:ts[q.2.i]? with
      | none=>exact catch_short _ _ _ _ e4 (by omega) e0 e1 e2 e3 (by omega)
      | some t=>exact catch_strange _ _ _ _ e0 e1 e2 e3 (by omega)
    have HK:Hid (Below w.heap.size w w5):=⟨hF.os.trans hb4.os,hF.tape.trans hb4.tape,hF.output.trans hb4.output,Nat.le_trans hb4.size hF.size,fun j hj=>(hF.block j (by omega) (by simp;omega)).trans (hb4.block j hj)⟩
    go_wp2
    refine leaves_cons (f:=60) (args:=#[.pointer (some ⟨w.heap.size+2,0,none⟩),.pointer (some ⟨w.heap.size,0,none⟩)]) (by simp) (by simp [go_sem]) ?_
    refine key.mono ?_
    rintro e u' w6 ⟨rfl,rfl,c0,c1,hF6⟩
    obtain ⟨q0,q1,q2,q3,_,_,_,_⟩:=hB1.fr hF6 (by omega)
    have HK6:Hid (Below w.heap.size w w6):=⟨hF6.os.trans HK.out.os,hF6.tape.trans HK.out.tape,hF6.output.trans HK.out.output,Nat.le_trans HK.out.size hF6.size,fun j hj=>(hF6.block j (by omega) (by simp;omega)).trans (HK.out.block j hj)⟩
    refine ⟨.tuple #[.agg #[.int .i64 0,.string empty,.int .i64 0,.slice none 0 0],.agg #[.int .i64 2,.int .i64 (failAt ts n q.2)]],?_,RdOut.bad hb HK6.out⟩
    simp [results,Tryz.results27,go_sem,q0,q1,q2,q3,c0,c1,empty]
  · obtain ⟨k,x,m,_,rfl,al,nn,cc,rfl⟩:=hl.shape
    have hz5:=hF.size
    have hB2:=hF.block (w.heap.size+2) (by omega) (by simp)
    have hB1:=k2.fr hF (by omega)
    have e0:=(World.cell?_of_block (a:=⟨w.heap.size+2,0,none⟩) hB2).trans k1.1
    have e1:=(World.cell?_of_block (a:=⟨w.heap.size+2,1,none⟩) hB2).trans k1.2.1
    have e2:=(World.frozen?_of_block (a:=⟨w.heap.size+2,0,none⟩) hB2).trans k1.2.2.1
    have e3:=(World.frozen?_of_block (a:=⟨w.heap.size+2,1,none⟩) hB2).trans k1.2.2.2
    obtain ⟨q0,q1,q2,q3,t0,t1,t2,t3⟩:=id hB1
    have HK:Hid (Below w.heap.size w w5):=⟨hF.os.trans hb4.os,hF.tape.trans hb4.tape,hF.output.trans hb4.output,Nat.le_trans hb4.size hF.size,fun j hj=>(hF.block j (by omega) (by simp;omega)).trans (hb4.block j hj)⟩
    go_wp2
    refine leaves_cons (f:=60) (args:=#[.pointer (some ⟨w.heap.size+2,0,none⟩),.pointer (some ⟨w.heap.size,0,none⟩)]) (by simp) (by simp [go_sem]) ?_
    refine (catch_idle _ _ _).mono ?_
    rintro e u' w6 ⟨rfl,rfl,hw6⟩
    subst hw6
    have hput:=Fr.put w5 (w.heap.size+1) (.int .i64 k) (.string x) (.int .i64 m) (.slice al nn cc)
    have hl1:=hl.frP (x:=w.heap.size+1) hput (fun b hb=>⟨hb.2,by omega⟩) (fun b hb=>hb)
    refine ⟨.tuple #[.agg #[.int .i64 k,.string x,.int .i64 m,.slice al nn cc],.agg #[.int .i64 0,.int .i64 0]],?_,RdOut.good hb ?_ ?_⟩
    · simp [results,Tryz.results27,go_sem,q0,q1,q2,q3,e0,e1]
    · exact hl1.frP (x:=w.heap.size+2) (((Fr.refl _ _).set 0 _).set 1 _) (fun b hb=>⟨by simpa using hb.2,by omega⟩) (fun b hb=>⟨by omega,by simpa using hb.2⟩)
    · exact (((((HK.out.setCell (by simp) _).setCell (by simp) _).setCell (by simp) _).setCell (by simp) _).setCell (by simp;omega) _).setCell (by simp;omega) _
end
end Go.Proofs.YtfopddgjdaoidaaGreatDoor.syn
namespace Go.Proofs.YtfopddgjdaoidaaGreatDoor.syn
mutual
def cntT:Tree→Int
  | .node _ _ _ ks=>cntL ks+1
def cntL:List Tree→Int
  | []=>0
  | t :: r=>cntT t+cntL r
end
mutual
def depT:Tree→Int
  | .node _ _ _ ks=>depL ks+1
def depL:List Tree→Int
  | []=>0
  | t :: r=>max (depT t) (depL r)
end
mutual
theorem cntT_pos:∀ t:Tree,1≤cntT t
  | .node _ _ _ ks=>by unfold cntT;have:=cntL_pos ks;omega
theorem cntL_pos:∀ ks:List Tree,0≤cntL ks
  | []=>by unfold cntL;omega
  | t :: r=>by unfold cntL;have h1:=cntT_pos t;have h2:=cntL_pos r;omega
end
mutual
theorem depT_pos:∀ t:Tree,1≤depT t
  | .node _ _ _ ks=>by unfold depT;have:=depL_pos ks;omega
theorem depL_pos:∀ ks:List Tree,0≤depL ks
  | []=>by unfold depL;omega
  | t :: r=>by unfold depL;have h1:=depT_pos t;have h2:=depL_pos r;omega
end
mutual
theorem manyT_is:∀ (t:Tree) (most:Int),0≤most→(cntT t≤most→manyT t most=cntT t)∧(most<cntT t→most<manyT t most)
  | .node _ _ _ ks,most,h=>by
    unfold manyT cntT
    have:=manyL_is ks 1 most h (by omega) (by omega)
    exact ⟨fun h1=>by rw [this.1 (by omega)];omega,fun h1=>this.2 (by omega)⟩
theorem manyL_is:∀ (ks:List Tree) (k most:Int),0≤most→1≤k→k≤most+1→(k+cntL ks≤most→manyL ks k most=k+cntL ks)∧(most<k+cntL ks→most<manyL ks k most)
  | [],k,most,h,h1,h2=>by unfold manyL cntL;exact ⟨fun _=>by omega,fun h=>by omega⟩
  | t :: r,k,most,h,h1,h2=>by
    unfold manyL cntL
    have p1:=cntT_pos t
    have p2:=cntL_pos r
    split
    · rename_i hc
      have hm:=manyT_is t (most - k) (by omega)
      have hb:=manyT_bounds t (most - k) (by omega)
      have hr:=manyL_is r (k+manyT t (most - k)) most h (by omega) (by omega)
      refine ⟨fun h3=>?_,fun h3=>?_⟩
      · rw [hr.1 (by rw [hm.1 (by omega)];omega),hm.1 (by omega)]
        omega
      · rcases Int.lt_or_le (most - k) (cntT t) with h4 | h4
        · have:=hm.2 h4
          exact hr.2 (by omega)
        · have:=hm.1 h4
          exact hr.2 (by omega)
    · exact ⟨fun h3=>by omega,fun h3=>by omega⟩
end
mutual
theorem deepT_is:∀ (t:Tree) (most:Int),0≤most→(depT t≤most→deepT t most=depT t)∧(most<depT t→most<deepT t most)
  | .node _ _ _ ks,most,h=>by
    unfold deepT depT
    have p:=depL_pos ks
    rcases Int.lt_or_le 0 most with h0 | h0
    · have:=deepL_is ks 0 most h0 (by omega) (by omega)
      have e:max 0 (depL ks)=depL ks:=by omega
      rw [e] at this
      exact ⟨fun h1=>by rw [this.1 (by omega)],fun h1=>by have:=this.2 (by omega);omega⟩
    · have hb:=deepL_bounds ks 0 most h (by omega) (by omega)
      exact ⟨fun h1=>by omega,fun h1=>by omega⟩
theorem deepL_is:∀ (ks:List Tree) (d most:Int),0<most→0≤d→d≤most→(max d (depL ks)≤most - 1→deepL ks d most=max d (depL ks))∧(most - 1<max d (depL ks)→most≤deepL ks d most)
  | [],d,most,h,h1,h2=>by unfold deepL depL;exact ⟨fun _=>by omega,fun h=>by omega⟩
  | t :: r,d,most,h,h1,h2=>by
    unfold deepL depL
    rw [if_pos ⟨h,h2⟩]
    have hm:=deepT_is t (most - 1) (by omega)
    have hb:=deepT_bounds t (most - 1) (by omega)
    have hr:=deepL_is r (max d (deepT t (most - 1))) most h (by omega) (by omega)
    refine ⟨fun h3=>?_,fun h3=>?_⟩
    · have e:=hm.1 (by omega)
      rw [hr.1 (by omega),e]
      omega
    · rcases Int.lt_or_le (most - 1) (depT t) with h4 | h4
      · have:=hm.2 h4
        exact hr.2 (by omega)
      · have:=hm.1 h4
        exact hr.2 (by omega)
end
mutual
def withinT:Tree→Int→Int→Option Int
  | .node _ _ _ ks,d,c=>if 16<d∨500<c+1 then none else withinL ks (d+1) (c+1)
def withinL:List Tree→Int→Int→Option Int
  | [],_,c=>some c
  | t :: r,d,c=>match withinT t d c with
    | none=>none
    | some c'=>withinL r d c'
end
mutual
theorem withinT_is:∀ (t:Tree) (d c:Int),0≤c→c≤500→1≤d→d≤17→withinT t d c=if depT t+d≤17∧c+cntT t≤500 then some (c+cntT t) else none
  | .node _ _ _ ks,d,c,h1,h2,h3,h4=>by
    unfold withinT depT cntT
    have p1:=depL_pos ks
    have p2:=cntL_pos ks
    by_cases hc:16<d∨500<c+1
    · rw [if_pos hc,if_neg (by omega)]
    · rw [if_neg hc,withinL_is ks (d+1) (c+1) (by omega) (by omega) (by omega) (by omega)]
      by_cases hd:depL ks+(d+1)≤17∧c+1+cntL ks≤500
      · rw [if_pos hd,if_pos (by omega)]
        congr 1
        omega
      · rw [if_neg hd,if_neg (by omega)]
theorem withinL_is:∀ (ks:List Tree) (d c:Int),0≤c→c≤500→1≤d→d≤17→withinL ks d c=if depL ks+d≤17∧c+cntL ks≤500 then some (c+cntL ks) else none
  | [],d,c,h1,h2,h3,h4=>by
    unfold withinL depL cntL
    rw [if_pos (by omega)]
    congr 1
    omega
  | t :: r,d,c,h1,h2,h3,h4=>by
    unfold withinL depL cntL
    have p1:=cntT_pos t
    have p2:=cntL_pos r
    have p3:=depT_pos t
    have p4:=depL_pos r
    rw [withinT_is t d c h1 h2 h3 h4]
    by_cases hd:depT t+d≤17∧c+cntT t≤500
    · rw [if_pos hd]
      simp only
      rw [withinL_is r d (c+cntT t) (by omega) (by omega) h3 h4]
      by_cases hr:depL r+d≤17∧c+cntT t+cntL r≤500
      · rw [if_pos hr,if_pos (by omega)]
        congr 1
        omega
      · rw [if_neg hr,if_neg (by omega)]
    · rw [if_neg hd]
      simp only
      rw [if_neg (by omega)]
end
theorem within_fits (t:Tree):(withinT t 1 0).isSome=fitsT t:=by
  rw [withinT_is t 1 0 (by omega) (by omega) (by omega) (by omega)]
  unfold fitsT
  have hm:=manyT_is t 500 (by omega)
  have hd:=deepT_is t 16 (by omega)
  rcases Int.lt_or_le 500 (cntT t) with h | h
  · have a1:=hm.2 h
    have a2:¬ (depT t+1≤17∧0+cntT t≤500):=by omega
    simp only [if_pos a1,if_neg a2]
    rfl
  · have a1:¬ 500<manyT t 500:=by rw [hm.1 h];omega
    simp only [if_neg a1]
    rcases Int.lt_or_le 16 (depT t) with h2 | h2
    · have a2:¬ (depT t+1≤17∧0+cntT t≤500):=by omega
      have a3:¬ deepT t 16≤16:=by have:=hd.2 h2;omega
      simp only [if_neg a2,decide_eq_false a3]
      rfl
    · have a2:depT t+1≤17∧0+cntT t≤500:=by omega
      have a3:deepT t 16≤16:=by rw [hd.1 h2];exact h2
      simp only [if_pos a2,decide_eq_true a3]
      rfl
end Go.Proofs.YtfopddgjdaoidaaGreatDoor.syn
namespace Go.Proofs.YtfopddgjdaoidaaGreatDoor.syn
open Go.RowKit
def WiOut (w:World) (P:Nat) (o:Option Int) (e:Ending) (w':World):Prop :=
  e=.returned (.bool o.isSome)∧(∀ c',o=some c'→w'.cell? ⟨P,0,none⟩=some (.int .i64 c'))∧w'.frozen? ⟨P,0,none⟩=false∧Fr P w w'
theorem withinL_step {ks:List Tree} {j:Nat} (hj:j<ks.length) (d c:Int):withinL (ks.drop j) d c=match withinT ks[j] d c with | none=>none | some c'=>withinL (ks.drop (j+1)) d c':=by
  rw [List.drop_eq_getElem_cons hj,withinL]
  all_goals (cases withinT ks[j] d c <;> rfl)
theorem withinT_le {t:Tree} {d c c':Int} (h1:0≤c) (h2:c≤500) (h3:1≤d) (h4:d≤17) (h:withinT t d c=some c'):0≤c'∧c'≤500:=by
  rw [withinT_is t d c h1 h2 h3 h4] at h
  have:=cntT_pos t
  split at h
  · simp only [Option.some.injEq] at h
    omega
  · simp at h
theorem pk_set {w:World} {P:Nat} {u v:Value} {o:Obj} (hc:w.cell? ⟨P,0,none⟩=some u) (hf:w.frozen? ⟨P,0,none⟩=false):((w.setCell ⟨P,0,none⟩ v).alloc o).cell? ⟨P,0,none⟩=some v∧((w.setCell ⟨P,0,none⟩ v).alloc o).frozen? ⟨P,0,none⟩=false:=by
  have hl:P<(w.setCell ⟨P,0,none⟩ v).heap.size:=by rw [World.size_setCell];exact World.block_lt_of_cell? w ⟨P,0,none⟩ hc
  have hb:=((Below.refl (w.setCell ⟨P,0,none⟩ v).heap.size (w.setCell ⟨P,0,none⟩ v)).alloc (jE _) o).block P hl
  exact ⟨(World.cell?_of_block (a:=⟨P,0,none⟩) hb).trans (World.cell?_setCell_same _ _ _ hc),(World.frozen?_of_block (a:=⟨P,0,none⟩) hb).trans (by simp [hf])⟩
theorem pk_al {w:World} {P:Nat} {u:Value} (o:Obj) (hc:w.cell? ⟨P,0,none⟩=some u) (hf:w.frozen? ⟨P,0,none⟩=false):(w.alloc o).cell? ⟨P,0,none⟩=some u∧(w.alloc o).frozen? ⟨P,0,none⟩=false:=by
  have hb:=((Below.refl w.heap.size w).alloc (jE _) o).block P (World.block_lt_of_cell? w ⟨P,0,none⟩ hc)
  exact ⟨(World.cell?_of_block (a:=⟨P,0,none⟩) hb).trans hc,(World.frozen?_of_block (a:=⟨P,0,none⟩) hb).trans hf⟩
set_option maxHeartbeats 4000000 in
theorem owithin (t:Tree) (va:Value) (w:World) (P:Nat) (d c:Int) (hc0:0≤c) (hc5:c≤500) (hd1:1≤d) (hd17:d≤17) (hP:w.cell? ⟨P,0,none⟩=some (.int .i64 c)) (hPf:w.frozen? ⟨P,0,none⟩=false)
    (ha:Lies (fun b=>b<w.heap.size∧b≠P) w t va):Calls Tryz.prog 62 #[va,.int .i64 d,.pointer (some ⟨P,0,none⟩)] w (WiOut w P (withinT t d c)):=by
  have c24:Tryz.prog.cellsOf 25=4:=by kernel_rfl
  have hPl:P<w.heap.size:=World.block_lt_of_cell? w ⟨P,0,none⟩ hP
  match t,ha with
  | .node k x m ks,ha =>
    have ih:∀ (j:Nat) (hj:j<ks.length) (va:Value) (w:World) (c:Int),0≤c→c≤500→d+1≤17→w.cell? ⟨P,0,none⟩=some (.int .i64 c)→w.frozen? ⟨P,0,none⟩=false→Lies (fun b=>b<w.heap.size∧b≠P) w ks[j] va →
        Calls Tryz.prog 62 #[va,.int .i64 (d+1),.pointer (some ⟨P,0,none⟩)] w (WiOut w P (withinT ks[j] (d+1) c)):=fun j hj va w c h1 h2 h3 h4 h5 h6=>owithin ks[j] va w P (d+1) c h1 h2 (by omega) h3 h4 h5 h6
    unfold Lies at ha
    obtain ⟨a,cp,rfl,hlk,hka⟩:=ha
    have hB0:=Box4.new w (.int .i64 k) (.string x) (.int .i64 m) (.slice a ks.length cp) 25
    unfold withinT
    by_cases h16:16<d
    · rw [if_pos (.inl h16)]
      go_enter Tryz.func62,Tryz.ntmps62
      go_wp2
      go_ret
      exact ⟨rfl,fun c' h=>by simp at h,(pk_set hP hPf).2,((Fr.refl _ _).set _ _).alloc _⟩
    by_cases h500:500<c+1
    · rw [if_pos (.inr h500)]
      go_enter Tryz.func62,Tryz.ntmps62
      go_wp2
      go_ret
      exact ⟨rfl,fun c' h=>by simp at h,(pk_set hP hPf).2,((Fr.refl _ _).set _ _).alloc _⟩
    rw [if_neg (by omega)]
    obtain ⟨V,hV⟩:∃ V,V=withinL ks (d+1) (c+1):=⟨_,rfl⟩
    rw [← hV]
    have HV:Hid (withinL (ks.drop 0) (d+1) (c+1)=V):=hV.symm
    clear hV
    have hlk':(ks.length:Int)≤4611686018427387904:=by omega
    go_enter Tryz.func62,Tryz.ntmps62
    go_wp2
    go_loopw [25] (fun i wr=>∃ (j:Nat) (n:Int),j≤ks.length∧i=.int .i64 j∧0≤n∧n≤500∧Hid (withinL (ks.drop j) (d+1) n=V)∧wr.cell? ⟨P,0,none⟩=some (.int .i64 n)∧wr.frozen? ⟨P,0,none⟩=false∧Fr P w wr∧Box4 wr w.heap.size (.int .i64 k) (.string x) (.int .i64 m) (.slice a ks.length cp)) (fun i _=>ks.length - (intOf i).toNat)
    case atStart =>
      refine ⟨0,c+1,Nat.zero_le _,rfl,by omega,by omega,HV.out,?_,?_,?_,?_⟩
      · exact (pk_set hP hPf).1
      · exact (pk_set hP hPf).2
      · exact ((Fr.refl _ _).set _ _).alloc _
      · have:=Box4.new (w.setCell ⟨P,0,none⟩ (.int .i64 (c+1))) (.int .i64 k) (.string x) (.int .i64 m) (.slice a ks.length cp) 25
        rw [World.size_setCell] at this
        exact this
    case round =>
      obtain ⟨j,n,hj,rfl,hn0,hn5,HN,hPc,hPf',hFr,hb⟩:=hrel
      have hzr:=hb.lt
      obtain ⟨p0,p1,p2,p3,_,_,_,_⟩:=id hb
      by_cases hlt:j<ks.length
      · obtain ⟨g,o,rfl,hg,hat⟩:=hka (by intro e;rw [e] at hlt;simp at hlt)
        have hat':=hat.to (w':=wr) (Q:=fun b=>b<wr.heap.size∧b≠P) (fun b hb=>⟨Nat.lt_of_lt_of_le hb.1 hFr.size,hb.2⟩) (fun b hb o=>World.cell?_of_block (a:=⟨b,o,none⟩) (hFr.block b hb.1 (by simpa using hb.2))) hg
        obtain ⟨v,⟨x0,x1,x2,x3,rfl,c0,c1,c2,c3⟩,hlk'⟩:=hat'.get j hlt
        have hgl:g<wr.heap.size:=Nat.lt_of_lt_of_le hg.1 hFr.size
        obtain ⟨kk,xx,mm,_,he,aa,na,ca,rfl⟩:=hlk'.shape
        injection he with he
        simp only [Array.mk.injEq,List.cons.injEq,and_true] at he
        obtain ⟨rfl,rfl,rfl,rfl⟩:=he
        have hal:=pk_al (.cells #[.int .i64 kk,.string xx,.int .i64 mm,.slice aa na ca] 25) hPc hPf'
        have hC:=ih j hlt _ (wr.alloc (.cells #[.int .i64 kk,.string xx,.int .i64 mm,.slice aa na ca] 25)) n hn0 hn5 (by omega) hal.1 hal.2 (hlk'.to (fun b hb=>⟨by rw [World.size_alloc];omega,hb.2⟩) (fun b hb o=>((Below.refl wr.heap.size wr).alloc (jE _) _).cell (p:=⟨b,o,none⟩) hb.1))
        have HS:Hid (withinL (ks.drop j) (d+1) n=match withinT ks[j] (d+1) n with | none=>none | some c'=>withinL (ks.drop (j+1)) (d+1) c'):=withinL_step hlt _ _
        have HW:Hid (∀ c',withinT ks[j] (d+1) n=some c'→0≤c'∧c'≤500):=fun c' h=>withinT_le hn0 hn5 (by omega) (by omega) h
        clear ih
        generalize hwt:withinT ks[j] (d+1) n=wt at *
        clear hwt
        cases wt with
        | none =>
          have HE:Hid (V=none):=by show _=_;rw [← HN.out,HS.out]
          go_wp2_with (fail)
          refine hC.mono ?_
          rintro e w3 ⟨rfl,h1,h2,h3⟩
          go_wp2
          go_ret
          exact ⟨by rw [HE.out];rfl,fun c' h=>by rw [HE.out] at h;simp at h,h2,(hFr.trans (Fr.al _ _)).trans h3⟩
        | some c' =>
          have HE:Hid (withinL (ks.drop (j+1)) (d+1) c'=V):=by show _=_;rw [← HN.out,HS.out]
          have hcc:=HW.out c' rfl
          go_wp2_with (fail)
          refine hC.mono ?_
          rintro e w3 ⟨rfl,h1,h2,h3⟩
          go_wp2
          go_roundw
          case rel=>exact ⟨j+1,c',by omega,by go_num,hcc.1,hcc.2,HE.out,h1 c' rfl,h2,(hFr.trans (Fr.al _ _)).trans h3,(hb.alloc _).fr h3 (by omega)⟩
          case measure=>simp [intOf];omega
      · have HE:Hid (V=some n):=by
          show _=_
          rw [← HN.out,List.drop_eq_nil_of_le (by omega),withinL]
        go_wp2
        go_ret
        exact ⟨by rw [HE.out];rfl,fun c' h=>by
          rw [HE.out] at h
          simp only [Option.some.injEq] at h
          rw [← h]
          exact hPc,hPf',hFr⟩
termination_by SizeOf.sizeOf t
decreasing_by exact kid_lt hj
theorem osmall (t:Tree) (va:Value) (w:World) (ha:Lies (·<w.heap.size) w t va) :
    Calls Tryz.prog 28 #[va] w fun e w'=>e=.returned (.bool (fitsT t))∧Below w.heap.size w w':=by
  have c24:Tryz.prog.cellsOf 25=4:=by kernel_rfl
  obtain ⟨k,x,m,_,rfl,a,n,c,rfl⟩:=ha.shape
  have hw:=within_fits t
  have hs:((w.alloc (.cells #[.int .i64 k,.string x,.int .i64 m,.slice a n c] 25)).alloc (.cells #[.int .i64 0] 3)).heap.size=w.heap.size+2:=by simp
  have hC:=owithin t (.agg #[.int .i64 k,.string x,.int .i64 m,.slice a n c]) ((w.alloc (.cells #[.int .i64 k,.string x,.int .i64 m,.slice a n c] 25)).alloc (.cells #[.int .i64 0] 3)) (w.heap.size+1) 1 0 (by omega) (by omega) (by omega) (by omega) (by rw [← World.size_alloc w (.cells #[.int .i64 k,.string x,.int .i64 m,.slice a n c] 25)];simp) (by rw [← World.size_alloc w (.cells #[.int .i64 k,.string x,.int .i64 m,.slice a n c] 25)];simp)
    (ha.to (fun b hb=>⟨by omega,by omega⟩) (fun b hb o=>(((Below.refl w.heap.size w).alloc (jE _) _).alloc (by simp) _).cell (p:=⟨b,o,none⟩) hb))
  go_enter Tryz.func28,Tryz.ntmps28
  go_wp2_with (fail)
  refine hC.mono ?_
  rintro e w3 ⟨rfl,h1,h2,h3⟩
  go_wp2
  go_ret
  refine ⟨by rw [← hw];rfl,?_⟩
  have hb:=((Below.refl w.heap.size w).alloc (jE _) (.cells #[.int .i64 k,.string x,.int .i64 m,.slice a n c] 25)).alloc (by simp) (.cells #[.int .i64 0] 3)
  exact ⟨h3.os.trans hb.os,h3.tape.trans hb.tape,h3.output.trans hb.output,Nat.le_trans hb.size h3.size,fun j hj=>(h3.block j (by omega) (by simp;omega)).trans (hb.block j hj)⟩
end Go.Proofs.YtfopddgjdaoidaaGreatDoor.syn
namespace Go.Proofs.YtfopddgjdaoidaaGreatDoor.lexs
theorem step_err {l:List UInt8} {c:Int} (h:stepL l=.fault c):c≠0:=by
  unfold stepL stepB at h
  split at h
  · simp at h
  split at h
  · simp at h
  split at h
  · split at h
    · injection h with h;omega
    · simp at h
  split at h
  · split at h
    · simp at h
    · rename_i hn
      injection h with h
      rw [← h]
      simpa using hn
  split at h
  · injection h with h;omega
  · simp at h
theorem scanL_err:∀ (f:Nat) (l:List UInt8) (i:Nat) (acc:List Tok) (c:Int) (p:Nat),scanL f l i acc=.err c p→c≠0
  | 0,l,i,acc,c,p,h=>by unfold scanL at h;simp at h
  | f+1,[],i,acc,c,p,h=>by unfold scanL at h;simp at h
  | f+1,b :: r,i,acc,c,p,h=>by
    cases hs:stepL (b :: r) with
    | skip n=>rw [scanL_skip hs] at h;exact scanL_err f _ _ _ _ _ h
    | fault c' =>
      rw [scanL_fault hs] at h
      injection h with h _
      rw [← h]
      exact step_err hs
    | tok k n=>rw [scanL_tok hs] at h;exact scanL_err f _ _ _ _ _ h
theorem scan_err {l:List UInt8} {c:Int} {p:Nat} (h:scan l=.err c p):c≠0:=by
  unfold scan at h
  split at h
  · injection h with h _;omega
  · exact scanL_err _ _ _ _ _ _ h
end Go.Proofs.YtfopddgjdaoidaaGreatDoor.lexs
