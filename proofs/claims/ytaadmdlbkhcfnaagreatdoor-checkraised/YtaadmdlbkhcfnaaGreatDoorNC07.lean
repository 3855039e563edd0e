/- The state of the reference's Look: where it lies, and what turns it. -/
import Derived.Laws.EntriesVeiled
import Derived.Test.YtaadmdlbkhcfnaaGreatDoorNC06
import Derived.Lib.SmallJoins
import Derived.Test.YtaadmdlbkhcfnaaGreatDoorNC01
import Derived.WalkSpells
import Derived.RangeFuncNested
import Derived.RangeFuncBound
import Derived.Shelf.RegionOpen
import Derived.OwnWalkIn
import Derived.LoopNIn
import Derived.LoopIn
set_option maxHeartbeats 4000000
set_option linter.unusedVariables false
set_option linter.unusedSimpArgs false
set_option maxRecDepth 100000
namespace Go.Proofs.YtaadmdlbkhcfnaaGreatDoor
namespace syn
open Go.RowKit
open lexs (Tok Fine own_shape)
section
variable {w w' w0:World} {r G B:Nat} {ts:List Tok} {s:St}
theorem za8 {P:Program} {Q:Exit->Act->List Frame->World->Prop} {a:Act} {cs cs':List Frame} {w:World} {y:Code} {v:Value} {d:Nat} {T:TypeId} {pos:String} (h:recoverD cs=some (v,cs')) (hy:y.wpS P Q (a.put (some d) v) cs' w) : ((Code.region 0 #[{ dst:=some d,op:=Op.call { callee:=Callee.builtin Builtin.recover,args:=#[],argTypes:=#[] },type:=T,pos:=pos,after:=#[],guard:=none }] false).seq y).wpS P Q a cs w:=by
 apply wpS_seq;apply wpS_region;simp [wpOpsS,go_sem,h,Exit.thenS];exact hy
theorem zcf {P:Program} {Q:Exit->Act->List Frame->World->Prop} {a:Act} {cs:List Frame} {w:World} {y:Code} {d:Nat} {T:TypeId} {pos:String} (h:recoverD cs=none) (hy:y.wpS P Q (a.put (some d) .nilIface) cs w) : ((Code.region 0 #[{ dst:=some d,op:=Op.call { callee:=Callee.builtin Builtin.recover,args:=#[],argTypes:=#[] },type:=T,pos:=pos,after:=#[],guard:=none }] false).seq y).wpS P Q a cs w:=by
 apply wpS_seq;apply wpS_region;simp [wpOpsS,go_sem,h,Exit.thenS];exact hy
theorem zqt (p e:Addr) (w:World) : CallsD Tryz.prog 37 #[.pointer (some p),.pointer (some e)] .returning w fun e u' w'=>e=.returned (.tuple #[])/\u'=.returning/\w'=w:=by
 have hnn:∀ w:World,(binOp BinOp.eql 20 .nilIface .nilIface).run Tryz.prog w=.ok (.bool true) w:=fun _=>by kernel_rfl
 refine callsD_of_wpS Tryz.func37 rfl fun c₀ cs hu=>?_
 refine zcf (by simp [recoverD,hu]) ?_;simp only [Tryz.ntmps37,List.size_toArray,jd,je,Nat.reduceAdd,Nat.reduceSub,Array.replicate_succ,Array.replicate_zero,List.push_toArray,List.append_toArray,js,jK,Act.put,List.setIfInBounds_toArray,List.set_cons_succ,List.set_cons_zero];refine wpS_of_wp (wp_mono (Q:=fun e a w'=>e=.normal/\a.defers=[]/\w'=w) ?_ ?_);·go_wp2
 ·rintro e a w' ⟨rfl,h1,rfl⟩;exact ⟨h1,_,rfl,.tuple #[],by simp [results,Tryz.results37],rfl,hu,rfl⟩
theorem zo1 (fb eb:Nat) (at_:Int) (w:World) (h0:w.cell? ⟨fb,0,none⟩=some (.int .i64 0)) (h1:w.cell? ⟨fb,1,none⟩=some (.int .i64 0)) (f0:w.frozen? ⟨fb,0,none⟩=false) (f1:w.frozen? ⟨fb,1,none⟩=false) (hfb:fb<w.heap.size) : CallsD Tryz.prog 37 #[.pointer (some ⟨fb,0,none⟩),.pointer (some ⟨eb,0,none⟩)] (.panicking [{ v:=.iface 101 (.agg #[.int .i64 at_]),recovered:=false }]) w fun e u' w'=>e=.returned (.tuple #[])/\u'=.panicking [{ v:=.iface 101 (.agg #[.int .i64 at_]),recovered:=true }]/\w'.cell? ⟨fb,0,none⟩=some (.int .i64 2)/\w'.cell? ⟨fb,1,none⟩=some (.int .i64 at_)/\Fr fb w w':=by
 have c60:=kc101;have c27:=kc28;have hnn:∀ w:World,(binOp BinOp.eql 20 (.iface 101 (.agg #[.int .i64 at_])) .nilIface).run Tryz.prog w=.ok (.bool false) w:=fun _=>by kernel_rfl
 have hta:∀ w:World,(Instr.typeAssert (.iface 101 (.agg #[.int .i64 at_])) 20 101 true).run Tryz.prog w=.ok (.tuple #[.agg #[.int .i64 at_],.bool true]) w:=fun _=>by kernel_rfl
 refine callsD_of_wpS Tryz.func37 rfl fun c₀ cs hu=>?_
 refine za8 (v:=.iface 101 (.agg #[.int .i64 at_])) (cs':={ c₀ with mode:=.panicking [{ v:=.iface 101 (.agg #[.int .i64 at_]),recovered:=true }] } :: cs) (by simp [recoverD,hu]) ?_;simp only [Tryz.ntmps37,List.size_toArray,jd,je,Nat.reduceAdd,Nat.reduceSub,Array.replicate_succ,Array.replicate_zero,List.push_toArray,List.append_toArray,js,jK,Act.put,List.setIfInBounds_toArray,List.set_cons_succ,List.set_cons_zero];refine wpS_of_wp (wp_mono (Q:=fun e a w'=>e=.normal/\a.defers=[]/\w'.cell? ⟨fb,0,none⟩=some (.int .i64 2)/\w'.cell? ⟨fb,1,none⟩=some (.int .i64 at_)/\Fr fb w w') ?_ ?_);·go_wp2;exact (((Fr.refl _ _).set _ _).set _ _).alloc _
 ·rintro e a w' ⟨rfl,h1,h2,h3,h4⟩;exact ⟨h1,_,rfl,.tuple #[],by simp [results,Tryz.results37],rfl,rfl,h2,h3,h4⟩
theorem zpx (fb eb:Nat) (at_:Int) (w:World) (he:w.cell? ⟨eb,0,none⟩=some (.int .i64 at_)) (heb:eb<w.heap.size) (h0:w.cell? ⟨fb,0,none⟩=some (.int .i64 0)) (h1:w.cell? ⟨fb,1,none⟩=some (.int .i64 0)) (f0:w.frozen? ⟨fb,0,none⟩=false) (f1:w.frozen? ⟨fb,1,none⟩=false) (hfb:fb<w.heap.size) : CallsD Tryz.prog 37 #[.pointer (some ⟨fb,0,none⟩),.pointer (some ⟨eb,0,none⟩)] (.panicking [{ v:=.iface 102 (.agg #[]),recovered:=false }]) w fun e u' w'=>e=.returned (.tuple #[])/\u'=.panicking [{ v:=.iface 102 (.agg #[]),recovered:=true }]/\w'.cell? ⟨fb,0,none⟩=some (.int .i64 2)/\w'.cell? ⟨fb,1,none⟩=some (.int .i64 at_)/\Fr fb w w':=by
 have c60:=kc101;have c27:=kc28;have hnn:∀ w:World,(binOp BinOp.eql 20 (.iface 102 (.agg #[])) .nilIface).run Tryz.prog w=.ok (.bool false) w:=fun _=>by kernel_rfl
 have hta:∀ w:World,(Instr.typeAssert (.iface 102 (.agg #[])) 20 101 true).run Tryz.prog w=.ok (.tuple #[.agg #[.int .i64 0],.bool false]) w:=fun _=>by kernel_rfl
 have htb:∀ w:World,(Instr.typeAssert (.iface 102 (.agg #[])) 20 102 true).run Tryz.prog w=.ok (.tuple #[.agg #[],.bool true]) w:=fun _=>by kernel_rfl
 have c62:=kc102;refine callsD_of_wpS Tryz.func37 rfl fun c₀ cs hu=>?_
 refine za8 (v:=.iface 102 (.agg #[])) (cs':={ c₀ with mode:=.panicking [{ v:=.iface 102 (.agg #[]),recovered:=true }] } :: cs) (by simp [recoverD,hu]) ?_;simp only [Tryz.ntmps37,List.size_toArray,jd,je,Nat.reduceAdd,Nat.reduceSub,Array.replicate_succ,Array.replicate_zero,List.push_toArray,List.append_toArray,js,jK,Act.put,List.setIfInBounds_toArray,List.set_cons_succ,List.set_cons_zero];refine wpS_of_wp (wp_mono (Q:=fun e a w'=>e=.normal/\a.defers=[]/\w'.cell? ⟨fb,0,none⟩=some (.int .i64 2)/\w'.cell? ⟨fb,1,none⟩=some (.int .i64 at_)/\Fr fb w w') ?_ ?_);·go_wp2;exact (((Fr.refl _ _).set _ _).set _ _).alloc _
 ·rintro e a w' ⟨rfl,h1,h2,h3,h4⟩;exact ⟨h1,_,rfl,.tuple #[],by simp [results,Tryz.results37],rfl,rfl,h2,h3,h4⟩
theorem Ld.new {L:Value} {T:TypeId} {B0:Nat} (hown:w.ownsRow B0 89 3 L ts.length (lexs.cellsOf ts)) (hlen:ts.length<=3000) (hfine:∀ t∈ts,Fine t) (hO:gR w):∃ G,Ld (w.alloc (.cells #[L] T)) w.heap.size G ts ⟨0,false⟩:=by
 have hlow:5<w.heap.size:=by
  obtain ⟨cs,t,fr,h1,_⟩:=hO;rcases jL 5 w.heap.size with h | h
  ·exact h
  ·rw [Array.getElem?_eq_none h] at h1;simp at h1
 have hO':gR (w.alloc (.cells #[L] T)):=cJ hO (bal _);have hown':=hown.alloc (.cells #[L] T);obtain ⟨a,c,rfl,hm,hg⟩:=own_shape hown
 have hcap:ts.length<=c:=by
  rcases hown.2 with ⟨e1,e2⟩|⟨g,cap,cur,e1,_,_,e2,_⟩
  ·omega
  ·injection e1 with _ _ e3;omega
 rcases Nat.eq_zero_or_pos ts.length with h0 | h0
 ·refine ⟨0,⟨a,c,by simp,by simpa using hcap,fun h=>by dsimp only at h;omega⟩,by simp,fun k hk=>by omega,by omega,hlen,jz _,hfine,rfl,hO',hlow⟩
 ·obtain ⟨g,rfl⟩:=hg h0;have hlt:=hown.lt g rfl;refine ⟨g,⟨some ⟨g,0,none⟩,c,by simp,by simpa using hcap,fun h=>by simp⟩,by simp,fun k hk=>?_,hlt.2,hlen,jz _,hfine,rfl,hO',hlow⟩;exact lexs.tok_cells hown' hk
def dJ (w:World) (n:Nat) (ts:List Tok) (q:Tree × St) (e:Ending) (w':World):Prop :=
 ∃ v,e=.returned (.tuple #[v,.agg #[.int .i64 (if q.2.bad then 2 else 0),.int .i64 (if q.2.bad then dD ts n q.2 else 0)]])/\kC (fun b=>w.heap.size<=b/\b<w'.heap.size) w' (if q.2.bad then fK else q.1) v/\Below w.heap.size w w'
theorem dJ.bad {n:Nat} {q:Tree × St} (hb:q.2.bad=true) (hB:Below w.heap.size w w'):dJ w n ts q (.returned (.tuple #[.agg #[.int .i64 0,.string empty,.int .i64 0,.slice none 0 0],.agg #[.int .i64 2,.int .i64 (dD ts n q.2)]])) w':=by
 unfold dJ;rw [hb];exact ⟨_,rfl,kC.leaf _ _ _ _ _,hB⟩
theorem dJ.good {n:Nat} {q:Tree × St} {v:Value} (hb:q.2.bad=false) (hl:kC (fun b=>w.heap.size<=b/\b<w'.heap.size) w' q.1 v) (hB:Below w.heap.size w w'):dJ w n ts q (.returned (.tuple #[v,.agg #[.int .i64 0,.int .i64 0]])) w':=by
 unfold dJ;rw [hb];exact ⟨_,rfl,hl,hB⟩
theorem yac {L:Value} {B0 n:Nat} (hown:w.ownsRow B0 89 3 L ts.length (lexs.cellsOf ts)) (hlen:ts.length<=3000) (hfine:∀ t∈ts,Fine t) (hO:gR w) {q:Tree × St} (hq:uG ts=some q) : Calls Tryz.prog 19 #[L,.int .i64 n] w (dJ w n ts q):=by
 have c24:=kc25;have c27:=kc28;have c64:=kc104;have hmf:∀ (fn:Fn) (first cap:Array Value) (w:World),(Instr.makeFunc fn first cap).run Tryz.prog w=.ok (.func fn first cap) w:=fun _ _ _ _=>rfl
 obtain ⟨w3,hw3⟩:∃ w3,w3=((w.alloc (.cells #[.int .i64 n] 3)).alloc (.cells #[.int .i64 0,.string empty,.int .i64 0,.slice none 0 0] 25)).alloc (.cells #[.int .i64 0,.int .i64 0] 28):=⟨_,rfl⟩
 have hs3:w3.heap.size=w.heap.size+3:=by rw [hw3];simp
 have hbel:Below w.heap.size w w3:=by rw [hw3];exact ((bal _).alloc (by simp) _).alloc (by simp;omega) _
 obtain ⟨G,hL⟩:=Ld.new (w:=w3) (L:=L) (T:=104) (by rw [hw3];exact ((hown.alloc _).alloc _).alloc _) hlen hfine (cJ hO hbel);have hM:=zxm hL hq;rw [hs3] at hM hL;obtain ⟨a,c,rfl,hm,_⟩:=own_shape hown;rw [hw3] at hM hL;go_enter_defers Tryz.func19,Tryz.ntmps19;obtain ⟨w4,hw4⟩:∃ w4,w4=(((w.alloc (.cells #[.int .i64 n] 3)).alloc (.cells #[.int .i64 0,.string empty,.int .i64 0,.slice none 0 0] 25)).alloc (.cells #[.int .i64 0,.int .i64 0] 28)).alloc (.cells #[.slice a ts.length c] 104):=⟨_,rfl⟩
 rw [<- hw4] at hM hL;have hs4:w4.heap.size=w.heap.size+4:=by rw [hw4];simp
 have hb4:Below w.heap.size w w4:=by rw [hw4];exact (((bal _).alloc (by simp) _).alloc (by simp;omega) _).alloc (by simp;omega) _
 have k0:w4.cell? ⟨w.heap.size,0,none⟩=some (.int .i64 n):=by
  have a0:(w.alloc (.cells #[.int .i64 n] 3)).cell? ⟨w.heap.size,0,none⟩=some (.int .i64 n):=by simp
  rw [hw4];exact ((((Below.refl (w.alloc (.cells #[.int .i64 n] 3)).heap.size (w.alloc (.cells #[.int .i64 n] 3))).alloc (jE _) _).alloc (by simp) _).alloc (by simp) _).cell (p:=⟨w.heap.size,0,none⟩) (by simp) |>.trans a0
 have k2:Box4 w4 (w.heap.size+1) (.int .i64 0) (.string empty) (.int .i64 0) (.slice none 0 0):=by
  have:=((Box4.new (w.alloc (.cells #[.int .i64 n] 3)) (.int .i64 0) (.string empty) (.int .i64 0) (.slice none 0 0) 25).alloc (.cells #[.int .i64 0,.int .i64 0] 28)).alloc (.cells #[.slice a ts.length c] 104);rw [jO] at this;rw [hw4];exact this
 have k1:w4.cell? ⟨w.heap.size+2,0,none⟩=some (.int .i64 0)/\w4.cell? ⟨w.heap.size+2,1,none⟩=some (.int .i64 0)/\w4.frozen? ⟨w.heap.size+2,0,none⟩=false/\w4.frozen? ⟨w.heap.size+2,1,none⟩=false:=by
  have hs2:((w.alloc (.cells #[.int .i64 n] 3)).alloc (.cells #[.int .i64 0,.string empty,.int .i64 0,.slice none 0 0] 25)).heap.size=w.heap.size+2:=by simp
  generalize (w.alloc (.cells #[.int .i64 n] 3)).alloc (.cells #[.int .i64 0,.string empty,.int .i64 0,.slice none 0 0] 25)=wz at *;rw [<- hs2];have hb:=((Below.refl (wz.alloc (.cells #[.int .i64 0,.int .i64 0] 28)).heap.size (wz.alloc (.cells #[.int .i64 0,.int .i64 0] 28))).alloc (jE _) (.cells #[.slice a ts.length c] 104)).block wz.heap.size (by simp);rw [hw4];refine ⟨(jM (a:=⟨wz.heap.size,0,none⟩) hb).trans (by simp),(jM (a:=⟨wz.heap.size,1,none⟩) hb).trans (by simp),(jN (a:=⟨wz.heap.size,0,none⟩) hb).trans (by simp),(jN (a:=⟨wz.heap.size,1,none⟩) hb).trans (by simp)⟩
 go_wp2_with (fail);rw [hw4] at hM;refine hM.mono ?_;rw [<- hw4];rintro e w5 (⟨hb,rfl,hF⟩|⟨hb,v,rfl,hl,hL5,hF⟩)
 ·have hz5:=hF.size;have hB2:=hF.block (w.heap.size+2) (by omega) (by simp);have hBe:=hF.block w.heap.size (by omega) (by simp);have hB1:=k2.fr hF (by omega);have e0:=(jM (a:=⟨w.heap.size+2,0,none⟩) hB2).trans k1.1;have e1:=(jM (a:=⟨w.heap.size+2,1,none⟩) hB2).trans k1.2.1;have e2:=(jN (a:=⟨w.heap.size+2,0,none⟩) hB2).trans k1.2.2.1;have e3:=(jN (a:=⟨w.heap.size+2,1,none⟩) hB2).trans k1.2.2.2;have e4:=(jM (a:=⟨w.heap.size,0,none⟩) hBe).trans k0
  have key:CallsD Tryz.prog 37 #[.pointer (some ⟨w.heap.size+2,0,none⟩),.pointer (some ⟨w.heap.size,0,none⟩)] (.panicking (Pan ts q.2)) w5 fun e u' w'=>e=.returned (.tuple #[])/\u'=.panicking [{ v:=lost ts q.2,recovered:=true }]/\w'.cell? ⟨w.heap.size+2,0,none⟩=some (.int .i64 2)/\w'.cell? ⟨w.heap.size+2,1,none⟩=some (.int .i64 (dD ts n q.2))/\Fr (w.heap.size+2) w5 w':=by
   unfold Pan lost dD
   cases ht:ts[q.2.i]? with
   | none=>exact zpx _ _ _ _ e4 (by omega) e0 e1 e2 e3 (by omega)
   | some t=>exact zo1 _ _ _ _ e0 e1 e2 e3 (by omega)
  have HK:Hid (Below w.heap.size w w5):=⟨hF.os.trans hb4.os,hF.tape.trans hb4.tape,hF.output.trans hb4.output,jp hb4.size hF.size,fun j hj=>(hF.block j (by omega) (by simp;omega)).trans (hb4.block j hj)⟩
  go_wp2;refine leaves_cons (f:=37) (args:=#[.pointer (some ⟨w.heap.size+2,0,none⟩),.pointer (some ⟨w.heap.size,0,none⟩)]) (by simp) (by simp [go_sem]) ?_;refine key.mono ?_;rintro e u' w6 ⟨rfl,rfl,c0,c1,hF6⟩;obtain ⟨q0,q1,q2,q3,_,_,_,_⟩:=hB1.fr hF6 (by omega);have HK6:Hid (Below w.heap.size w w6):=⟨hF6.os.trans HK.out.os,hF6.tape.trans HK.out.tape,hF6.output.trans HK.out.output,jp HK.out.size hF6.size,fun j hj=>(hF6.block j (by omega) (by simp;omega)).trans (HK.out.block j hj)⟩
  refine ⟨.tuple #[.agg #[.int .i64 0,.string empty,.int .i64 0,.slice none 0 0],.agg #[.int .i64 2,.int .i64 (dD ts n q.2)]],?_,dJ.bad hb HK6.out⟩;simp [results,Tryz.results19,go_sem,q0,q1,q2,q3,c0,c1,empty]
 ·obtain ⟨k,x,m,_,rfl,al,nn,cc,rfl⟩:=hl.shape;have hz5:=hF.size;have hB2:=hF.block (w.heap.size+2) (by omega) (by simp);have hB1:=k2.fr hF (by omega);have e0:=(jM (a:=⟨w.heap.size+2,0,none⟩) hB2).trans k1.1;have e1:=(jM (a:=⟨w.heap.size+2,1,none⟩) hB2).trans k1.2.1;have e2:=(jN (a:=⟨w.heap.size+2,0,none⟩) hB2).trans k1.2.2.1;have e3:=(jN (a:=⟨w.heap.size+2,1,none⟩) hB2).trans k1.2.2.2;obtain ⟨q0,q1,q2,q3,t0,t1,t2,t3⟩:=id hB1;have HK:Hid (Below w.heap.size w w5):=⟨hF.os.trans hb4.os,hF.tape.trans hb4.tape,hF.output.trans hb4.output,jp hb4.size hF.size,fun j hj=>(hF.block j (by omega) (by simp;omega)).trans (hb4.block j hj)⟩
  go_wp2;refine leaves_cons (f:=37) (args:=#[.pointer (some ⟨w.heap.size+2,0,none⟩),.pointer (some ⟨w.heap.size,0,none⟩)]) (by simp) (by simp [go_sem]) ?_;refine (zqt _ _ _).mono ?_;rintro e u' w6 ⟨rfl,rfl,hw6⟩;subst hw6;have hput:=Fr.put w5 (w.heap.size+1) (.int .i64 k) (.string x) (.int .i64 m) (.slice al nn cc);have hl1:=hl.frP (x:=w.heap.size+1) hput (fun b hb=>⟨hb.2,by omega⟩) (fun b hb=>hb);refine ⟨.tuple #[.agg #[.int .i64 k,.string x,.int .i64 m,.slice al nn cc],.agg #[.int .i64 0,.int .i64 0]],?_,dJ.good hb ?_ ?_⟩;·simp [results,Tryz.results19,go_sem,q0,q1,q2,q3,e0,e1]
  ·exact hl1.frP (x:=w.heap.size+2) (((Fr.refl _ _).set 0 _).set 1 _) (fun b hb=>⟨by simpa using hb.2,by omega⟩) (fun b hb=>⟨by omega,by simpa using hb.2⟩)
  ·exact (((((HK.out.setCell (by simp) _).setCell (by simp) _).setCell (by simp) _).setCell (by simp) _).setCell (by simp;omega) _).setCell (by simp;omega) _
end
end syn
namespace syn
open Go.RowKit
def zn0 (w:World) (P:Nat) (o:Option Int) (e:Ending) (w':World):Prop :=
 e=.returned (.bool o.isSome)/\(∀ c',o=some c'->w'.cell? ⟨P,0,none⟩=some (.int .i64 c'))/\w'.frozen? ⟨P,0,none⟩=false/\Fr P w w'
theorem zo7 {ks:List Tree} {j:Nat} (hj:j<ks.length) (d c:Int):uF (ks.drop j) d c=match uY ks[j] d c with | none=>none | some c'=>uF (ks.drop (j+1)) d c':=by
 rw [List.drop_eq_getElem_cons hj,uF]
 all_goals (cases uY ks[j] d c<;>rfl)
theorem zqi {t:Tree} {d c c':Int} (h1:0<=c) (h2:c<=500) (h3:1<=d) (h4:d<=17) (h:uY t d c=some c'):0<=c'/\c'<=500:=by
 rw [cO t d c h1 h2 h3 h4] at h;have:=kR t;split at h;·simp only [jh] at h;omega
 ·simp at h
theorem zdu {w:World} {P:Nat} {u v:Value} {o:Obj} (hc:w.cell? ⟨P,0,none⟩=some u) (hf:w.frozen? ⟨P,0,none⟩=false):((w.setCell ⟨P,0,none⟩ v).alloc o).cell? ⟨P,0,none⟩=some v/\((w.setCell ⟨P,0,none⟩ v).alloc o).frozen? ⟨P,0,none⟩=false:=by
 have hl:P<(w.setCell ⟨P,0,none⟩ v).heap.size:=by rw [jQ];exact jR w ⟨P,0,none⟩ hc
 have hb:=((Below.refl (w.setCell ⟨P,0,none⟩ v).heap.size (w.setCell ⟨P,0,none⟩ v)).alloc (jE _) o).block P hl;exact ⟨(jM (a:=⟨P,0,none⟩) hb).trans (jS _ _ _ hc),(jN (a:=⟨P,0,none⟩) hb).trans (by simp [hf])⟩
theorem zz8 {w:World} {P:Nat} {u:Value} (o:Obj) (hc:w.cell? ⟨P,0,none⟩=some u) (hf:w.frozen? ⟨P,0,none⟩=false):(w.alloc o).cell? ⟨P,0,none⟩=some u/\(w.alloc o).frozen? ⟨P,0,none⟩=false:=by
 have hb:=((Below.refl w.heap.size w).alloc (jE _) o).block P (jR w ⟨P,0,none⟩ hc);exact ⟨(jM (a:=⟨P,0,none⟩) hb).trans hc,(jN (a:=⟨P,0,none⟩) hb).trans hf⟩
theorem zl0 (t:Tree) (va:Value) (w:World) (P:Nat) (d c:Int) (hc0:0<=c) (hc5:c<=500) (hd1:1<=d) (hd17:d<=17) (hP:w.cell? ⟨P,0,none⟩=some (.int .i64 c)) (hPf:w.frozen? ⟨P,0,none⟩=false) (ha:kC (fun b=>b<w.heap.size/\b≠P) w t va):Calls Tryz.prog 22 #[va,.int .i64 d,.pointer (some ⟨P,0,none⟩)] w (zn0 w P (uY t d c)):=by
 have c24:=kc25;have hPl:P<w.heap.size:=jR w ⟨P,0,none⟩ hP
 match t,ha with
 | .node k x m ks,ha =>
  have ih:∀ (j:Nat) (hj:j<ks.length) (va:Value) (w:World) (c:Int),0<=c->c<=500->d+1<=17->w.cell? ⟨P,0,none⟩=some (.int .i64 c)->w.frozen? ⟨P,0,none⟩=false->kC (fun b=>b<w.heap.size/\b≠P) w ks[j] va ->
    Calls Tryz.prog 22 #[va,.int .i64 (d+1),.pointer (some ⟨P,0,none⟩)] w (zn0 w P (uY ks[j] (d+1) c)):=fun j hj va w c h1 h2 h3 h4 h5 h6=>zl0 ks[j] va w P (d+1) c h1 h2 (by omega) h3 h4 h5 h6
  unfold kC at ha;obtain ⟨a,cp,rfl,hlk,hka⟩:=ha;have hB0:=Box4.new w (.int .i64 k) (.string x) (.int .i64 m) (.slice a ks.length cp) 25;unfold uY;by_cases h16:16<d;·rw [jv (.inl h16)];go_enter Tryz.func22,Tryz.ntmps22;go_wp2;go_ret;exact ⟨rfl,fun c' h=>by simp at h,(zdu hP hPf).2,((Fr.refl _ _).set _ _).alloc _⟩
  by_cases h500:500<c+1;·rw [jv (.inr h500)];go_enter Tryz.func22,Tryz.ntmps22;go_wp2;go_ret;exact ⟨rfl,fun c' h=>by simp at h,(zdu hP hPf).2,((Fr.refl _ _).set _ _).alloc _⟩
  rw [ju (by omega)];obtain ⟨V,hV⟩:∃ V,V=uF ks (d+1) (c+1):=⟨_,rfl⟩
  rw [<- hV];have HV:Hid (uF (ks.drop 0) (d+1) (c+1)=V):=hV.symm;clear hV;have hlk':(ks.length:Int)<=4611686018427387904:=by omega
  go_enter Tryz.func22,Tryz.ntmps22;go_wp2;go_loopw [25] (fun i wr=>∃ (j:Nat) (n:Int),j<=ks.length/\i=.int .i64 j/\0<=n/\n<=500/\Hid (uF (ks.drop j) (d+1) n=V)/\wr.cell? ⟨P,0,none⟩=some (.int .i64 n)/\wr.frozen? ⟨P,0,none⟩=false/\Fr P w wr/\Box4 wr w.heap.size (.int .i64 k) (.string x) (.int .i64 m) (.slice a ks.length cp)) (fun i _=>ks.length - (intOf i).toNat)
  case atStart =>
   refine ⟨0,c+1,jz _,rfl,by omega,by omega,HV.out,?_,?_,?_,?_⟩;·exact (zdu hP hPf).1
   ·exact (zdu hP hPf).2
   ·exact ((Fr.refl _ _).set _ _).alloc _
   ·have:=Box4.new (w.setCell ⟨P,0,none⟩ (.int .i64 (c+1))) (.int .i64 k) (.string x) (.int .i64 m) (.slice a ks.length cp) 25;rw [jQ] at this;exact this
  case round =>
   obtain ⟨j,n,hj,rfl,hn0,hn5,HN,hPc,hPf',hFr,hb⟩:=hrel;have hzr:=hb.lt;obtain ⟨p0,p1,p2,p3,_,_,_,_⟩:=id hb;by_cases hlt:j<ks.length
   ·obtain ⟨g,o,rfl,hg,hat⟩:=hka (by intro e;rw [e] at hlt;simp at hlt);have hat':=hat.to (w':=wr) (Q:=fun b=>b<wr.heap.size/\b≠P) (fun b hb=>⟨jo hb.1 hFr.size,hb.2⟩) (fun b hb o=>jM (a:=⟨b,o,none⟩) (hFr.block b hb.1 (by simpa using hb.2))) hg;obtain ⟨v,⟨x0,x1,x2,x3,rfl,c0,c1,c2,c3⟩,hlk'⟩:=hat'.get j hlt;have hgl:g<wr.heap.size:=jo hg.1 hFr.size;obtain ⟨kk,xx,mm,_,he,aa,na,ca,rfl⟩:=hlk'.shape;injection he with he;simp only [Array.mk.injEq,jq,and_true] at he;obtain ⟨rfl,rfl,rfl,rfl⟩:=he;have hal:=zz8 (.cells #[.int .i64 kk,.string xx,.int .i64 mm,.slice aa na ca] 25) hPc hPf';have hC:=ih j hlt _ (wr.alloc (.cells #[.int .i64 kk,.string xx,.int .i64 mm,.slice aa na ca] 25)) n hn0 hn5 (by omega) hal.1 hal.2 (hlk'.to (fun b hb=>⟨by rw [jO];omega,hb.2⟩) (fun b hb o=>((Below.refl wr.heap.size wr).alloc (jE _) _).cell (p:=⟨b,o,none⟩) hb.1));have HS:Hid (uF (ks.drop j) (d+1) n=match uY ks[j] (d+1) n with | none=>none | some c'=>uF (ks.drop (j+1)) (d+1) c'):=zo7 hlt _ _;have HW:Hid (∀ c',uY ks[j] (d+1) n=some c'->0<=c'/\c'<=500):=fun c' h=>zqi hn0 hn5 (by omega) (by omega) h
    clear ih;generalize hwt:uY ks[j] (d+1) n=wt at *;clear hwt
    cases wt with
    | none =>
     have HE:Hid (V=none):=by show _=_;rw [<- HN.out,HS.out]
     go_wp2_with (fail);refine hC.mono ?_;rintro e w3 ⟨rfl,h1,h2,h3⟩;go_wp2;go_ret
     exact ⟨by rw [HE.out];rfl,fun c' h=>by rw [HE.out] at h;simp at h,h2,(hFr.trans (Fr.al _ _)).trans h3⟩
    | some c' =>
     have HE:Hid (uF (ks.drop (j+1)) (d+1) c'=V):=by show _=_;rw [<- HN.out,HS.out]
     have hcc:=HW.out c' rfl;go_wp2_with (fail);refine hC.mono ?_;rintro e w3 ⟨rfl,h1,h2,h3⟩;go_wp2;go_roundw
     case rel=>exact ⟨j+1,c',by omega,by go_num,hcc.1,hcc.2,HE.out,h1 c' rfl,h2,(hFr.trans (Fr.al _ _)).trans h3,(hb.alloc _).fr h3 (by omega)⟩
     case measure=>simp [intOf];omega
   ·have HE:Hid (V=some n):=by
     show _=_;rw [<- HN.out,List.drop_eq_nil_of_le (by omega),uF]
    go_wp2;go_ret
    exact ⟨by rw [HE.out];rfl,fun c' h=>by
     rw [HE.out] at h;simp only [jh] at h;rw [<- h]
     exact hPc,hPf',hFr⟩
termination_by SizeOf.sizeOf t
decreasing_by exact zdt hj
theorem zmz (t:Tree) (va:Value) (w:World) (ha:kC (·<w.heap.size) w t va) : Calls Tryz.prog 11 #[va] w fun e w'=>e=.returned (.bool (vC t))/\Below w.heap.size w w':=by
 have c24:=kc25;obtain ⟨k,x,m,_,rfl,a,n,c,rfl⟩:=ha.shape;have hw:=zba t;have hs:((w.alloc (.cells #[.int .i64 k,.string x,.int .i64 m,.slice a n c] 25)).alloc (.cells #[.int .i64 0] 3)).heap.size=w.heap.size+2:=by simp
 have hC:=zl0 t (.agg #[.int .i64 k,.string x,.int .i64 m,.slice a n c]) ((w.alloc (.cells #[.int .i64 k,.string x,.int .i64 m,.slice a n c] 25)).alloc (.cells #[.int .i64 0] 3)) (w.heap.size+1) 1 0 (by omega) (by omega) (by omega) (by omega) (by rw [<- jO w (.cells #[.int .i64 k,.string x,.int .i64 m,.slice a n c] 25)];simp) (by rw [<- jO w (.cells #[.int .i64 k,.string x,.int .i64 m,.slice a n c] 25)];simp)
  (ha.to (fun b hb=>⟨by omega,by omega⟩) (fun b hb o=>(((Below.refl w.heap.size w).alloc (jE _) _).alloc (by simp) _).cell (p:=⟨b,o,none⟩) hb))
 go_enter Tryz.func11,Tryz.ntmps11;go_wp2_with (fail);refine hC.mono ?_;rintro e w3 ⟨rfl,h1,h2,h3⟩;go_wp2;go_ret;refine ⟨by rw [<- hw];rfl,?_⟩;have hb:=((Below.refl w.heap.size w).alloc (jE _) (.cells #[.int .i64 k,.string x,.int .i64 m,.slice a n c] 25)).alloc (by simp) (.cells #[.int .i64 0] 3);exact ⟨h3.os.trans hb.os,h3.tape.trans hb.tape,h3.output.trans hb.output,jp hb.size h3.size,fun j hj=>(h3.block j (by omega) (by simp;omega)).trans (hb.block j hj)⟩
end syn
namespace syn
open Go.RowKit
open lexs (Tok Fine own_shape qP)
def dM (w:World) (o:Out) (e:Ending) (w':World):Prop :=
 ∃ v,e=.returned (.tuple #[v,.agg #[.int .i64 o.code,.int .i64 o.place]])/\kC (fun b=>w.heap.size<=b/\b<w'.heap.size) w' o.tree v/\Below w.heap.size w w'
def zyi (H:World->Prop) (F:Nat) (x:ByteArray):Prop:=∀ w:World,H w->Calls Tryz.prog F #[.string x] w (dM w (kM x))
def cX (w:World):Prop:=qP w/\gR w
structure Box2 (w:World) (N:Nat) (x0 x1:Value):Prop where
 c0:w.cell? ⟨N,0,none⟩=some x0
 c1:w.cell? ⟨N,1,none⟩=some x1
 f0:w.frozen? ⟨N,0,none⟩=false
 f1:w.frozen? ⟨N,1,none⟩=false
theorem Box2.new (w:World) (x0 x1:Value) (T:TypeId):Box2 (w.alloc (.cells #[x0,x1] T)) w.heap.size x0 x1:=by constructor<;>simp
theorem Box2.lt {w:World} {N:Nat} {x0 x1:Value} (h:Box2 w N x0 x1):N<w.heap.size:=jR w ⟨N,0,none⟩ h.c0
theorem Box2.fr {w w':World} {r N:Nat} {x0 x1:Value} (h:Box2 w N x0 x1) (hF:Fr r w w') (hN:N≠r):Box2 w' N x0 x1:=by
 have hb:=hF.block N h.lt (by simpa using hN);exact ⟨(jM (a:=⟨N,0,none⟩) hb).trans h.c0,(jM (a:=⟨N,1,none⟩) hb).trans h.c1,(jN (a:=⟨N,0,none⟩) hb).trans h.f0,(jN (a:=⟨N,1,none⟩) hb).trans h.f1⟩
theorem Box2.below {w w':World} {N:Nat} {x0 x1:Value} (h:Box2 w N x0 x1) (hb:Below w.heap.size w w'):Box2 w' N x0 x1:=h.fr (r:=N+1) (Fr.below hb) (by omega)
theorem Box2.alloc {w:World} {N:Nat} {x0 x1:Value} (h:Box2 w N x0 x1) (o:Obj):Box2 (w.alloc o) N x0 x1:=h.below (bal o)
theorem Box4.below {w w':World} {N:Nat} {x0 x1 x2 x3:Value} (h:Box4 w N x0 x1 x2 x3) (hb:Below w.heap.size w w'):Box4 w' N x0 x1 x2 x3:=h.fr (r:=N+1) (Fr.below hb) (by omega)
theorem dM.none {w w':World} {c p:Int} (hb:Below w.heap.size w w'):dM w ⟨fK,c,p⟩ (.returned (.tuple #[.agg #[.int .i64 0,.string empty,.int .i64 0,.slice none 0 0],.agg #[.int .i64 c,.int .i64 p]])) w' :=
 ⟨_,rfl,kC.leaf _ _ _ _ _,hb⟩
theorem zdy {w w1:World} (h:Below w.heap.size w w1) (a0 a1 a2 a3 a4 a5:Value):Below w.heap.size w ((((((w1.setCell ⟨w.heap.size,0,none⟩ a0).setCell ⟨w.heap.size,1,none⟩ a1).setCell ⟨w.heap.size,2,none⟩ a2).setCell ⟨w.heap.size,3,none⟩ a3).setCell ⟨w.heap.size+1,0,none⟩ a4).setCell ⟨w.heap.size+1,1,none⟩ a5) :=
 (((((h.setCell (jE _) _).setCell (jE _) _).setCell (jE _) _).setCell (jE _) _).setCell (Nat.le_succ _) _).setCell (Nat.le_succ _) _
theorem zgt (x:ByteArray):zyi cX 9 x:=by
 intro w ⟨hE,hO⟩;have c24:=kc25;have c27:=kc28;have hbel:Below w.heap.size w ((w.alloc (.cells #[.int .i64 0,.string empty,.int .i64 0,.slice none 0 0] 25)).alloc (.cells #[.int .i64 0,.int .i64 0] 28)):=(bal _).alloc (by simp) _;have hS:=lexs.scan_own x _ (lexs.hasErr_below hE hbel);have hb1:=(Box4.new w (.int .i64 0) (.string empty) (.int .i64 0) (.slice none 0 0) 25).alloc (.cells #[.int .i64 0,.int .i64 0] 28);have hb2:=Box2.new (w.alloc (.cells #[.int .i64 0,.string empty,.int .i64 0,.slice none 0 0] 25)) (.int .i64 0) (.int .i64 0) 28;rw [jO] at hb2;unfold kM
 cases hsc:lexs.scan x.data.toList with
 | err c p =>
  rw [hsc] at hS;have hc:=lexs.scan_err hsc;have hcb:(c != 0)=true:=by simpa using hc
  simp only [lexs.Res.code,lexs.Res.place,lexs.Res.toks] at hS;go_enter Tryz.func9,Tryz.ntmps9;go_wp2_with (fail);refine hS.mono ?_;rintro e w1 ⟨v,rfl,hown,hbe⟩;have hB1:=hb1.below hbe;have hB2:=hb2.below hbe;obtain ⟨q0,q1,q2,q3,t0,t1,t2,t3⟩:=id hB1;obtain ⟨r0,r1,u0,u1⟩:=id hB2;have z1:w.heap.size+1<w1.heap.size:=hB2.lt;have z0:w.heap.size<w1.heap.size:=hB1.lt;have hbw:Below w.heap.size w w1:=hbel.trans (hbe.mono (by simp;omega));go_wp2;go_region
  all_goals
   go_wp2;refine jT (v:=.tuple #[.agg #[.int .i64 0,.string empty,.int .i64 0,.slice none 0 0],.agg #[.int .i64 c,.int .i64 p]]) (by simp [results,Tryz.results9,go_sem,q0,q1,q2,q3,r0,r1,z0,z1,empty]) rfl (dM.none ?_)
   exact below_drewN ((zdy hbw _ _ _ _ _ _).alloc (by simp;omega) _) 1
 | ok ts =>
  rw [hsc] at hS;simp only [lexs.Res.code,lexs.Res.place,lexs.Res.toks] at hS;obtain ⟨pp,dd,_,_,hmod⟩:=zed (lexs.scan_len hsc);simp only [hmod];have hfine:=lexs.scan_fine hsc;have hlen:=lexs.scan_len hsc;generalize (Tree.node 1 (fJ ts) 0 dd.1,dd.2)=q at *;go_enter Tryz.func9,Tryz.ntmps9;go_wp2_with (fail);refine hS.mono ?_;rintro e w1 ⟨v,rfl,hown,hbe⟩;have hB1:=hb1.below hbe;have hB2:=hb2.below hbe;have z1:w.heap.size+1<w1.heap.size:=hB2.lt;have z0:w.heap.size<w1.heap.size:=hB1.lt;have hbw1:Below w.heap.size w w1:=hbel.trans (hbe.mono (by simp;omega));have hbx:=Box2.new w1 (.int .i64 0) (.int .i64 0) 28;have hR:=yac (n:=x.size) (hown.alloc (.cells #[.int .i64 0,.int .i64 0] 28)) hlen hfine (cJ hO (hbw1.alloc (by omega) (.cells #[.int .i64 0,.int .i64 0] 28))) hmod;unfold gB;cases hbad:q.2.bad
  case true =>
   go_wp2_with (fail);refine hR.mono ?_;rintro e w2 ⟨v2,rfl,hl2,hbe2⟩;rw [hbad] at hl2 |-;simp only [if_true] at hl2 |-;obtain ⟨kc,yc,mc,_,rfl,ac,nc,cc,rfl⟩:=hl2.shape;have hB12:=(hB1.alloc (.cells #[.int .i64 0,.int .i64 0] 28)).below hbe2;have hB22:=(hB2.alloc (.cells #[.int .i64 0,.int .i64 0] 28)).below hbe2;have hB52:=hbx.below hbe2;obtain ⟨q0,q1,q2,q3,t0,t1,t2,t3⟩:=id hB12;obtain ⟨r0,r1,u0,u1⟩:=id hB22;obtain ⟨s0,s1,y0,y1⟩:=id hB52;have y1':w.heap.size+1<w2.heap.size:=hB22.lt;have y0':w.heap.size<w2.heap.size:=hB12.lt;have y5':w1.heap.size<w2.heap.size:=hB52.lt;have hbw:Below w.heap.size w w2:=(hbw1.alloc (by omega) _).trans (hbe2.mono (by simp;omega));go_wp2;go_region
   all_goals
    go_wp2;refine jT (v:=.tuple #[.agg #[.int .i64 0,.string empty,.int .i64 0,.slice none 0 0],.agg #[.int .i64 2,.int .i64 (dD ts x.size q.2)]]) (by simp [results,Tryz.results9,go_sem,q0,q1,q2,q3,r0,r1,y0',y1',y5',empty]) rfl ?_;have ej:gB ts x.size q=⟨fK,2,dD ts x.size q.2⟩:=by unfold gB;rw [hbad];rfl
    rw [ej];refine dM.none ?_;have hbz:Below w.heap.size w ((w2.setCell ⟨w1.heap.size,0,none⟩ (.int .i64 2)).setCell ⟨w1.heap.size,1,none⟩ (.int .i64 (dD ts x.size q.2))):=(hbw.setCell (by simp;omega) _).setCell (by simp;omega) _;exact below_drewN ((zdy hbz _ _ _ _ _ _).alloc (by simp;omega) _) 1
  case false =>
   go_wp2_with (fail);refine hR.mono ?_;rintro e w2 ⟨v2,rfl,hl2,hbe2⟩;rw [hbad] at hl2 |-;simp only [jr,if_false] at hl2 |-;obtain ⟨kc,yc,mc,_,rfl,ac,nc,cc,rfl⟩:=hl2.shape;have hB12:=(hB1.alloc (.cells #[.int .i64 0,.int .i64 0] 28)).below hbe2;have hB22:=(hB2.alloc (.cells #[.int .i64 0,.int .i64 0] 28)).below hbe2;have hB52:=hbx.below hbe2;obtain ⟨s0,s1,y0,y1⟩:=id hB52;have y1':w.heap.size+1<w2.heap.size:=hB22.lt;have y0':w.heap.size<w2.heap.size:=hB12.lt;have y5':w1.heap.size<w2.heap.size:=hB52.lt;have hbw:Below w.heap.size w w2:=(hbw1.alloc (by omega) _).trans (hbe2.mono (by simp;omega));have hbz:Below w.heap.size w ((w2.setCell ⟨w1.heap.size,0,none⟩ (.int .i64 0)).setCell ⟨w1.heap.size,1,none⟩ (.int .i64 0)):=(hbw.setCell (by simp;omega) _).setCell (by simp;omega) _;have hFz:Fr w1.heap.size w2 ((w2.setCell ⟨w1.heap.size,0,none⟩ (.int .i64 0)).setCell ⟨w1.heap.size,1,none⟩ (.int .i64 0)):=((Fr.refl _ _).set _ _).set _ _;have hlz:=hl2.frP (x:=w1.heap.size) hFz (Q:=fun b=>w1.heap.size<b/\b<w2.heap.size) (fun b hb=>⟨hb.2,by have:=hb.1;rw [jO] at this;omega⟩) (fun b hb=>⟨by have:=hb.1;rw [jO] at this;omega,hb.2⟩);have hB1z:=hB12.fr hFz (by omega);have hB2z:=hB22.fr hFz (by omega);have hsz:((w2.setCell ⟨w1.heap.size,0,none⟩ (.int .i64 0)).setCell ⟨w1.heap.size,1,none⟩ (.int .i64 0)).heap.size=w2.heap.size:=by simp
   go_wp2_with (fail);generalize (w2.setCell ⟨w1.heap.size,0,none⟩ (.int .i64 0)).setCell ⟨w1.heap.size,1,none⟩ (.int .i64 0)=wz at *;have hly:=hlz.frP (x:=wz.heap.size) (Fr.al wz (.cells #[.int .i64 kc,.string yc,.int .i64 mc,.slice ac nc cc] 25)) (Q:=fun b=>w1.heap.size<b/\b<(wz.alloc (.cells #[.int .i64 kc,.string yc,.int .i64 mc,.slice ac nc cc] 25)).heap.size) (fun b hb=>⟨by omega,by omega⟩) (fun b hb=>⟨hb.1,by rw [jO];omega⟩);have hbn:=Box4.new wz (.int .i64 kc) (.string yc) (.int .i64 mc) (.slice ac nc cc) 25;refine (zmz q.1 _ _ (hly.to (fun b hb=>hb.2) (fun _ _ _=>rfl))).mono ?_;rintro e w3 ⟨rfl,hb3⟩;have hbw3:Below w.heap.size w w3:=(hbz.alloc (by omega) _).trans (hb3.mono (by simp;omega));obtain ⟨q0,q1,q2,q3,t0,t1,t2,t3⟩:=(hB1z.alloc (.cells #[.int .i64 kc,.string yc,.int .i64 mc,.slice ac nc cc] 25)).below hb3;obtain ⟨r0,r1,u0,u1⟩:=(hB2z.alloc (.cells #[.int .i64 kc,.string yc,.int .i64 mc,.slice ac nc cc] 25)).below hb3;obtain ⟨n0,n1,n2,n3,_,_,_,_⟩:=hbn.below hb3;rw [hsz] at n0 n1 n2 n3;have hl3:=hly.frP (x:=w.heap.size) (Fr.below hb3) (Q:=fun b=>w1.heap.size<b/\b<w3.heap.size) (fun b hb=>⟨hb.2,by omega⟩) (fun b hb=>⟨hb.1,jo hb.2 hb3.size⟩);cases hfit:vC q.1
   case true =>
    go_wp2;refine jT (v:=.tuple #[.agg #[.int .i64 kc,.string yc,.int .i64 mc,.slice ac nc cc],.agg #[.int .i64 0,.int .i64 0]]) (by simp [results,Tryz.results9,go_sem,q0,q1,q2,q3,r0,r1]) rfl ?_;have ej:gB ts x.size q=⟨q.1,0,0⟩:=by unfold gB;rw [hbad,hfit];rfl
    rw [ej];refine ⟨_,rfl,?_,zdy hbw3 _ _ _ _ _ _⟩;exact (hl3.frP (x:=w.heap.size) (Fr.put _ _ _ _ _ _) (fun b hb=>⟨hb.2,by omega⟩) (fun b hb=>hb)).frP (x:=w.heap.size+1) (((Fr.refl _ _).set 0 _).set 1 _) (fun b hb=>⟨by simpa using hb.2,by omega⟩) (fun b hb=>⟨by omega,by simpa using hb.2⟩)
   case false =>
    go_wp2;refine jT (v:=.tuple #[.agg #[.int .i64 0,.string empty,.int .i64 0,.slice none 0 0],.agg #[.int .i64 1,.int .i64 0]]) (by simp [results,Tryz.results9,go_sem,q0,q1,q2,q3,r0,r1,empty]) rfl ?_;have ej:gB ts x.size q=⟨fK,1,0⟩:=by unfold gB;rw [hbad,hfit];rfl
    rw [ej];exact dM.none (zdy hbw3 _ _ _ _ _ _)
end syn
namespace syn
open Go.RowKit
theorem kY.kid {w wr:World} {ks:List Tree} {g o:Nat} (hg:g<w.heap.size) (h:kY (·<w.heap.size) w ks g o) (hb:Below w.heap.size w wr) {j:Nat} (hj:j<ks.length) : ∃ x0 x1 x2 x3,wr.cell? ⟨g,o+j*4,none⟩=some x0/\wr.cell? ⟨g,o+j*4+1,none⟩=some x1/\wr.cell? ⟨g,o+j*4+2,none⟩=some x2/\wr.cell? ⟨g,o+j*4+3,none⟩=some x3/\kC (·<wr.heap.size) wr ks[j] (.agg #[x0,x1,x2,x3]):=by
 obtain ⟨v,⟨x0,x1,x2,x3,rfl,c0,c1,c2,c3⟩,hl⟩:=(h.below hg hb).get j hj;exact ⟨x0,x1,x2,x3,c0,c1,c2,c3,hl⟩
end syn
namespace face
open Go.RowKit Go.ChangeShapes Go.WideShapes
open syn (kK eqS)
def yU (w:World) (v:Value) (l:List Int):Prop:=∃ a c,v=.slice a l.length c/\l.length<=9223372036854775807 /\
 (l≠[]->∃ g o,a=some ⟨g,o,none⟩/\∀ i (h:i<l.length),w.cell? ⟨g,o+i,none⟩=some (.int .i64 l[i]))
def zas (w:World) (v:Value) (l:List VarD):Prop:=∃ a c,v=.slice a l.length c/\l.length<=4611686018427387903 /\
 (l≠[]->∃ g o,a=some ⟨g,o,none⟩/\∀ i (h:i<l.length),w.cell? ⟨g,o+i*4,none⟩=some (.string l[i].name)/\w.cell? ⟨g,o+i*4+1,none⟩=some (.bool l[i].pub) /\
  w.cell? ⟨g,o+i*4+2,none⟩=some (.int .i64 l[i].label)/\w.cell? ⟨g,o+i*4+3,none⟩=some (.int .i64 l[i].size))
def zan (w:World) (v:Value) (l:List ProcD):Prop:=∃ a c,v=.slice a l.length c/\l.length<=4611686018427387903 /\
 (l≠[]->∃ g o,a=some ⟨g,o,none⟩/\∀ i (h:i<l.length),w.cell? ⟨g,o+i*6,none⟩=some (.string l[i].name)/\w.cell? ⟨g,o+i*6+1,none⟩=some (.bool l[i].pub) /\
  (∃ u,w.cell? ⟨g,o+i*6+2,none⟩=some u/\yU w u l[i].params) /\
  w.cell? ⟨g,o+i*6+3,none⟩=some (.int .i64 l[i].writes)/\w.cell? ⟨g,o+i*6+4,none⟩=some (.bool l[i].gives)/\w.cell? ⟨g,o+i*6+5,none⟩=some (.int .i64 l[i].given))
def yZ (w:World) (v:Value) (f:FaceD):Prop:=∃ vv pv,v=.agg #[.string f.module,vv,pv]/\zas w vv f.vars/\zan w pv f.procs
def yJ (p:ProcD) (u:Value):Value:=.agg #[.string p.name,.bool p.pub,u,.int .i64 p.writes,.bool p.gives,.int .i64 p.given]
def qN (v:VarD):Value:=.agg #[.string v.name,.bool v.pub,.int .i64 v.label,.int .i64 v.size]
/-! what was there zog -/
theorem keep {w w':World} {a:Addr} {x:Value} (h:w.cell? a=some x) (hb:Below w.heap.size w w'):w'.cell? a=some x:=by
 rw [hb.cell (jR w a h)];exact h
theorem yU.below {w w':World} {v:Value} {l:List Int} (h:yU w v l) (hb:Below w.heap.size w w'):yU w' v l:=by
 obtain ⟨a,c,e,hl,hk⟩:=h;refine ⟨a,c,e,hl,fun hne=>?_⟩;obtain ⟨g,o,e2,hc⟩:=hk hne;exact ⟨g,o,e2,fun i hi=>keep (hc i hi) hb⟩
theorem zas.below {w w':World} {v:Value} {l:List VarD} (h:zas w v l) (hb:Below w.heap.size w w'):zas w' v l:=by
 obtain ⟨a,c,e,hl,hk⟩:=h;refine ⟨a,c,e,hl,fun hne=>?_⟩;obtain ⟨g,o,e2,hc⟩:=hk hne;exact ⟨g,o,e2,fun i hi=>⟨keep (hc i hi).1 hb,keep (hc i hi).2.1 hb,keep (hc i hi).2.2.1 hb,keep (hc i hi).2.2.2 hb⟩⟩
theorem zan.below {w w':World} {v:Value} {l:List ProcD} (h:zan w v l) (hb:Below w.heap.size w w'):zan w' v l:=by
 obtain ⟨a,c,e,hl,hk⟩:=h;refine ⟨a,c,e,hl,fun hne=>?_⟩;obtain ⟨g,o,e2,hc⟩:=hk hne;refine ⟨g,o,e2,fun i hi=>?_⟩;obtain ⟨h0,h1,⟨u,h2,hu⟩,h3,h4,h5⟩:=hc i hi;exact ⟨keep h0 hb,keep h1 hb,⟨u,keep h2 hb,hu.below hb⟩,keep h3 hb,keep h4 hb,keep h5 hb⟩
theorem yZ.below {w w':World} {v:Value} {f:FaceD} (h:yZ w v f) (hb:Below w.heap.size w w'):yZ w' v f:=by
 obtain ⟨vv,pv,e,h1,h2⟩:=h;exact ⟨vv,pv,e,h1.below hb,h2.below hb⟩
/-! an argument is opened -/
theorem zcn {w:World} {a:Addr} {v:Value} (h:w.cell? a=some v):∃ g o,a=⟨g,o,none⟩:=by
 obtain ⟨g,o,s⟩:=a
 cases s with
 | none=>exact ⟨g,o,rfl⟩
 | some s =>
  unfold World.cell? at h;simp only at h;split at h;·simp at h
  ·cases h
section
variable {H:Type} {enc:TypeId × Value->H} {W:World} {n:Nat}
theorem cell4:Tryz.prog.cellsOf 57=4:=by kernel_rfl
theorem fL:Tryz.prog.cellsOf 62=6:=by kernel_rfl
theorem zgm:Tryz.prog.cellsOf 9=1:=by kernel_rfl
theorem znl:Tryz.prog.cellsOf 4=1:=by kernel_rfl
theorem zb6:Tryz.prog.cellsOf 3=1:=by kernel_rfl
theorem zyn:Tryz.prog.cellsOf 60=1:=by kernel_rfl
theorem gN:Tryz.prog.cellsOf 41=3:=by kernel_rfl
theorem zsq:maxLen<=9223372036854775807:=by unfold maxLen;omega
theorem zku:reachBytes<=4611686018427387903:=by decide
theorem zu1:Tryz.prog.bytesOf 57=40:=by kernel_rfl
theorem zrl:Tryz.prog.bytesOf 62=72:=by kernel_rfl
theorem zql {v:Value} {x:DataW H × List MemPlace} (h:DataW.trod enc Tryz.prog W 0 (fun _=>true) true n 60 [v]=some x):∃ l,yU W v l:=by
 rcases open_ints Tryz.underlying60 Tryz.underlying3 zb6 h with ⟨h0,_⟩|⟨a,len,cap,zs,h0,_,hl,hm,hz,_,hc,_⟩
 ·simp only [jq,and_true] at h0;exact ⟨[],none,0,h0,by simp,fun h=>absurd rfl h⟩
 ·simp only [jq,and_true] at h0;simp only [if_true] at hz;have hlen:(zs.take len).length=len:=by rw [List.length_take];omega
  refine ⟨zs.take len,some a,cap,by rw [hlen];exact h0,by rw [hlen];have:=zsq;omega,fun hne=>?_⟩
  have hpos:0<len:=by
   rcases Nat.eq_zero_or_pos len with h | h
   ·subst h;simp at hne
   ·exact h
  have h00:=hc 0 (by omega);rw [Addr.add,jv rfl] at h00;obtain ⟨g,o,rfl⟩:=zcn h00;refine ⟨g,o,rfl,fun i hi=>?_⟩;rw [hlen] at hi;have:=hc i (by omega);rw [add_plain] at this;rw [this,List.getElem_take,List.getD_eq_getElem?_getD,List.getElem?_eq_getElem (by omega)];rfl
theorem zsa {v:Value} {x:DataW H × List MemPlace} (h:DataW.trod enc Tryz.prog W 0 (fun _=>true) true n 38 [v]=some x) (hwt:∀ k∈x.1.weights Tryz.prog 38,k<=reachBytes):∃ l,zas W v l:=by
 rcases Deep.open_slice Tryz.underlying38 h with ⟨h0,_⟩|⟨a,len,cap,m,k,D,Pl,h0,_,hl,hm,hmm,rfl,hc⟩
 ·simp only [jq,and_true] at h0;exact ⟨[],none,0,h0,by simp,fun h=>absurd rfl h⟩
 ·simp only [jq,and_true] at h0;simp only [if_true] at hmm
  have hlim:len<=4611686018427387903:=by
   have h2:=hwt ((len+(m - len))*40) (by simp [DataW.weights,Tryz.underlying38,zu1]);have:=zku;omega
  have each:∀ i,i<len->∃ q:VarD,W.cell? (a.add (i*4))=some (.string q.name)/\W.cell? (a.add (i*4+1))=some (.bool q.pub)/\W.cell? (a.add (i*4+2))=some (.int .i64 q.label)/\W.cell? (a.add (i*4+3))=some (.int .i64 q.size):=by
   intro i hi;obtain ⟨cs',h1,h2⟩:=hc i (by omega);rw [cell4] at h1;obtain ⟨_,hlen,hcell⟩:=World.cells?_some h1;obtain ⟨y0,y1,y2,y3,n',_,_,t0,t1,t2,t3⟩:=Joins.trod_struct4 Tryz.underlying57 h2;simp only [zgm,znl,zb6] at t0 t1 t2 t3
   match cs',hlen with
   | [c0,c1,c2,c3],_ =>
    simp only [List.drop,List.take] at t0 t1 t2 t3;obtain ⟨s,e0,_,_⟩:=DataW.trod_string Tryz.underlying9 t0;obtain ⟨b,e1,_⟩:=DataW.trod_bool Tryz.underlying4 t1;obtain ⟨j,e2,_,_⟩:=DataW.trod_int Tryz.underlying3 t2;obtain ⟨z,e3,_,_⟩:=DataW.trod_int Tryz.underlying3 t3;simp only [jq,and_true] at e0 e1 e2 e3;subst e0 e1 e2 e3;refine ⟨⟨s,b,j,z⟩,?_,?_,?_,?_⟩;·simpa [Deep.add_add] using hcell 0 (by omega)
    ·simpa [Deep.add_add] using hcell 1 (by omega)
    ·simpa [Deep.add_add] using hcell 2 (by omega)
    ·simpa [Deep.add_add] using hcell 3 (by omega)
  obtain ⟨V,hV⟩:=Deep.choose_lt each;refine ⟨(List.range len).map V,some a,cap,by simpa using h0,by simpa using hlim,fun hne=>?_⟩
  have hpos:0<len:=by
   rcases Nat.eq_zero_or_pos len with h | h
   ·subst h;simp at hne
   ·exact h
  have h00:=(hV 0 hpos).1;rw [Nat.zero_mul,Addr.add,jv rfl] at h00;obtain ⟨g,o,rfl⟩:=zcn h00;refine ⟨g,o,rfl,fun i hi=>?_⟩;have:=hV i (by simpa using hi);simp only [add_plain] at this;simp only [List.getElem_map,List.getElem_range];exact this
theorem zo3 {P:Program} {w:World} {base:Nat} {spare:Nat->Bool} {held:Bool} {t:TypeId} {f0 f1 f2 f3 f4 f5:Field} {fuel:Nat} {cs:List Value} {x:DataW H × List MemPlace} (ht:P.underlying t=some (.struct #[f0,f1,f2,f3,f4,f5])) (h:DataW.trod enc P w base spare held fuel t cs=some x) : ∃ y0 y1 y2 y3 y4 y5 n,DataW.trod enc P w base spare held n f0.type ((cs.drop f0.offset).take (P.cellsOf f0.type))=some y0 /\ DataW.trod enc P w base spare held n f1.type ((cs.drop f1.offset).take (P.cellsOf f1.type))=some y1/\DataW.trod enc P w base spare held n f2.type ((cs.drop f2.offset).take (P.cellsOf f2.type))=some y2 /\ DataW.trod enc P w base spare held n f3.type ((cs.drop f3.offset).take (P.cellsOf f3.type))=some y3/\DataW.trod enc P w base spare held n f4.type ((cs.drop f4.offset).take (P.cellsOf f4.type))=some y4 /\ DataW.trod enc P w base spare held n f5.type ((cs.drop f5.offset).take (P.cellsOf f5.type))=some y5:=by
 obtain ⟨xs,n,_,rfl,hl,hlen,hf⟩:=DataW.trod_struct ht h
 match xs,hlen with
 | [y0,y1,y2,y3,y4,y5],_=>exact ⟨y0,y1,y2,y3,y4,y5,n,by simpa using hf 0 f0 rfl,by simpa using hf 1 f1 rfl,by simpa using hf 2 f2 rfl,by simpa using hf 3 f3 rfl,by simpa using hf 4 f4 rfl,by simpa using hf 5 f5 rfl⟩
theorem zqo {v:Value} {x:DataW H × List MemPlace} (h:DataW.trod enc Tryz.prog W 0 (fun _=>true) true n 39 [v]=some x) (hwt:∀ k∈x.1.weights Tryz.prog 39,k<=reachBytes):∃ l,zan W v l:=by
 rcases Deep.open_slice Tryz.underlying39 h with ⟨h0,_⟩|⟨a,len,cap,m,k,D,Pl,h0,_,hl,hm,hmm,rfl,hc⟩
 ·simp only [jq,and_true] at h0;exact ⟨[],none,0,h0,by simp,fun h=>absurd rfl h⟩
 ·simp only [jq,and_true] at h0;simp only [if_true] at hmm
  have hlim:len<=4611686018427387903:=by
   have h2:=hwt ((len+(m - len))*72) (by simp [DataW.weights,Tryz.underlying39,zrl]);have:=zku;omega
  have each:∀ i,i<len->∃ q:ProcD,W.cell? (a.add (i*6))=some (.string q.name)/\W.cell? (a.add (i*6+1))=some (.bool q.pub)/\(∃ u,W.cell? (a.add (i*6+2))=some u/\yU W u q.params)/\W.cell? (a.add (i*6+3))=some (.int .i64 q.writes)/\W.cell? (a.add (i*6+4))=some (.bool q.gives)/\W.cell? (a.add (i*6+5))=some (.int .i64 q.given):=by
   intro i hi;obtain ⟨cs',h1,h2⟩:=hc i (by omega);rw [fL] at h1;obtain ⟨_,hlen,hcell⟩:=World.cells?_some h1;obtain ⟨y0,y1,y2,y3,y4,y5,n',t0,t1,t2,t3,t4,t5⟩:=zo3 Tryz.underlying62 h2;simp only [zgm,znl,zb6,zyn] at t0 t1 t2 t3 t4 t5
   match cs',hlen with
   | [c0,c1,c2,c3,c4,c5],_ =>
    simp only [List.drop,List.take] at t0 t1 t2 t3 t4 t5;obtain ⟨s,e0,_,_⟩:=DataW.trod_string Tryz.underlying9 t0;obtain ⟨b,e1,_⟩:=DataW.trod_bool Tryz.underlying4 t1;obtain ⟨zs,hzs⟩:=zql t2;obtain ⟨j,e3,_,_⟩:=DataW.trod_int Tryz.underlying3 t3;obtain ⟨b',e4,_⟩:=DataW.trod_bool Tryz.underlying4 t4;obtain ⟨z,e5,_,_⟩:=DataW.trod_int Tryz.underlying3 t5;simp only [jq,and_true] at e0 e1 e3 e4 e5;subst e0 e1 e3 e4 e5;refine ⟨⟨s,b,zs,j,b',z⟩,?_,?_,⟨c2,?_,hzs⟩,?_,?_,?_⟩;·simpa [Deep.add_add] using hcell 0 (by omega)
    ·simpa [Deep.add_add] using hcell 1 (by omega)
    ·simpa [Deep.add_add] using hcell 2 (by omega)
    ·simpa [Deep.add_add] using hcell 3 (by omega)
    ·simpa [Deep.add_add] using hcell 4 (by omega)
    ·simpa [Deep.add_add] using hcell 5 (by omega)
  obtain ⟨V,hV⟩:=Deep.choose_lt each;refine ⟨(List.range len).map V,some a,cap,by simpa using h0,by simpa using hlim,fun hne=>?_⟩
  have hpos:0<len:=by
   rcases Nat.eq_zero_or_pos len with h | h
   ·subst h;simp at hne
   ·exact h
  have h00:=(hV 0 hpos).1;rw [Nat.zero_mul,Addr.add,jv rfl] at h00;obtain ⟨g,o,rfl⟩:=zcn h00;refine ⟨g,o,rfl,fun i hi=>?_⟩;have:=hV i (by simpa using hi);simp only [add_plain] at this;simp only [List.getElem_map,List.getElem_range];exact this
end
end face
namespace face
open Go.RowKit
open syn (kK eqS)
theorem zgh {α:Type} {p:α->Bool} {l:List α} (i:Nat) (h:i<l.length) (hp:p l[i]=false):l.all p=false:=by
 rw [List.all_eq_false];exact ⟨l[i],jH h,by simp [hp]⟩
theorem zf5 {α:Type} {p:α->Bool} {l:List α} (hp:∀ i (h:i<l.length),p l[i]=true):l.all p=true:=by
 rw [List.all_eq_true];intro x hx;obtain ⟨k,hk,rfl⟩:=List.mem_iff_getElem.1 hx;exact hp k hk
theorem vP {x y:Bool} (h:x=y):Ending.returned (.bool x)=.returned (.bool y):=by rw [h]
theorem xU {w:World} {a:Addr} {v:Value} (h:w.cell? a=some v) (ob:Obj):(w.alloc ob).cell? a=some v:=by
 rw [(bal ob).cell (jR w a h)];exact h
end face
namespace face
open Go.RowKit
open syn
theorem cntL_take:∀ (ks:List Tree) (j:Nat) (h:j<ks.length),kA (ks.take (j+1))=kA (ks.take j)+kB ks[j]
 | [],j,h=>by simp at h
 | t :: r,0,h=>by simp [kA]
 | t :: r,j+1,h=>by
  have hj:j<r.length:=by simpa using h
  have:=cntL_take r j hj;show kB t+kA (r.take (j+1))=kB t+kA (r.take j)+kB r[j];omega
theorem fA:∀ (ks:List Tree) (j:Nat),kA (ks.take j)<=kA ks
 | [],j=>by simp
 | t :: r,0=>by have h1:=kX (t :: r);show kA []<=_;unfold kA;exact h1
 | t :: r,j+1=>by
  have:=fA r j;show kB t+kA (r.take j)<=kB t+kA r;omega
theorem zkk:∀ (ks:List Tree) (j:Nat) (h:j<ks.length),kB ks[j]<=kA ks
 | [],j,h=>by simp at h
 | t :: r,0,h=>by have:=kX r;show kB t<=kB t+kA r;omega
 | t :: r,j+1,h=>by
  have hj:j<r.length:=by simpa using h
  have:=zkk r j hj;have h2:=kR t;show kB r[j]<=kB t+kA r;omega
/-! of a variable -/
/-! kids of a module -/
theorem ze0 {w wr:World} {K:List Kid} {g o:Nat} (hg:g<w.heap.size) (hat:kY (·<w.heap.size) w (K.map Kid.tree) g o) (hb:Below w.heap.size w wr) {j:Nat} (hj:j<K.length) : ∃ a c,wr.cell? ⟨g,o+j*4,none⟩=some (.int .i64 K[j].kind)/\wr.cell? ⟨g,o+j*4+1,none⟩=some (.string K[j].text)/\wr.cell? ⟨g,o+j*4+2,none⟩=some (.int .i64 K[j].num)/\wr.cell? ⟨g,o+j*4+3,none⟩=some (.slice a K[j].kids.length c) /\ kC (·<wr.heap.size) wr K[j].tree (.agg #[.int .i64 K[j].kind,.string K[j].text,.int .i64 K[j].num,.slice a K[j].kids.length c]):=by
 obtain ⟨x0,x1,x2,x3,c0,c1,c2,c3,hl⟩:=hat.kid hg hb (j:=j) (by simpa using hj);rw [List.getElem_map] at hl;have hl2:=hl;rw [Kid.tree_is] at hl2;unfold kC at hl2;obtain ⟨a,c,e,_,_⟩:=hl2;cases e;exact ⟨a,c,c0,c1,c2,c3,hl⟩
def yF (l:List ByteArray):List Value:=l.map Value.string
theorem zra (l:List ByteArray) (y:ByteArray):yF (l++[y])=yF l++[.string y]:=by simp [yF]
theorem zod:(Tryz.prog.info? 9).map (fun i=>(i.zero,i.size,i.bytes))=some (some (.string ⟨#[]⟩),1,16):=by kernel_rfl
theorem zpy (y:ByteArray):∀ u∈[Value.string y],u.oneCell'=true:=by intro u hu;simp at hu;rw [hu];rfl
theorem zag {w:World} (y:Value) (T:TypeId) (n:Nat) (hn:n=w.heap.size):∀ j u,[y][j]?=some u->(w.alloc (.cells #[y] T)).cell? ((⟨n,0,none⟩:Addr).add j)=some u:=by
 subst hn;exact cell_one_new w y T
theorem zhd (K:List Kid) (j:Nat) (h:j<K.length):K.take (j+1)=K.take j++[K[j]]:=by
 rw [List.take_add_one,List.getElem?_eq_getElem h];rfl
end face
namespace chk
open Go.RowKit
open syn face
theorem zjk {x:ByteArray} (h:zG x):x.size<=33:=by
 rcases h with h | ⟨a,b,ha,hb,rfl⟩
 ·have:=zco h;omega
 ·have h1:=zco ha;have h2:=zco hb;rw [ByteArray.size_append,ByteArray.size_append];show a.size+1+b.size<=33;omega
end chk
namespace face
open Go.RowKit
theorem vY {w w':World} {row:Option Nat} (hg:w.grownBy w' row) {a:Addr} {v:Value} (h:w.cell? a=some v) (hne:row≠some a.block):w'.cell? a=some v:=by
 rw [jM (a:=a) (hg.block a.block (jR w a h) (fun e=>hne e.symm))];exact h
structure Box6 (w:World) (N:Nat) (x0 x1 x2 x3 x4 x5:Value):Prop where
 c0:w.cell? ⟨N,0,none⟩=some x0
 c1:w.cell? ⟨N,1,none⟩=some x1
 c2:w.cell? ⟨N,2,none⟩=some x2
 c3:w.cell? ⟨N,3,none⟩=some x3
 c4:w.cell? ⟨N,4,none⟩=some x4
 c5:w.cell? ⟨N,5,none⟩=some x5
 f0:w.frozen? ⟨N,0,none⟩=false
 f1:w.frozen? ⟨N,1,none⟩=false
 f2:w.frozen? ⟨N,2,none⟩=false
 f3:w.frozen? ⟨N,3,none⟩=false
 f4:w.frozen? ⟨N,4,none⟩=false
 f5:w.frozen? ⟨N,5,none⟩=false
section
variable {w w':World} {N:Nat} {x0 x1 x2 x3 x4 x5:Value}
theorem Box6.new (w:World) (x0 x1 x2 x3 x4 x5:Value) (T:TypeId):Box6 (w.alloc (.cells #[x0,x1,x2,x3,x4,x5] T)) w.heap.size x0 x1 x2 x3 x4 x5:=by constructor<;>simp
theorem Box6.lt (h:Box6 w N x0 x1 x2 x3 x4 x5):N<w.heap.size:=jR w ⟨N,0,none⟩ h.c0
theorem Box6.block (h:Box6 w N x0 x1 x2 x3 x4 x5) (hb:w'.heap[N]?=w.heap[N]?):Box6 w' N x0 x1 x2 x3 x4 x5 :=
 ⟨(jM (a:=⟨N,0,none⟩) hb).trans h.c0,(jM (a:=⟨N,1,none⟩) hb).trans h.c1,(jM (a:=⟨N,2,none⟩) hb).trans h.c2,(jM (a:=⟨N,3,none⟩) hb).trans h.c3,(jM (a:=⟨N,4,none⟩) hb).trans h.c4,(jM (a:=⟨N,5,none⟩) hb).trans h.c5,
   (jN (a:=⟨N,0,none⟩) hb).trans h.f0,(jN (a:=⟨N,1,none⟩) hb).trans h.f1,(jN (a:=⟨N,2,none⟩) hb).trans h.f2,(jN (a:=⟨N,3,none⟩) hb).trans h.f3,(jN (a:=⟨N,4,none⟩) hb).trans h.f4,(jN (a:=⟨N,5,none⟩) hb).trans h.f5⟩
theorem Box6.below (h:Box6 w N x0 x1 x2 x3 x4 x5) (hb:Below w.heap.size w w'):Box6 w' N x0 x1 x2 x3 x4 x5:=h.block (hb.block N h.lt)
theorem Box6.alloc (h:Box6 w N x0 x1 x2 x3 x4 x5) (o:Obj):Box6 (w.alloc o) N x0 x1 x2 x3 x4 x5:=h.below (bal o)
theorem Box6.grown {row:Option Nat} (h:Box6 w N x0 x1 x2 x3 x4 x5) (hg:w.grownBy w' row) (hne:row≠some N):Box6 w' N x0 x1 x2 x3 x4 x5:=h.block (hg.block N h.lt (fun e=>hne e.symm))
theorem Box6.other (h:Box6 w N x0 x1 x2 x3 x4 x5) {M o:Nat} (hne:M≠N) (v:Value):Box6 (w.setCell ⟨M,o,none⟩ v) N x0 x1 x2 x3 x4 x5:=h.block (jP _ _ _ _ (fun e=>hne (by rw [e])))
theorem Box6.drew (h:Box6 w N x0 x1 x2 x3 x4 x5):Box6 w.drew N x0 x1 x2 x3 x4 x5:=⟨h.c0,h.c1,h.c2,h.c3,h.c4,h.c5,h.f0,h.f1,h.f2,h.f3,h.f4,h.f5⟩
theorem Box6.set2 (h:Box6 w N x0 x1 x2 x3 x4 x5) (v:Value):Box6 (w.setCell ⟨N,2,none⟩ v) N x0 x1 v x3 x4 x5 :=
 ⟨by rw [jD _ _ _ _ (by simp)];exact h.c0,by rw [jD _ _ _ _ (by simp)];exact h.c1,jS _ _ _ h.c2,by rw [jD _ _ _ _ (by simp)];exact h.c3,by rw [jD _ _ _ _ (by simp)];exact h.c4,by rw [jD _ _ _ _ (by simp)];exact h.c5,
  by simp [h.f0],by simp [h.f1],by simp [h.f2],by simp [h.f3],by simp [h.f4],by simp [h.f5]⟩
end
end face
namespace face
open Go.RowKit
open syn
def uU (l:List Int):List Value:=l.map (Value.int .i64)
theorem zj3 (l:List Int) (y:Int):uU (l++[y])=uU l++[.int .i64 y]:=by simp [uU]
theorem zol:(Tryz.prog.info? 3).map (fun i=>(i.zero,i.size,i.bytes))=some (some (.int .i64 0),1,8):=by kernel_rfl
theorem zlw (y:Int):∀ u∈[Value.int .i64 y],u.oneCell'=true:=by intro u hu;simp at hu;rw [hu];rfl
theorem zum (ps:List (ByteArray × Bool)) (j:Nat) (h:j<ps.length):((ps.take (j+1)).map fun q=>bI q.2)=((ps.take j).map fun q=>bI q.2)++[bI ps[j].2]:=by
 rw [List.take_add_one,List.map_append,List.getElem?_eq_getElem h];rfl
/-! rows of variables and of procedures -/
def zW (l:List VarD):List Value:=l.flatMap fun v=>[.string v.name,.bool v.pub,.int .i64 v.label,.int .i64 v.size]
theorem zhe (l:List VarD) (v:VarD):zW (l++[v])=zW l++[.string v.name,.bool v.pub,.int .i64 v.label,.int .i64 v.size]:=by simp [zW]
def vK (l:List (ProcD × Value)):List Value:=l.flatMap fun q=>[.string q.1.name,.bool q.1.pub,q.2,.int .i64 q.1.writes,.bool q.1.gives,.int .i64 q.1.given]
theorem zoy (l:List (ProcD × Value)) (q:ProcD × Value):vK (l++[q])=vK l++[.string q.1.name,.bool q.1.pub,q.2,.int .i64 q.1.writes,.bool q.1.gives,.int .i64 q.1.given]:=by simp [vK]
theorem zch:∀ (l:List VarD) (k:Nat) (hk:k<l.length),(zW l)[k*4]?=some (.string l[k].name)/\(zW l)[k*4+1]?=some (.bool l[k].pub)/\(zW l)[k*4+2]?=some (.int .i64 l[k].label)/\(zW l)[k*4+3]?=some (.int .i64 l[k].size)
 | [],k,hk=>by simp at hk
 | v :: l,0,hk=>by simp [zW]
 | v :: l,k+1,hk=>by
  have hk':k<l.length:=by simpa using hk
  have h:=zch l k hk';have e:zW (v :: l)=[.string v.name,.bool v.pub,.int .i64 v.label,.int .i64 v.size]++zW l:=rfl;have e3:(k+1)*4=k*4+4:=by omega
  rw [e,e3];refine ⟨?_,?_,?_,?_⟩;·rw [List.getElem?_append_right (by simp)];simpa using h.1
  ·rw [List.getElem?_append_right (by simp)];simpa using h.2.1
  ·rw [List.getElem?_append_right (by simp)];simpa using h.2.2.1
  ·rw [List.getElem?_append_right (by simp)];simpa using h.2.2.2
theorem zhn:∀ (l:List (ProcD × Value)) (k:Nat) (hk:k<l.length),(vK l)[k*6]?=some (.string l[k].1.name)/\(vK l)[k*6+1]?=some (.bool l[k].1.pub)/\(vK l)[k*6+2]?=some l[k].2/\(vK l)[k*6+3]?=some (.int .i64 l[k].1.writes)/\(vK l)[k*6+4]?=some (.bool l[k].1.gives)/\(vK l)[k*6+5]?=some (.int .i64 l[k].1.given)
 | [],k,hk=>by simp at hk
 | v :: l,0,hk=>by simp [vK]
 | v :: l,k+1,hk=>by
  have hk':k<l.length:=by simpa using hk
  have h:=zhn l k hk';have e:vK (v :: l)=[.string v.1.name,.bool v.1.pub,v.2,.int .i64 v.1.writes,.bool v.1.gives,.int .i64 v.1.given]++vK l:=rfl;have e3:(k+1)*6=k*6+6:=by omega
  rw [e,e3];refine ⟨?_,?_,?_,?_,?_,?_⟩;·rw [List.getElem?_append_right (by simp)];simpa using h.1
  ·rw [List.getElem?_append_right (by simp)];simpa using h.2.1
  ·rw [List.getElem?_append_right (by simp)];simpa using h.2.2.1
  ·rw [List.getElem?_append_right (by simp)];simpa using h.2.2.2.1
  ·rw [List.getElem?_append_right (by simp)];simpa using h.2.2.2.2.1
  ·rw [List.getElem?_append_right (by simp)];simpa using h.2.2.2.2.2
theorem zd3:(Tryz.prog.info? 57).map (fun i=>(i.zero,i.size,i.bytes))=some (some (.agg #[.string ⟨#[]⟩,.bool false,.int .i64 0,.int .i64 0]),4,40):=by kernel_rfl
theorem zn2:(Tryz.prog.info? 62).map (fun i=>(i.zero,i.size,i.bytes))=some (some (.agg #[.string ⟨#[]⟩,.bool false,.slice none 0 0,.int .i64 0,.bool false,.int .i64 0]),6,72):=by kernel_rfl
def xR (Q:Nat->Prop) (w:World) (u:Value) (l:List Int):Prop:=∃ a c,u=.slice a l.length c/\l.length<=9223372036854775807 /\
 (l≠[]->∃ g,a=some ⟨g,0,none⟩/\Q g/\∀ i (h:i<l.length),w.cell? ⟨g,i,none⟩=some (.int .i64 l[i]))
theorem xR.to {Q R:Nat->Prop} {w w':World} {u:Value} {l:List Int} (h:xR Q w u l) (hQ:∀ b,Q b->R b) (hw:∀ b,Q b->∀ o v,w.cell? ⟨b,o,none⟩=some v->w'.cell? ⟨b,o,none⟩=some v):xR R w' u l:=by
 obtain ⟨a,c,e,hl,hk⟩:=h;refine ⟨a,c,e,hl,fun hne=>?_⟩;obtain ⟨g,e2,hq,hc⟩:=hk hne;exact ⟨g,e2,hQ _ hq,fun i hi=>hw _ hq _ _ (hc i hi)⟩
theorem xR.ints {Q:Nat->Prop} {w:World} {u:Value} {l:List Int} (h:xR Q w u l):yU w u l:=by
 obtain ⟨a,c,e,hl,hk⟩:=h;refine ⟨a,c,e,hl,fun hne=>?_⟩;obtain ⟨g,e2,hq,hc⟩:=hk hne;exact ⟨g,0,e2,fun i hi=>by rw [Nat.zero_add];exact hc i hi⟩
theorem xR.own {w:World} {B:Nat} {u:Value} {l:List Int} (h:w.ownsRow B 3 1 u l.length (uU l)):xR (fun b=>B<=b/\b<w.heap.size) w u l:=by
 have hlt:=h.lt;rcases h.2 with ⟨rfl,hn⟩|⟨g,cap,cur,rfl,_,_,h1,h2,_⟩
 ·have:l=[]:=List.length_eq_zero_iff.1 hn;subst this;exact ⟨none,0,rfl,by simp,fun h=>absurd rfl h⟩
 ·refine ⟨some ⟨g,0,none⟩,cap,rfl,by unfold maxLen at h2;omega,fun _=>⟨g,rfl,hlt g rfl,fun i hi=>?_⟩⟩;have:=h.cellAt i (by omega);rw [this];unfold uU;rw [List.getElem?_map,List.getElem?_eq_getElem hi];rfl
theorem zv6 {w:World} {B:Nat} {u:Value} {l:List VarD} (h:w.ownsRow B 57 4 u l.length (zW l)) (hl:l.length<=4611686018427387903):zas w u l:=by
 rcases h.2 with ⟨rfl,hn⟩|⟨g,cap,cur,rfl,_,_,h1,h2,_⟩
 ·have:l=[]:=List.length_eq_zero_iff.1 hn;subst this;exact ⟨none,0,rfl,by simp,fun h=>absurd rfl h⟩
 ·refine ⟨some ⟨g,0,none⟩,cap,rfl,hl,fun _=>⟨g,0,rfl,fun i hi=>?_⟩⟩;obtain ⟨e0,e1,e2,e3⟩:=zch l i hi;simp only [Nat.zero_add];exact ⟨(h.cellAt _ (by omega)).trans e0,(h.cellAt _ (by omega)).trans e1,(h.cellAt _ (by omega)).trans e2,(h.cellAt _ (by omega)).trans e3⟩
theorem zuf {w:World} {B:Nat} {u:Value} {l:List (ProcD × Value)} (h:w.ownsRow B 62 6 u l.length (vK l)) (hl:l.length<=4611686018427387903) (hp:∀ q∈l,yU w q.2 q.1.params):zan w u (l.map (·.1)):=by
 rcases h.2 with ⟨rfl,hn⟩|⟨g,cap,cur,rfl,_,_,h1,h2,_⟩
 ·have:l=[]:=List.length_eq_zero_iff.1 hn;subst this;exact ⟨none,0,rfl,by simp,fun h=>absurd rfl h⟩
 ·refine ⟨some ⟨g,0,none⟩,cap,by rw [List.length_map],by rw [List.length_map];exact hl,fun _=>⟨g,0,rfl,fun i hi=>?_⟩⟩;rw [List.length_map] at hi;obtain ⟨e0,e1,e2,e3,e4,e5⟩:=zhn l i hi;simp only [Nat.zero_add,List.getElem_map];exact ⟨(h.cellAt _ (by omega)).trans e0,(h.cellAt _ (by omega)).trans e1,⟨_,(h.cellAt _ (by omega)).trans e2,hp _ (jH hi)⟩,(h.cellAt _ (by omega)).trans e3,(h.cellAt _ (by omega)).trans e4,(h.cellAt _ (by omega)).trans e5⟩
end face
namespace chk
open Go.RowKit Go.Shelf
open syn face
attribute [local go_sem] Oper.semAt_some
set_option linter.unusedVariables false
set_option linter.unusedSimpArgs false
def bk (vs:List VarD) (k:Nat):Nat × VarD:=(vs.length - 1 - k,vs[vs.length - 1 - k]?.getD default)
def vX {α:Type} (f:Nat->α) (k:Nat):List α:=(List.range k).map f
theorem zjh {α:Type} (f:Nat->α) (k:Nat):vX f (k+1)=vX f k++[f k]:=by simp [vX,List.range_succ]
theorem zpf {α:Type} (f:Nat->α) (k:Nat):(vX f k).length=k:=by simp [vX]
def zd5 (x:Nat × VarD):Array Value:=#[.int .i64 (x.1:Int),qN x.2]
set_option maxRecDepth 100000 in
theorem zug (F:Fence) (n:Nat) (hfn:F.fn 154) (hro:F.round=none) (hn:1<=n) (l Bs n₀ b cap:Nat) (vs:List VarD) (hlen:vs.length<=1000) (hb:b<n₀) (hBn:Bs<n₀) (J Jx:List (Nat × VarD)->World->Prop) (hY:∀ pre x W,J pre W->pre.length<vs.length->YieldAt F (n - 1) Tryz.prog l (zd5 x) W fun e W' =>
   (e=.returned (.bool true)/\J (pre++[x]) W'/\Below n₀ W W')\/(e=.returned (.bool false)/\Jx (pre++[x]) W'))
  (W:World) (hBs:W.cell? ⟨Bs,0,none⟩=some (.slice (some ⟨b,0,none⟩) vs.length cap)) (hc:∀ j (hj:j<vs.length),W.cell? ⟨b,j*4,none⟩=some (.string vs[j].name)/\W.cell? ⟨b,j*4+1,none⟩=some (.bool vs[j].pub)/\W.cell? ⟨b,j*4+2,none⟩=some (.int .i64 vs[j].label)/\W.cell? ⟨b,j*4+3,none⟩=some (.int .i64 vs[j].size)) (h0:J [] W) :
  CallsIn F n Tryz.prog 154 #[.func (.yield l) #[] #[],.pointer (some ⟨Bs,0,none⟩)] W fun e W'=>(∃ v,e=.returned v) /\
   ((∃ ys,ys=vX (bk vs) vs.length/\J ys W')\/(∃ pre,(∃ k,k<=vs.length/\pre=vX (bk vs) k)/\Jx pre W')):=by
 have c4:Tryz.prog.cellsOf 57=4:=cell4;refine callsIn_of_wp Tryz.func154 rfl hfn ?_ hro;simp only [Tryz.ntmps154,List.size_toArray,jd,je,Nat.reduceAdd,Nat.reduceSub,Array.replicate_succ,Array.replicate_zero,List.push_toArray,List.append_toArray,js,jK]
 gi_wp2
 gi_loopw [3] (fun i wr=>∃ k:Nat,k<=vs.length/\i=.int .i64 ((vs.length:Int) - 1 - k)/\J (vX (bk vs) k) wr/\Below n₀ W wr)
  (fun i _=>(intOf i+1).toNat)
 case atStart=>exact ⟨0,jz _,by simp,h0,Below.refl _ _⟩
 case round =>
  obtain ⟨k,hk,rfl,hJs,hnx⟩:=hrel;have hbs:=(hnx.cell (p:=⟨Bs,0,none⟩) hBn).trans hBs;by_cases hlt:k<vs.length
  ·obtain ⟨j,hj⟩:∃ j:Nat,j=vs.length - 1 - k:=⟨_,rfl⟩
   have hjl:j<vs.length:=by omega
   have hji:(vs.length:Int) - 1 - k=(j:Int):=by omega
   obtain ⟨e0,e1,e2,e3⟩:=hc j hjl;have k0:=(hnx.cell (p:=⟨b,j*4,none⟩) hb).trans e0;have k1:=(hnx.cell (p:=⟨b,j*4+1,none⟩) hb).trans e1;have k2:=(hnx.cell (p:=⟨b,j*4+2,none⟩) hb).trans e2;have k3:=(hnx.cell (p:=⟨b,j*4+3,none⟩) hb).trans e3
   have hbk:bk vs k=(j,vs[j]):=by
    unfold bk;rw [<- hj,List.getElem?_eq_getElem hjl];rfl
   obtain ⟨fn,tmps,assign,body,hy,hR⟩:=hY _ (bk vs k) wr hJs (by rw [zpf];exact hlt);rw [hbk] at hy;unfold zd5 qN at hy;dsimp only at hy;have HU:Hid (vX (bk vs) (k+1)=vX (bk vs) k++[bk vs k]):=zjh _ _;rw [hji];have HJ:Hid ((vs.length:Int) - 1 - k=(j:Int)):=hji;clear hc e0 e1 e2 e3 hbk hj hji;generalize vs[j]=v at *
   gi_wp2
   refine hR.mono ?_;rintro e W3 (⟨rfl,hJ3,hk3⟩|⟨rfl,hJx3⟩)
   ·gi_wp2
    go_roundw
    case rel=>exact ⟨k+1,by omega,by have:=HJ.out;go_num,by rw [HU.out];exact hJ3,hnx.trans hk3⟩
    case measure=>simp [intOf]
   ·gi_wp2
    refine jT (results_none rfl _ _ _) rfl ?_;exact ⟨⟨_,rfl⟩,.inr ⟨_,⟨k+1,by omega,HU.out.symm⟩,hJx3⟩⟩
  ·obtain rfl:k=vs.length:=by omega
   gi_wp2
   go_end0
   exact ⟨⟨_,rfl⟩,.inl ⟨_,rfl,hJs⟩⟩
attribute [local go_sem] Oper.semAt_some
set_option linter.unusedVariables false
set_option linter.unusedSimpArgs false
set_option maxRecDepth 100000 in
theorem zpb (F:Fence) (n:Nat) (hfn:F.fn 154) (hro:F.round=none) (l Bs:Nat) (a:Option Addr) (cap:Nat) (J:List (Nat × VarD)->World->Prop) (W:World) (hBs:W.cell? ⟨Bs,0,none⟩=some (.slice a 0 cap)) (h0:J [] W) : CallsIn F n Tryz.prog 154 #[.func (.yield l) #[] #[],.pointer (some ⟨Bs,0,none⟩)] W fun e W'=>(∃ v,e=.returned v)/\J [] W':=by
 refine callsIn_of_wp Tryz.func154 rfl hfn ?_ hro;simp only [Tryz.ntmps154,List.size_toArray,jd,je,Nat.reduceAdd,Nat.reduceSub,Array.replicate_succ,Array.replicate_zero,List.push_toArray,List.append_toArray,js,jK]
 gi_wp2
 gi_loopw [3] (fun i wr=>i=.int .i64 (-1)/\J [] wr) (fun _ _=>0)
 case atStart=>exact ⟨by simp,h0⟩
 case round =>
  obtain ⟨rfl,hJs⟩:=hrel
  gi_wp2
  go_end0
  exact ⟨⟨_,rfl⟩,hJs⟩
theorem zx9 (F:Fence) (n:Nat) (hfn:F.fn 142) (hro:F.round=none) (a:Option Addr) (len cap:Nat) (w:World) : CallsIn F n Tryz.prog 142 #[.slice a len cap] w fun e w'=>e=.returned (.func (.func 154) #[] #[.pointer (some ⟨w.heap.size,0,none⟩)])/\w'=w.alloc (.cells #[.slice a len cap] 38):=by
 refine callsIn_of_wp Tryz.func142 rfl hfn ?_ hro;simp only [Tryz.ntmps142,List.size_toArray,jd,je,Nat.reduceAdd,Nat.reduceSub,Array.replicate_succ,Array.replicate_zero,List.push_toArray,List.append_toArray,js,jK]
 gi_wp2
 go_ret;exact ⟨rfl,rfl⟩
def fS (n₀:Nat) (W:World) (u:Value) (vs:List VarD):Prop:=∃ a cap,u=.slice a vs.length cap/\(0<vs.length->∃ b,a=some ⟨b,0,none⟩/\b<n₀/\∀ j (hj:j<vs.length),W.cell? ⟨b,j*4,none⟩=some (.string vs[j].name)/\W.cell? ⟨b,j*4+1,none⟩=some (.bool vs[j].pub)/\W.cell? ⟨b,j*4+2,none⟩=some (.int .i64 vs[j].label)/\W.cell? ⟨b,j*4+3,none⟩=some (.int .i64 vs[j].size))
theorem fS.below {n₀:Nat} {A B:World} (h:Below n₀ A B) {u:Value} {vs:List VarD} (hr:fS n₀ A u vs):fS n₀ B u vs:=by
 obtain ⟨a,cap,e,hk⟩:=hr;refine ⟨a,cap,e,fun hp=>?_⟩;obtain ⟨b,e2,hb,hc⟩:=hk hp;refine ⟨b,e2,hb,fun j hj=>?_⟩;obtain ⟨c0,c1,c2,c3⟩:=hc j hj;exact ⟨(h.cell (p:=⟨b,j*4,none⟩) hb).trans c0,(h.cell (p:=⟨b,j*4+1,none⟩) hb).trans c1,(h.cell (p:=⟨b,j*4+2,none⟩) hb).trans c2,(h.cell (p:=⟨b,j*4+3,none⟩) hb).trans c3⟩
theorem fS.mono {n₀ n₁:Nat} {A:World} {u:Value} {vs:List VarD} (hr:fS n₀ A u vs) (h:n₀<=n₁):fS n₁ A u vs:=by
 obtain ⟨a,cap,e,hk⟩:=hr;refine ⟨a,cap,e,fun hp=>?_⟩;obtain ⟨b,e2,hb,hc⟩:=hk hp;exact ⟨b,e2,by omega,hc⟩
theorem zva {w:World} {B:Nat} {u:Value} {vs:List VarD} (h:w.ownsRow B 57 4 u vs.length (zW vs)):fS w.heap.size w u vs:=by
 rcases h.2 with ⟨rfl,hn⟩|⟨g,cap,cur,rfl,_,_,h1,h2,_⟩
 ·exact ⟨none,0,by rw [hn],fun hp=>by omega⟩
 ·refine ⟨some ⟨g,0,none⟩,cap,rfl,fun _=>⟨g,rfl,(h.lt g rfl).2,fun i hi=>?_⟩⟩;obtain ⟨e0,e1,e2,e3⟩:=zch vs i hi;exact ⟨(h.cellAt _ (by omega)).trans e0,(h.cellAt _ (by omega)).trans e1,(h.cellAt _ (by omega)).trans e2,(h.cellAt _ (by omega)).trans e3⟩
theorem zqh (F:Fence) (n:Nat) (hfn:F.fn 154) (hro:F.round=none) (hn:1<=n) (Bs n₀:Nat) (u:Value) (vs:List VarD) (hlen:vs.length<=1000) (w:World) (hBn:Bs<n₀) (hn₀:n₀<=w.heap.size) (hc:w.cell? ⟨Bs,0,none⟩=some u) (hR:fS n₀ w u vs) : SeqStopsK F n Tryz.prog 154 #[.pointer (some ⟨Bs,0,none⟩)] zd5 (Below n₀) (fun ys=>ys=vX (bk vs) vs.length) (fun pre=>∃ k,k<=vs.length/\pre=vX (bk vs) k) vs.length w:=fun l J Jx W hW _ _ hY h0=>by
 have hc':=(hW.cell (p:=⟨Bs,0,none⟩) (by show Bs<w.heap.size;omega)).trans hc;obtain ⟨a,cap,rfl,hk⟩:=hR.below (hW.mono hn₀);rcases Nat.eq_zero_or_pos vs.length with hz | hp
 ·rw [hz] at hc';refine (zpb F n hfn hro l Bs a cap J W hc' h0).mono fun e W' ⟨he,hj⟩=>⟨he,.inl ⟨_,rfl,?_⟩⟩
  rw [hz];exact hj
 ·obtain ⟨b,rfl,hb,hcs⟩:=hk hp;exact zug F n hfn hro hn l Bs n₀ b cap vs hlen hb hBn J Jx hY W hc' hcs h0
end chk
namespace face
open Go.RowKit Go.Maps Go.WideMaps
open syn (kK eqS)
/-! how many names are known: plain facts -/
def yM (x:ByteArray):Lit:=.string x.data.toList
def xX (l:List ByteArray):List Lit:=l.map yM
theorem zf7 (x y:ByteArray):(yM x).sameKey (yM y)=eqS x y:=by
 show (x.data.toList==y.data.toList)=eqS x y;unfold eqS;rw [ByteArray.toList_eq,ByteArray.toList_eq]
theorem zj5 (l:List ByteArray) (x:ByteArray):((xX l).any fun y=>y.sameKey (yM x))=qL l x:=by
 unfold xX qL;rw [List.any_map]
 congr 1
 funext y
 exact zf7 y x
theorem zmc:∀ (l acc:List Lit),(l.foldl addKey acc).length<=acc.length+l.length
 | [],acc=>by simp
 | x :: r,acc=>by
  rw [List.foldl_cons];have h1:=zmc r (addKey acc x);have h2:(addKey acc x).length<=acc.length+1:=by unfold addKey;split<;>simp
  simp only [jd];omega
theorem ziq:∀ (l seen:List ByteArray),(((xX l).foldl addKey (xX seen)).length==seen.length+l.length)=xA seen l
 | [],seen=>by simp [xX,xA]
 | x :: r,seen=>by
  show (((yM x :: xX r).foldl addKey (xX seen)).length==seen.length+(r.length+1))=(!qL seen x&&xA (seen++[x]) r)
  rw [List.foldl_cons];unfold addKey;rw [zj5];cases h:qL seen x
  ·simp only [jr,if_false,Bool.not_false,Bool.true_and];have e:xX seen++[yM x]=xX (seen++[x]):=by simp [xX]
   have:=ziq r (seen++[x]);rw [e,<- this];simp only [jb,jd,je]
   congr 1
   omega
  ·simp only [if_true,Bool.not_true,Bool.false_and];have:=zmc (xX r) (xX seen);have e1:(xX seen).length=seen.length:=by simp [xX]
   have e2:(xX r).length=r.length:=by simp [xX]
   rw [beq_eq_false_iff_ne];show (List.foldl addKey (xX seen) (xX r)).length≠_;omega
def setD (l:List ByteArray):DataW Unit:=setOf (.agg []) (xX l)
theorem zjz (l:List ByteArray):(Maps.size (setD l)==l.length)=xA [] l:=by
 unfold setD;rw [size_setOf _ _ (fun x hx=>by obtain ⟨y,_,rfl⟩:=List.mem_map.1 hx;trivial)];have:=ziq l [];simpa [xX] using this
theorem zji (l:List ByteArray) (x:ByteArray):setD (l++[x])=(setD l).put (yM x) (.agg []):=by
 unfold setD xX;rw [List.map_append,List.map_singleton,setOf_snoc]
/-! the map while it is filled -/
theorem fT:Keyed Tryz.prog 9:=string_keyed Tryz.underlying9
theorem zpi {x:ByteArray} (h:kK x=true):x.size<=maxLen:=by
 unfold kK at h;simp only [jj,jl] at h;have:=h.1.1.1.2;unfold maxLen;omega
theorem zlb {x:ByteArray} (h:kK x=true):keyOf Tryz.prog 9 (.string x)=some (yM x):=keyOf_string_mk Tryz.underlying9 (zpi h)
theorem za7 {w w':World} (hb:Below w.heap.size w w'):w.grownBy w' none:=⟨hb.os,hb.tape,hb.output,hb.size,fun j hj _=>hb.block j hj⟩
theorem zef {w w':World} {row:Option Nat} (hg:w.grownBy w' row) {a:Addr} {v:Value} (h:w.cell? a=some v) (hne:some a.block≠row):w'.cell? a=some v:=by
 have:=hg.block a.block (jR w a h) hne;unfold World.cell? at h |-;rw [this];exact h
end face
namespace chk
open Go.RowKit Go.Maps Go.WideMaps
open syn face
def zav (v:Value):Option (DataW Value × List MemPlace):=some (.held v,[])
def qM (w:World) (b n:Nat) (f:ByteArray->Option Value):Prop :=
 ∃ D:DataW Value,w.ownsMap Tryz.prog 9 zav b n D/\∀ x:ByteArray,Maps.has D (yM x)=(f x).isSome/\∀ v,f x=some v->∀ z,D.atKey (yM x) z=.held v
def uE:Value:=.agg #[.string ⟨#[]⟩,.slice none 0 0,.slice none 0 0]
theorem zoc (w:World):(zeroValue 41).run Tryz.prog w=.ok uE w:=by kernel_rfl
theorem zlk {v v':Value} {ps:List MemPlace} (h:zav v=some (.held v',ps)):v=v':=by
 unfold zav at h;simp only [jh,Prod.mk.injEq,DataW.held.injEq] at h;exact h.1
section
variable {w w':World} {b n:Nat} {f:ByteArray->Option Value}
theorem qM.made (w:World):qM (w.alloc (.map #[] 0)) w.heap.size 0 (fun _=>none) :=
 ⟨.map [],World.ownsMap_made _ _ _ _,fun x=>⟨rfl,fun v h=>by cases h⟩⟩
theorem qM.lt (h:qM w b n f):b<w.heap.size:=by
 obtain ⟨D,h,_⟩:=h;exact h.lt
theorem qM.kept {row:Option Nat} (h:qM w b n f) (hg:w.grownBy w' row) (hne:some b≠row):qM w' b n f:=by
 obtain ⟨D,h,h2⟩:=h;exact ⟨D,h.kept hg hne,h2⟩
theorem qM.below (h:qM w b n f) (hb:Below w.heap.size w w'):qM w' b n f:=h.kept (za7 hb) (by simp)
theorem qM.setCell (h:qM w b n f) {a:Addr} (ha:b≠a.block) (u:Value):qM (w.setCell a u) b n f:=by
 obtain ⟨D,h,h2⟩:=h;exact ⟨D,h.setCell ha u,h2⟩
theorem znv {x y:ByteArray} (h:eqS x y=false):yM x≠yM y:=fun e=>by
 have:=zf7 x y;rw [e,zf7,h] at this;have h2:eqS y y=true:=by unfold eqS;simp
 rw [h2] at this;cases this
theorem zz5 {x y:ByteArray} (h:eqS x y=true):yM x=yM y:=by
 unfold eqS at h;unfold yM;rw [<- ByteArray.toList_eq,<- ByteArray.toList_eq];rw [beq_iff_eq] at h;rw [h]
theorem zi9 (x:ByteArray):WideAt.IsKeyLit (yM x):=trivial
theorem qM.look (h:qM w b n f) (x:ByteArray) (hx:x.size<=maxLen):(Instr.lookup 37 (.map (some b)) (.string x) false).run Tryz.prog w=.ok ((f x).getD uE) w:=by
 obtain ⟨D,h,h2⟩:=h;obtain ⟨v,ps,hrun,hv⟩:=h.lookup fT Tryz.underlying37 (zoc w) (zd:=.held uE) (zp:=[]) rfl (keyOf_string_mk Tryz.underlying9 hx);rw [hrun];obtain ⟨h3,h4⟩:=h2 x
 have e:D.atKey (yM x) (.held uE)=.held ((f x).getD uE):=by
  cases hf:f x with
  | none=>rw [hf] at h3;exact atKey_of_not_has h3 _
  | some u=>exact h4 u hf _
 have hv':zav v=some (D.atKey (yM x) (.held uE),ps):=hv;rw [e] at hv';rw [zlk hv']
theorem qM.put {D:DataW Value} {x:ByteArray} {v:Value} (h:∀ y:ByteArray,Maps.has D (yM y)=(f y).isSome/\∀ v,f y=some v->∀ z,D.atKey (yM y) z=.held v) (hm:IsMap D):∀ y:ByteArray,Maps.has (D.put (yM x) (.held v)) (yM y)=((if eqS y x then some v else f y):Option Value).isSome/\∀ u,(if eqS y x then some v else f y)=some u->∀ z,(D.put (yM x) (.held v)).atKey (yM y) z=.held u:=by
 intro y
 cases he:eqS y x with
 | true =>
  rw [zz5 he,jv rfl];refine ⟨has_put_same hm (zi9 x) _,fun u hu z=>?_⟩;cases hu
  exact atKey_put_same hm (zi9 x) _ _
 | false =>
  rw [ju (by decide)];refine ⟨(has_put_other (znv he) _).trans (h y).1,fun u hu z=>?_⟩;rw [atKey_put_other (znv he)];exact (h y).2 u hu z
theorem qM.store (h:qM w b n f) (hn:n<maxLen) (x:ByteArray) (hx:x.size<=maxLen) (v:Value):∃ w',(Instr.mapUpdate 37 (.map (some b)) (.string x) v).run Tryz.prog w=.ok () w'/\qM w' b (n+1) (fun z=>if eqS z x then some v else f z)/\w.grownBy w' (some b):=by
 obtain ⟨D,h,h2⟩:=h;obtain ⟨w',h3,h4,h5⟩:=h.update fT Tryz.underlying37 hn (keyOf_string_mk Tryz.underlying9 hx) (d:=.held v) (ps:=[]) rfl;exact ⟨w',h3,⟨_,h4,qM.put h2 h.isMap⟩,h5⟩
end
theorem za9 {w:World} {b n:Nat} {f:ByteArray->Option Value} {ops:Array Oper} {rest:List Oper} {o:Oper} {a:Act} {Q:Exit->Act->World->Prop} (hg:o.guard=none) (m x:Operand) (hop:o.op=Op.lookup 37 m x true) (hm:a.eval m=.map (some b)) (h:qM w b n f) (y:ByteArray) (hy:y.size<=maxLen) (hx:a.eval x=.string y) (hK:wpList Tryz.prog ops Q rest (a.put o.dst (.tuple #[(f y).getD uE,.bool (f y).isSome])) w):wpList Tryz.prog ops Q (o :: rest) a w:=by
 obtain ⟨D,h,h2⟩:=h;refine wpList_lookup_own_ok w hg m x 37 hop 9 41 fT Tryz.underlying37 zav (zoc w) (.held uE) [] rfl b n D hm h (.string y) (yM y) hx (keyOf_string_mk Tryz.underlying9 hy) ?_;intro v ps hv;obtain ⟨h3,h4⟩:=h2 y
 have e:D.atKey (yM y) (.held uE)=.held ((f y).getD uE):=by
  cases hf:f y with
  | none=>rw [hf] at h3;exact atKey_of_not_has h3 _
  | some u=>exact h4 u hf _
 rw [e] at hv;rw [zlk hv,h3];exact hK
theorem zp5 {w:World} {b n:Nat} {f:ByteArray->Option Value} {ops:Array Oper} {rest:List Oper} {o:Oper} {a:Act} {Q:Exit->Act->World->Prop} (hg:o.guard=none) (m x v:Operand) (hop:o.op=Op.mapUpdate 37 m x v) (hm:a.eval m=.map (some b)) (h:qM w b n f) (hn:n<maxLen) (y:ByteArray) (hy:y.size<=maxLen) (hx:a.eval x=.string y) (u:Value) (hv:a.eval v=u) (hK:∀ w',qM w' b (n+1) (fun z=>if eqS z y then some u else f z)->w.grownBy w' (some b)->wpList Tryz.prog ops Q rest (a.put o.dst undef) w'):wpList Tryz.prog ops Q (o :: rest) a w:=by
 obtain ⟨D,h,h2⟩:=h;refine wpList_mapUpdate_own w hg m x v 37 hop 9 41 fT Tryz.underlying37 zav b n D hm h hn (.string y) u (yM y) hx hv (keyOf_string_mk Tryz.underlying9 hy) (.held u) [] rfl ?_;intro w' h3 hg';exact hK w' ⟨_,h3,qM.put h2 h.isMap⟩ hg'
end chk
namespace face
open Go.RowKit Go.Maps Go.WideMaps
open syn (kK eqS)
def qS (c a:Int):List PanicEntry:=[{ v:=.iface 28 (.agg #[.int .i64 c,.int .i64 a]),recovered:=false }]
theorem zdo (D:Nat) (c a:Int) (w:World) (h:w.cell? ⟨D,7,none⟩=some (.int .i64 a)) : Calls Tryz.prog 78 #[.pointer (some ⟨D,0,none⟩),.int .i64 c] w fun e w'=>e=.panicked (qS c a)/\w'=w:=by
 unfold qS;go_enter Tryz.func78,Tryz.ntmps78;go_wp2;exact ⟨rfl,rfl,rfl⟩
theorem zuh (l:List ByteArray) (x:ByteArray):Maps.has (setD l) (yM x)=qL l x:=by
 unfold setD;rw [has_setOf _ _ _ (fun y hy=>by obtain ⟨z,_,rfl⟩:=List.mem_map.1 hy;trivial)];exact zj5 l x
theorem zqp {l:List ByteArray} (h:xA [] l=true):Maps.size (setD l)=l.length:=by
 have:=zjz l;rw [h] at this;simpa using this
theorem zg0 (w:World):(zeroValue 59).run Tryz.prog w=.ok (.agg #[]) w:=by kernel_rfl
theorem zib:∀ (l seen:List ByteArray) (x:ByteArray),xA seen (l++[x])=(xA seen l&&!qL (seen++l) x)
 | [],seen,x=>by simp [xA]
 | y :: r,seen,x=>by
  show (!qL seen y&&xA (seen++[y]) (r++[x]))=((!qL seen y&&xA (seen++[y]) r)&&!qL (seen++y :: r) x)
  rw [zib r (seen++[y]) x,Bool.and_assoc];simp
theorem zcb (D b:Nat) (L:List ByteArray) (x:ByteArray) (kH:Nat) (a:Int) (w:World) (hD:w.cell? ⟨D,7,none⟩=some (.int .i64 a)) (hown:w.ownsMap Tryz.prog 9 (unitElem (H:=Unit)) b L.length (setD L)) (hA:xA [] L=true) (hx:x.size<=1000) (hm:kH<=1000) (hl:L.length<=1000) : Calls Tryz.prog 48 #[.pointer (some ⟨D,0,none⟩),.map (some b),.string x,.int .i64 kH] w fun e w' =>
   (qL L x=true/\e=.panicked (qS 5 a)/\Below w.heap.size w w')\/(qL L x=false/\kH<=L.length/\e=.panicked (qS 1 a)/\Below w.heap.size w w') \/
   (qL L x=false/\L.length<kH/\e=.returned (.tuple #[])/\w'.ownsMap Tryz.prog 9 (unitElem (H:=Unit)) b (L++[x]).length (setD (L++[x]))/\xA [] (L++[x])=true/\w.grownBy w' (some b)):=by
 have hkey:keyOf Tryz.prog 9 (.string x)=some (yM x):=keyOf_string_mk Tryz.underlying9 (by unfold maxLen;omega);have hsz:=zqp hA;have hhas:=zuh L x;have hD1:=fun ob=>xU hD ob
 cases hm1:qL L x
 ·rw [hm1] at hhas;by_cases hle:kH<=L.length
  ·go_enter Tryz.func48,Tryz.ntmps48
   go_wp2_with first
    | (at_lookup;refine wpList_lookup_own_unit _ rfl _ _ 55 rfl 9 59 fT Tryz.underlying55 (zg0 _) b _ _ rfl hown _ _ rfl hkey ?_;rw [hhas])
    | (at_len;refine wpList_len_own _ rfl _ 55 rfl 9 59 Tryz.underlying55 (unitElem (H:=Unit)) b _ _ rfl (hown.alloc _) ?_;rw [hsz])
    | (go_at_call 78;refine (zdo D _ a _ (hD1 _)).mono ?_;rintro e w2 ⟨rfl,hw2⟩;obtain rfl:=hw2.symm)
    | go_in
   exact ⟨rfl,Or.inr (Or.inl ⟨trivial,hle,rfl,bal _⟩)⟩
  ·have hlt:L.length<kH:=by omega
   have hA2:xA [] (L++[x])=true:=by rw [zib,hA,js,hm1];rfl
   go_enter Tryz.func48,Tryz.ntmps48
   go_wp2_with first
    | (at_lookup;refine wpList_lookup_own_unit _ rfl _ _ 55 rfl 9 59 fT Tryz.underlying55 (zg0 _) b _ _ rfl hown _ _ rfl hkey ?_;rw [hhas])
    | (at_len;refine wpList_len_own _ rfl _ 55 rfl 9 59 Tryz.underlying55 (unitElem (H:=Unit)) b _ _ rfl (hown.alloc _) ?_;rw [hsz])
    | (at_mapUpdate;refine wpList_mapUpdate_own _ rfl _ _ _ 55 rfl 9 59 fT Tryz.underlying55 (unitElem (H:=Unit)) b _ _ rfl (hown.alloc _) (by unfold maxLen;omega) _ _ _ rfl rfl hkey _ [] unitElem_mk ?_;intro w5 hown5 hgrow5)
    | go_in
   go_end0
   exact ⟨rfl,by rw [zji];exact hown5,(((za7 ((Below.refl w.heap.size w).alloc (jE _) _)).but _).trans hgrow5)⟩
 ·rw [hm1] at hhas;go_enter Tryz.func48,Tryz.ntmps48
  go_wp2_with first
   | (at_lookup;refine wpList_lookup_own_unit _ rfl _ _ 55 rfl 9 59 fT Tryz.underlying55 (zg0 _) b _ _ rfl hown _ _ rfl hkey ?_;rw [hhas])
   | (go_at_call 78;refine (zdo D _ a _ (hD1 _)).mono ?_;rintro e w2 ⟨rfl,hw2⟩;obtain rfl:=hw2.symm)
   | go_in
  exact ⟨rfl,Or.inl ⟨trivial,rfl,bal _⟩⟩
end face
namespace face
open Go.RowKit
open syn
theorem zk0 (p l:Bool) (g:Option Bool):(bits BinOp.and IntKind.i64 (2*bI p+bI l+gI g) 2 != 0)=p:=by cases p<;>cases l<;>rcases g with _ | _ | _<;>decide +kernel
theorem zka (p l:Bool) (g:Option Bool):bits BinOp.and IntKind.i64 (2*bI p+bI l+gI g) 1=bI l:=by cases p<;>cases l<;>rcases g with _ | _ | _<;>decide +kernel
theorem zq6 (p l:Bool) (g:Option Bool):bits BinOp.and IntKind.i64 (2*bI p+bI l+gI g) 12=gI g:=by cases p<;>cases l<;>rcases g with _ | _ | _<;>decide +kernel
theorem znj (k:Int) (x:ByteArray) (m:Int) (a:Option Addr) (n c:Nat) (w:World) : Calls Tryz.prog 87 #[.agg #[.int .i64 k,.string x,.int .i64 m,.slice a n c]] w fun e w'=>e=.returned (.bool (bits BinOp.and IntKind.i64 m 2 != 0))/\Below w.heap.size w w':=by
 have c24:=kc25;go_enter Tryz.func87,Tryz.ntmps87;go_wp2;go_ret;exact ⟨rfl,bal _⟩
theorem cQ (k:Int) (x:ByteArray) (m:Int) (a:Option Addr) (n c:Nat) (w:World) : Calls Tryz.prog 88 #[.agg #[.int .i64 k,.string x,.int .i64 m,.slice a n c]] w fun e w'=>e=.returned (.int .i64 (bits BinOp.and IntKind.i64 m 1))/\Below w.heap.size w w':=by
 have c24:=kc25;go_enter Tryz.func88,Tryz.ntmps88;go_wp2;go_ret;exact ⟨rfl,bal _⟩
abbrev Q4 (N:Nat) (x0 x1 x2 x3:Value) (w:World):Prop:=w.cell? ⟨N,0,none⟩=some x0/\w.cell? ⟨N,1,none⟩=some x1/\w.cell? ⟨N,2,none⟩=some x2/\w.cell? ⟨N,3,none⟩=some x3
theorem Q4.below {w w':World} {N:Nat} {x0 x1 x2 x3:Value} (h:Q4 N x0 x1 x2 x3 w) (hb:Below w.heap.size w w'):Q4 N x0 x1 x2 x3 w':=⟨keep h.1 hb,keep h.2.1 hb,keep h.2.2.1 hb,keep h.2.2.2 hb⟩
theorem Q4.alloc {w:World} {N:Nat} {x0 x1 x2 x3:Value} (h:Q4 N x0 x1 x2 x3 w) (o:Obj):Q4 N x0 x1 x2 x3 (w.alloc o):=h.below (bal o)
theorem Q4.set4 {w:World} {N M:Nat} {x0 x1 x2 x3:Value} (hne:M≠N) (h:Q4 N x0 x1 x2 x3 w) (a b c d:Value):Q4 N x0 x1 x2 x3 ((((w.setCell ⟨M,0,none⟩ a).setCell ⟨M,1,none⟩ b).setCell ⟨M,2,none⟩ c).setCell ⟨M,3,none⟩ d):=by
 have one:∀ (w:World) (o:Nat) (v:Value),Q4 N x0 x1 x2 x3 w->Q4 N x0 x1 x2 x3 (w.setCell ⟨M,o,none⟩ v):=fun w o v h =>
  ⟨by rw [jD _ _ _ _ (by intro e;cases e;exact hne rfl)];exact h.1,by rw [jD _ _ _ _ (by intro e;cases e;exact hne rfl)];exact h.2.1,by rw [jD _ _ _ _ (by intro e;cases e;exact hne rfl)];exact h.2.2.1,by rw [jD _ _ _ _ (by intro e;cases e;exact hne rfl)];exact h.2.2.2⟩
 exact one _ _ _ (one _ _ _ (one _ _ _ (one _ _ _ h)))
structure F4 (w:World) (N:Nat) (x0 x1 x2 x3:Value):Prop where
 c0:w.cell? ⟨N,0,none⟩=some x0
 c1:w.cell? ⟨N,1,none⟩=some x1
 c2:w.cell? ⟨N,2,none⟩=some x2
 c3:w.cell? ⟨N,3,none⟩=some x3
 f0:w.frozen? ⟨N,0,none⟩=false
 f1:w.frozen? ⟨N,1,none⟩=false
 f2:w.frozen? ⟨N,2,none⟩=false
 f3:w.frozen? ⟨N,3,none⟩=false
theorem F4.new (w:World) (x0 x1 x2 x3:Value) (T:TypeId):F4 (w.alloc (.cells #[x0,x1,x2,x3] T)) w.heap.size x0 x1 x2 x3:=by constructor<;>simp
theorem F4.lt {w:World} {N:Nat} {x0 x1 x2 x3:Value} (h:F4 w N x0 x1 x2 x3):N<w.heap.size:=jR w ⟨N,0,none⟩ h.c0
theorem F4.block {w w':World} {N:Nat} {x0 x1 x2 x3:Value} (h:F4 w N x0 x1 x2 x3) (hb:w'.heap[N]?=w.heap[N]?):F4 w' N x0 x1 x2 x3 :=
 ⟨(jM (a:=⟨N,0,none⟩) hb).trans h.c0,(jM (a:=⟨N,1,none⟩) hb).trans h.c1,(jM (a:=⟨N,2,none⟩) hb).trans h.c2,(jM (a:=⟨N,3,none⟩) hb).trans h.c3,(jN (a:=⟨N,0,none⟩) hb).trans h.f0,(jN (a:=⟨N,1,none⟩) hb).trans h.f1,(jN (a:=⟨N,2,none⟩) hb).trans h.f2,(jN (a:=⟨N,3,none⟩) hb).trans h.f3⟩
theorem F4.below {w w':World} {N:Nat} {x0 x1 x2 x3:Value} (h:F4 w N x0 x1 x2 x3) (hb:Below w.heap.size w w'):F4 w' N x0 x1 x2 x3:=h.block (hb.block N h.lt)
end face
namespace chk
open Go.RowKit
open syn face
theorem vL (c a:Int) (w:World) : Calls Tryz.prog 67 #[.int .i64 c,.int .i64 a] w fun e w'=>e=.panicked (qS c a)/\w'=w:=by
 unfold qS;go_enter Tryz.func67,Tryz.ntmps67;go_wp2;exact ⟨rfl,rfl,rfl⟩
theorem za0 (a b:Int) (w:World):Calls Tryz.prog 109 #[.int .i64 a,.int .i64 b] w fun e w'=>e=.returned (.int .i64 (jn a b))/\w'=w:=by
 unfold jn;by_cases ha:a=0
 ·by_cases hb:b=0;·rw [ju (by simp [ha,hb])];go_enter Tryz.func109,Tryz.ntmps109;go_wp2;go_ret;exact ⟨rfl,rfl⟩
  ·rw [jv (.inr hb)];go_enter Tryz.func109,Tryz.ntmps109;go_wp2;go_ret;exact ⟨rfl,rfl⟩
 ·rw [jv (.inl ha)];go_enter Tryz.func109,Tryz.ntmps109;go_wp2;go_ret;exact ⟨rfl,rfl⟩
theorem znm (D:Nat) (n:Int) (w:World) (h:w.cell? ⟨D,7,none⟩=some (.int .i64 n)) (hf:w.frozen? ⟨D,7,none⟩=false) (h0:0<=n) (h1:n<=1000000) : Calls Tryz.prog 39 #[.pointer (some ⟨D,0,none⟩)] w fun e w'=>e=.returned (.int .i64 n)/\w'=w.setCell ⟨D,7,none⟩ (.int .i64 (n+1)):=by
 go_enter Tryz.func39,Tryz.ntmps39;go_wp2;go_ret;exact ⟨rfl,rfl⟩
def zS (to:Int) (ls:List Int):Bool:=ls.all fun l=>jn to l==to
def FL (w:World) (to a:Int) (ls:List Int) (e:Ending) (w':World):Prop:=(zS to ls=true/\e=.returned (.tuple #[])/\w'=w)\/(zS to ls=false/\e=.panicked (qS 7 a)/\w'=w)
theorem gT (a to:Int) (ls:List Int) (u:Value) (w:World) (hu:yU w u ls) : Calls Tryz.prog 90 #[.int .i64 a,.int .i64 to,u] w (FL w to a ls):=by
 obtain ⟨ua,uc,rfl,hl,hk⟩:=hu;have hl':(ls.length:Int)<=9223372036854775807:=by omega
 go_enter Tryz.func90,Tryz.ntmps90;go_wp2;go_loopw [10] (fun t wr=>∃ j:Nat,j<=ls.length/\t=.int .i64 j/\Hid (∀ i (hi:i<ls.length),i<j->(jn to ls[i]==to)=true)/\wr=w) (fun t _=>ls.length - (intOf t).toNat)
 case atStart=>exact ⟨0,jz _,rfl,fun i hi h=>absurd h (by omega),rfl⟩
 case round =>
  obtain ⟨j,hj,rfl,HN,rfl⟩:=hrel;by_cases hlt:j<ls.length
  ·obtain ⟨g,o,rfl,hc⟩:=hk (by intro e;rw [e] at hlt;simp at hlt);have k0:=hc j hlt
   have HB:Hid (∀ b,(jn to ls[j]==to)=b->b=false->zS to ls=false):=fun b h1 h2=>by
    unfold zS;rw [List.all_eq_false];exact ⟨ls[j],jH hlt,by rw [h1,h2];decide⟩
   have HS:Hid (∀ b,(jn to ls[j]==to)=b->b=true->∀ i (hi:i<ls.length),i<j+1->(jn to ls[i]==to)=true):=fun b h1 h2 i hi h=>by
    rcases jL i j with h' | h'
    ·exact HN.out i hi h'
    ·obtain rfl:i=j:=by omega
     exact h1.trans h2
   clear hc hk;generalize ls[j]=l at *;cases hb:(jn to l==to)
   ·have HF:Hid (zS to ls=false):=HB.out _ hb rfl;have hne:¬ jn to l=to:=by simpa using hb
    clear HB HS
    go_wp2_with first
     | (go_at_call 109;refine (za0 _ _ _).mono ?_;rintro e w6 ⟨rfl,hw6⟩;obtain rfl:=hw6.symm)
     | (go_at_call 67;refine (vL _ _ _).mono ?_;rintro e w7 ⟨rfl,hw7⟩;obtain rfl:=hw7.symm)
    exact ⟨rfl,.inr ⟨HF.out,rfl,rfl⟩⟩
   ·have HS2:=HS.out _ hb rfl;have heq:jn to l=to:=by simpa using hb
    clear HB HS;go_wp2_with (go_at_call 109;refine (za0 _ _ _).mono ?_;rintro e w6 ⟨rfl,hw6⟩;obtain rfl:=hw6.symm);go_roundw
    case rel=>exact ⟨j+1,by omega,by go_num,HS2,trivial⟩
    case measure=>simp [intOf];omega
  ·have HF:Hid (zS to ls=true):=by
    show _=_;unfold zS;rw [List.all_eq_true];intro l hm;obtain ⟨i,hi,rfl⟩:=List.mem_iff_getElem.1 hm;exact HN.out i hi (by omega)
   go_wp2
   go_end0
   exact .inl ⟨HF.out,rfl,rfl⟩
end chk
namespace face
open Go.RowKit
structure FR (X:Nat->Prop) (B:Nat) (w:World) (vv pv:Value) (V:List VarD) (P:List (ProcD × Value)):Prop where
 ov:w.ownsRow B 57 4 vv V.length (zW V)
 op:w.ownsRow B 62 6 pv P.length (vK P)
 par:∀ q∈P,xR (fun b=>B<=b/\b<w.heap.size/\vv.ownBlock≠some b/\pv.ownBlock≠some b/\¬ X b) w q.2 q.1.params
 dj:∀ b,vv.ownBlock=some b->pv.ownBlock≠some b
 xv:∀ b,vv.ownBlock=some b->¬ X b
 xp:∀ b,pv.ownBlock=some b->¬ X b
section
variable {X:Nat->Prop} {B:Nat} {w w':World} {vv pv:Value} {V:List VarD} {P:List (ProcD × Value)}
theorem FR.nil (X:Nat->Prop) (B:Nat) (w:World):FR X B w (.slice none 0 0) (.slice none 0 0) [] [] :=
 ⟨World.ownsRow_nil _ _ _ _,World.ownsRow_nil _ _ _ _,(fun q hq=>by cases hq),(fun b h=>by cases h),(fun b h=>by cases h),(fun b h=>by cases h)⟩
theorem FR.grown {row:Option Nat} (h:FR X B w vv pv V P) (hg:w.grownBy w' row) (hr:∀ b,row=some b->X b):FR X B w' vv pv V P:=by
 have hv:vv.ownBlock=none\/vv.ownBlock≠row:=by
  cases e:vv.ownBlock with
  | none=>exact .inl rfl
  | some b=>exact .inr (fun e2=>h.xv b e (hr b e2.symm))
 have hp:pv.ownBlock=none\/pv.ownBlock≠row:=by
  cases e:pv.ownBlock with
  | none=>exact .inl rfl
  | some b=>exact .inr (fun e2=>h.xp b e (hr b e2.symm))
 refine ⟨h.ov.kept hg hv,h.op.kept hg hp,fun q hq=>?_,h.dj,h.xv,h.xp⟩;exact (h.par q hq).to (fun b hb=>⟨hb.1,jo hb.2.1 hg.size,hb.2.2⟩) (fun b hb o v hc=>vY hg hc (fun e=>hb.2.2.2.2 (hr b e)))
theorem FR.below (h:FR X B w vv pv V P) (hb:Below w.heap.size w w'):FR X B w' vv pv V P :=
 h.grown (row:=none) ⟨hb.os,hb.tape,hb.output,hb.size,fun j hj _=>hb.block j hj⟩ (fun b e=>by cases e)
theorem FR.alloc (h:FR X B w vv pv V P) (o:Obj):FR X B (w.alloc o) vv pv V P:=h.below (bal o)
theorem FR.drew (h:FR X B w vv pv V P):FR X B w.drew vv pv V P:=⟨h.ov,h.op,h.par,h.dj,h.xv,h.xp⟩
theorem FR.set (h:FR X B w vv pv V P) {M o:Nat} (hM:M<B) (v:Value):FR X B (w.setCell ⟨M,o,none⟩ v) vv pv V P:=by
 refine ⟨jU h.ov (fun e=>by have:=(h.ov.lt _ e).1;simp at this;omega) _,jU h.op (fun e=>by have:=(h.op.lt _ e).1;simp at this;omega) _,fun q hq=>?_,h.dj,h.xv,h.xp⟩
 exact (h.par q hq).to (fun b hb=>⟨hb.1,by rw [jQ];exact hb.2.1,hb.2.2⟩) (fun b hb o' v' hc=>by
  rw [jD _ _ _ _ (by intro e;have h1:=hb.1;cases e;omega)]
  exact hc)
theorem FR.pushV (h:FR X B w vv pv V P) {v:VarD} {g cap:Nat} (ho:w'.ownsRow B 57 4 (.slice (some ⟨g,0,none⟩) (V.length+1) cap) (V.length+1) (zW V++[.string v.name,.bool v.pub,.int .i64 v.label,.int .i64 v.size])) (hg:w.grownBy w' vv.ownBlock) (hat:vv.ownBlock=some g\/g=w.heap.size) (hX:∀ b,w.heap.size<=b->¬ X b):FR X B w' (.slice (some ⟨g,0,none⟩) (V.length+1) cap) pv (V++[v]) P:=by
 have hpne:pv.ownBlock=none\/pv.ownBlock≠vv.ownBlock:=by
  cases e:pv.ownBlock with
  | none=>exact .inl rfl
  | some b=>exact .inr (fun e2=>h.dj b e2.symm e)
 have hgp:∀ b,some g=some b->pv.ownBlock≠some b:=fun b e e2=>by
  cases e;rcases hat with h1 | h1
  ·exact h.dj g h1 e2
  ·have:=(h.op.lt _ e2).2;omega
 refine ⟨by rw [zhe,jb];exact ho,h.op.kept hg hpne,fun q hq=>?_,hgp,fun b e=>?_,h.xp⟩
 ·refine (h.par q hq).to (fun b hb=>⟨hb.1,jo hb.2.1 hg.size,fun e=>?_,hb.2.2.2⟩) (fun b hb o v hc=>vY hg hc hb.2.2.1);have e':some g=some b:=e;cases e';rcases hat with h1 | h1
  ·exact hb.2.2.1 h1
  ·have:=hb.2.1;omega
 ·have e':some g=some b:=e;cases e';rcases hat with h1 | h1
  ·exact h.xv g h1
  ·exact hX g (by omega)
theorem FR.pushP (h:FR X B w vv pv V P) {q:ProcD × Value} {g cap:Nat} (ho:w'.ownsRow B 62 6 (.slice (some ⟨g,0,none⟩) (P.length+1) cap) (P.length+1) (vK P++[.string q.1.name,.bool q.1.pub,q.2,.int .i64 q.1.writes,.bool q.1.gives,.int .i64 q.1.given])) (hg:w.grownBy w' pv.ownBlock) (hat:pv.ownBlock=some g\/g=w.heap.size) (hX:∀ b,w.heap.size<=b->¬ X b) (hq:xR (fun b=>B<=b/\b<w.heap.size/\vv.ownBlock≠some b/\pv.ownBlock≠some b/\¬ X b) w q.2 q.1.params):FR X B w' vv (.slice (some ⟨g,0,none⟩) (P.length+1) cap) V (P++[q]):=by
 have hvne:vv.ownBlock=none\/vv.ownBlock≠pv.ownBlock:=by
  cases e:vv.ownBlock with
  | none=>exact .inl rfl
  | some b=>exact .inr (fun e2=>h.dj b e e2.symm)
 refine ⟨h.ov.kept hg hvne,by rw [zoy,jb];exact ho,fun q' hq'=>?_,fun b e e2=>?_,h.xv,fun b e=>?_⟩
 ·have hone:xR (fun b=>B<=b/\b<w.heap.size/\vv.ownBlock≠some b/\pv.ownBlock≠some b/\¬ X b) w q'.2 q'.1.params:=by
   rw [List.mem_append] at hq';rcases hq' with h1 | h1
   ·exact h.par q' h1
   ·simp only [jy] at h1;subst h1;exact hq
  refine hone.to (fun b hb=>⟨hb.1,jo hb.2.1 hg.size,hb.2.2.1,fun e=>?_,hb.2.2.2.2⟩) (fun b hb o v hc=>vY hg hc hb.2.2.2.1);have e':some g=some b:=e;cases e';rcases hat with h1 | h1
  ·exact hb.2.2.2.1 h1
  ·have:=hb.2.1;omega
 ·have e':some g=some b:=e2;cases e';rcases hat with h1 | h1
  ·exact h.dj g e h1
  ·have:=(h.ov.lt _ e).2;omega
 ·have e':some g=some b:=e;cases e';rcases hat with h1 | h1
  ·exact h.xp g h1
  ·exact hX g (by omega)
theorem FR.shapeV (h:FR X B w vv pv V P):∃ a c,vv=.slice a V.length c:=by
 obtain ⟨a,c,e,_⟩:=lexs.own_shape h.ov;exact ⟨a,c,e⟩
theorem FR.shapeP (h:FR X B w vv pv V P):∃ a c,pv=.slice a P.length c:=by
 obtain ⟨a,c,e,_⟩:=lexs.own_shape h.op;exact ⟨a,c,e⟩
end
structure Box3 (w:World) (N:Nat) (x0 x1 x2:Value):Prop where
 c0:w.cell? ⟨N,0,none⟩=some x0
 c1:w.cell? ⟨N,1,none⟩=some x1
 c2:w.cell? ⟨N,2,none⟩=some x2
 f0:w.frozen? ⟨N,0,none⟩=false
 f1:w.frozen? ⟨N,1,none⟩=false
 f2:w.frozen? ⟨N,2,none⟩=false
section
variable {w w':World} {N:Nat} {x0 x1 x2:Value}
theorem Box3.new (w:World) (x0 x1 x2:Value) (T:TypeId):Box3 (w.alloc (.cells #[x0,x1,x2] T)) w.heap.size x0 x1 x2:=by constructor<;>simp
theorem Box3.lt (h:Box3 w N x0 x1 x2):N<w.heap.size:=jR w ⟨N,0,none⟩ h.c0
theorem Box3.block (h:Box3 w N x0 x1 x2) (hb:w'.heap[N]?=w.heap[N]?):Box3 w' N x0 x1 x2 :=
 ⟨(jM (a:=⟨N,0,none⟩) hb).trans h.c0,(jM (a:=⟨N,1,none⟩) hb).trans h.c1,(jM (a:=⟨N,2,none⟩) hb).trans h.c2,(jN (a:=⟨N,0,none⟩) hb).trans h.f0,(jN (a:=⟨N,1,none⟩) hb).trans h.f1,(jN (a:=⟨N,2,none⟩) hb).trans h.f2⟩
theorem Box3.below (h:Box3 w N x0 x1 x2) (hb:Below w.heap.size w w'):Box3 w' N x0 x1 x2:=h.block (hb.block N h.lt)
theorem Box3.alloc (h:Box3 w N x0 x1 x2) (o:Obj):Box3 (w.alloc o) N x0 x1 x2:=h.below (bal o)
end
end face
namespace face
open Go.RowKit
open syn (kK eqS)
def zgq (w:World) (v:Value) (l:List ByteArray):Prop:=∃ a c,v=.slice a l.length c/\l.length<=9223372036854775807 /\
 (l≠[]->∃ g o,a=some ⟨g,o,none⟩/\∀ i (h:i<l.length),w.cell? ⟨g,o+i,none⟩=some (.string l[i]))
end face
namespace face
open Go.RowKit
open syn
theorem xF (w:World) (cs:Array Value) (T:TypeId) (n:Nat) (hn:n=w.heap.size):∀ j u,cs.toList[j]?=some u->(w.alloc (.cells cs T)).cell? ((⟨n,0,none⟩:Addr).add j)=some u:=by
 subst hn;exact World.news_of_block (MapKept.heap_alloc w _).1
theorem zbi (all:Bool):∀ K:List Kid,(qE all K).length<=K.length
 | []=>jE _
 | .imp x :: r=>by have:=zbi all r;show (qE all r).length<=r.length+1;omega
 | .var x p l n :: r=>by
  have:=zbi all r;show (if all||p then vD x p l n :: qE all r else qE all r).length<=r.length+1
  split<;>(try simp only [jd])<;>omega
 | .proc _ _ _ _ _ _ :: r=>by have:=zbi all r;show (qE all r).length<=r.length+1;omega
theorem zbb (all:Bool):∀ K:List Kid,(qH all K).length<=K.length
 | []=>jE _
 | .imp x :: r=>by have:=zbb all r;show (qH all r).length<=r.length+1;omega
 | .var x p l n :: r=>by have:=zbb all r;show (qH all r).length<=r.length+1;omega
 | .proc x p l g ps b :: r=>by
  have:=zbb all r;show (if all||p then zH x p l g ps :: qH all r else qH all r).length<=r.length+1;split<;>(try simp only [jd])<;>omega
theorem zu8 {w:World} {B:Nat} {v:Value} {L:List ByteArray} (h:w.ownsRow B 9 1 v L.length (yF L)):zgq w v L:=by
 rcases h.2 with ⟨rfl,hn⟩|⟨g,cap,cur,rfl,_,_,h1,h2,_⟩
 ·have:L=[]:=List.length_eq_zero_iff.1 hn;subst this;exact ⟨none,0,rfl,by simp,fun h=>absurd rfl h⟩
 ·refine ⟨some ⟨g,0,none⟩,cap,rfl,by unfold maxLen at h2;omega,fun _=>⟨g,0,rfl,fun i hi=>?_⟩⟩;have:=h.cellAt i (by omega);rw [Nat.zero_add,this];unfold yF;rw [List.getElem?_map,List.getElem?_eq_getElem hi];rfl
theorem ze6 {w w':World} {B:Nat} {e:TypeId} {k n:Nat} {v:Value} {xs:List Value} (h:w.ownsRow B e k v n xs) (hb:Below w.heap.size w w'):w'.ownsRow B e k v n xs :=
 h.kept (row:=none) ⟨hb.os,hb.tape,hb.output,hb.size,fun j hj _=>hb.block j hj⟩ (by cases v.ownBlock<;>simp)
end face
namespace chk
open Go.RowKit
open syn face
abbrev FV:=FaceD × Value × Value
def fvV (q:FV):Value:=.agg #[.string q.1.module,q.2.1,q.2.2]
end chk
end Go.Proofs.YtaadmdlbkhcfnaaGreatDoor
