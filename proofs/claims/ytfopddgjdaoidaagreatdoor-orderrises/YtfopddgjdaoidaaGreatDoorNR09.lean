/- Faces: as plain data, where they lie in memory, and how an argument that reads as one is opened. -/
import Derived.Test.YtfopddgjdaoidaaGreatDoorNR08
import Derived.Lib.SmallJoins
set_option linter.unusedVariables false
set_option linter.unusedSimpArgs false
set_option maxRecDepth 100000
namespace Go.Proofs.YtfopddgjdaoidaaGreatDoor
namespace syn
open Go.RowKit
def WiOut (w:World) (P:Nat) (o:Option Int) (e:Ending) (w':World):Prop :=
 e=.returned (.bool o.isSome)∧(∀ c',o=some c'→w'.cell? ⟨P,0,none⟩=some (.int .i64 c'))∧w'.frozen? ⟨P,0,none⟩=false∧Fr P w w'
theorem withinL_step {ks:List Tree} {j:Nat} (hj:j<ks.length) (d c:Int):withinL (ks.drop j) d c=match withinT ks[j] d c with | none=>none | some c'=>withinL (ks.drop (j+1)) d c':=by
 rw [List.drop_eq_getElem_cons hj,withinL]
 all_goals (cases withinT ks[j] d c<;>rfl)
theorem withinT_le {t:Tree} {d c c':Int} (h1:0≤c) (h2:c≤500) (h3:1≤d) (h4:d≤17) (h:withinT t d c=some c'):0≤c'∧c'≤500:=by
 rw [withinT_is t d c h1 h2 h3 h4] at h
 have:=cntT_pos t
 split at h
 ·simp only [Option.some.injEq] at h
  omega
 ·simp at h
theorem pk_set {w:World} {P:Nat} {u v:Value} {o:Obj} (hc:w.cell? ⟨P,0,none⟩=some u) (hf:w.frozen? ⟨P,0,none⟩=false):((w.setCell ⟨P,0,none⟩ v).alloc o).cell? ⟨P,0,none⟩=some v∧((w.setCell ⟨P,0,none⟩ v).alloc o).frozen? ⟨P,0,none⟩=false:=by
 have hl:P<(w.setCell ⟨P,0,none⟩ v).heap.size:=by rw [World.size_setCell];exact World.block_lt_of_cell? w ⟨P,0,none⟩ hc
 have hb:=((Below.refl (w.setCell ⟨P,0,none⟩ v).heap.size (w.setCell ⟨P,0,none⟩ v)).alloc (jE _) o).block P hl
 exact ⟨(World.cell?_of_block (a:=⟨P,0,none⟩) hb).trans (World.cell?_setCell_same _ _ _ hc),(World.frozen?_of_block (a:=⟨P,0,none⟩) hb).trans (by simp [hf])⟩
theorem pk_al {w:World} {P:Nat} {u:Value} (o:Obj) (hc:w.cell? ⟨P,0,none⟩=some u) (hf:w.frozen? ⟨P,0,none⟩=false):(w.alloc o).cell? ⟨P,0,none⟩=some u∧(w.alloc o).frozen? ⟨P,0,none⟩=false:=by
 have hb:=((Below.refl w.heap.size w).alloc (jE _) o).block P (World.block_lt_of_cell? w ⟨P,0,none⟩ hc)
 exact ⟨(World.cell?_of_block (a:=⟨P,0,none⟩) hb).trans hc,(World.frozen?_of_block (a:=⟨P,0,none⟩) hb).trans hf⟩
set_option maxHeartbeats 4000000 in
theorem owithin (t:Tree) (va:Value) (w:World) (P:Nat) (d c:Int) (hc0:0≤c) (hc5:c≤500) (hd1:1≤d) (hd17:d≤17) (hP:w.cell? ⟨P,0,none⟩=some (.int .i64 c)) (hPf:w.frozen? ⟨P,0,none⟩=false)
  (ha:Lies (fun b=>b<w.heap.size∧b≠P) w t va):Calls Tryz.prog 62 #[va,.int .i64 d,.pointer (some ⟨P,0,none⟩)] w (WiOut w P (withinT t d c)):=by
 have c24:=kc25
 have hPl:P<w.heap.size:=World.block_lt_of_cell? w ⟨P,0,none⟩ hP
 match t,ha with
 | .node k x m ks,ha =>
  have ih:∀ (j:Nat) (hj:j<ks.length) (va:Value) (w:World) (c:Int),0≤c→c≤500→d+1≤17→w.cell? ⟨P,0,none⟩=some (.int .i64 c)→w.frozen? ⟨P,0,none⟩=false→Lies (fun b=>b<w.heap.size∧b≠P) w ks[j] va →
    Calls Tryz.prog 62 #[va,.int .i64 (d+1),.pointer (some ⟨P,0,none⟩)] w (WiOut w P (withinT ks[j] (d+1) c)):=fun j hj va w c h1 h2 h3 h4 h5 h6=>owithin ks[j] va w P (d+1) c h1 h2 (by omega) h3 h4 h5 h6
  unfold Lies at ha
  obtain ⟨a,cp,rfl,hlk,hka⟩:=ha
  have hB0:=Box4.new w (.int .i64 k) (.string x) (.int .i64 m) (.slice a ks.length cp) 25
  unfold withinT
  by_cases h16:16<d
  ·rw [if_pos (.inl h16)]
   go_enter Tryz.func62,Tryz.ntmps62
   go_wp2
   go_ret
   exact ⟨rfl,fun c' h=>by simp at h,(pk_set hP hPf).2,((Fr.refl _ _).set _ _).alloc _⟩
  by_cases h500:500<c+1
  ·rw [if_pos (.inr h500)]
   go_enter Tryz.func62,Tryz.ntmps62
   go_wp2
   go_ret
   exact ⟨rfl,fun c' h=>by simp at h,(pk_set hP hPf).2,((Fr.refl _ _).set _ _).alloc _⟩
  rw [if_neg (by omega)]
  obtain ⟨V,hV⟩:∃ V,V=withinL ks (d+1) (c+1):=⟨_,rfl⟩
  rw [← hV]
  have HV:Hid (withinL (ks.drop 0) (d+1) (c+1)=V):=hV.symm
  clear hV
  have hlk':(ks.length:Int)≤4611686018427387904:=by omega
  go_enter Tryz.func62,Tryz.ntmps62
  go_wp2
  go_loopw [25] (fun i wr=>∃ (j:Nat) (n:Int),j≤ks.length∧i=.int .i64 j∧0≤n∧n≤500∧Hid (withinL (ks.drop j) (d+1) n=V)∧wr.cell? ⟨P,0,none⟩=some (.int .i64 n)∧wr.frozen? ⟨P,0,none⟩=false∧Fr P w wr∧Box4 wr w.heap.size (.int .i64 k) (.string x) (.int .i64 m) (.slice a ks.length cp)) (fun i _=>ks.length - (intOf i).toNat)
  case atStart =>
   refine ⟨0,c+1,Nat.zero_le _,rfl,by omega,by omega,HV.out,?_,?_,?_,?_⟩
   ·exact (pk_set hP hPf).1
   ·exact (pk_set hP hPf).2
   ·exact ((Fr.refl _ _).set _ _).alloc _
   ·have:=Box4.new (w.setCell ⟨P,0,none⟩ (.int .i64 (c+1))) (.int .i64 k) (.string x) (.int .i64 m) (.slice a ks.length cp) 25
    rw [World.size_setCell] at this
    exact this
  case round =>
   obtain ⟨j,n,hj,rfl,hn0,hn5,HN,hPc,hPf',hFr,hb⟩:=hrel
   have hzr:=hb.lt
   obtain ⟨p0,p1,p2,p3,_,_,_,_⟩:=id hb
   by_cases hlt:j<ks.length
   ·obtain ⟨g,o,rfl,hg,hat⟩:=hka (by intro e;rw [e] at hlt;simp at hlt)
    have hat':=hat.to (w':=wr) (Q:=fun b=>b<wr.heap.size∧b≠P) (fun b hb=>⟨Nat.lt_of_lt_of_le hb.1 hFr.size,hb.2⟩) (fun b hb o=>World.cell?_of_block (a:=⟨b,o,none⟩) (hFr.block b hb.1 (by simpa using hb.2))) hg
    obtain ⟨v,⟨x0,x1,x2,x3,rfl,c0,c1,c2,c3⟩,hlk'⟩:=hat'.get j hlt
    have hgl:g<wr.heap.size:=Nat.lt_of_lt_of_le hg.1 hFr.size
    obtain ⟨kk,xx,mm,_,he,aa,na,ca,rfl⟩:=hlk'.shape
    injection he with he
    simp only [Array.mk.injEq,List.cons.injEq,and_true] at he
    obtain ⟨rfl,rfl,rfl,rfl⟩:=he
    have hal:=pk_al (.cells #[.int .i64 kk,.string xx,.int .i64 mm,.slice aa na ca] 25) hPc hPf'
    have hC:=ih j hlt _ (wr.alloc (.cells #[.int .i64 kk,.string xx,.int .i64 mm,.slice aa na ca] 25)) n hn0 hn5 (by omega) hal.1 hal.2 (hlk'.to (fun b hb=>⟨by rw [World.size_alloc];omega,hb.2⟩) (fun b hb o=>((Below.refl wr.heap.size wr).alloc (jE _) _).cell (p:=⟨b,o,none⟩) hb.1))
    have HS:Hid (withinL (ks.drop j) (d+1) n=match withinT ks[j] (d+1) n with | none=>none | some c'=>withinL (ks.drop (j+1)) (d+1) c'):=withinL_step hlt _ _
    have HW:Hid (∀ c',withinT ks[j] (d+1) n=some c'→0≤c'∧c'≤500):=fun c' h=>withinT_le hn0 hn5 (by omega) (by omega) h
    clear ih
    generalize hwt:withinT ks[j] (d+1) n=wt at *
    clear hwt
    cases wt with
    | none =>
     have HE:Hid (V=none):=by show _=_;rw [← HN.out,HS.out]
     go_wp2_with (fail)
     refine hC.mono ?_
     rintro e w3 ⟨rfl,h1,h2,h3⟩
     go_wp2
     go_ret
     exact ⟨by rw [HE.out];rfl,fun c' h=>by rw [HE.out] at h;simp at h,h2,(hFr.trans (Fr.al _ _)).trans h3⟩
    | some c' =>
     have HE:Hid (withinL (ks.drop (j+1)) (d+1) c'=V):=by show _=_;rw [← HN.out,HS.out]
     have hcc:=HW.out c' rfl
     go_wp2_with (fail)
     refine hC.mono ?_
     rintro e w3 ⟨rfl,h1,h2,h3⟩
     go_wp2
     go_roundw
     case rel=>exact ⟨j+1,c',by omega,by go_num,hcc.1,hcc.2,HE.out,h1 c' rfl,h2,(hFr.trans (Fr.al _ _)).trans h3,(hb.alloc _).fr h3 (by omega)⟩
     case measure=>simp [intOf];omega
   ·have HE:Hid (V=some n):=by
     show _=_
     rw [← HN.out,List.drop_eq_nil_of_le (by omega),withinL]
    go_wp2
    go_ret
    exact ⟨by rw [HE.out];rfl,fun c' h=>by
     rw [HE.out] at h
     simp only [Option.some.injEq] at h
     rw [← h]
     exact hPc,hPf',hFr⟩
termination_by SizeOf.sizeOf t
decreasing_by exact kid_lt hj
theorem osmall (t:Tree) (va:Value) (w:World) (ha:Lies (·<w.heap.size) w t va) :
  Calls Tryz.prog 28 #[va] w fun e w'=>e=.returned (.bool (fitsT t))∧Below w.heap.size w w':=by
 have c24:=kc25
 obtain ⟨k,x,m,_,rfl,a,n,c,rfl⟩:=ha.shape
 have hw:=within_fits t
 have hs:((w.alloc (.cells #[.int .i64 k,.string x,.int .i64 m,.slice a n c] 25)).alloc (.cells #[.int .i64 0] 3)).heap.size=w.heap.size+2:=by simp
 have hC:=owithin t (.agg #[.int .i64 k,.string x,.int .i64 m,.slice a n c]) ((w.alloc (.cells #[.int .i64 k,.string x,.int .i64 m,.slice a n c] 25)).alloc (.cells #[.int .i64 0] 3)) (w.heap.size+1) 1 0 (by omega) (by omega) (by omega) (by omega) (by rw [← World.size_alloc w (.cells #[.int .i64 k,.string x,.int .i64 m,.slice a n c] 25)];simp) (by rw [← World.size_alloc w (.cells #[.int .i64 k,.string x,.int .i64 m,.slice a n c] 25)];simp)
  (ha.to (fun b hb=>⟨by omega,by omega⟩) (fun b hb o=>(((Below.refl w.heap.size w).alloc (jE _) _).alloc (by simp) _).cell (p:=⟨b,o,none⟩) hb))
 go_enter Tryz.func28,Tryz.ntmps28
 go_wp2_with (fail)
 refine hC.mono ?_
 rintro e w3 ⟨rfl,h1,h2,h3⟩
 go_wp2
 go_ret
 refine ⟨by rw [← hw];rfl,?_⟩
 have hb:=((Below.refl w.heap.size w).alloc (jE _) (.cells #[.int .i64 k,.string x,.int .i64 m,.slice a n c] 25)).alloc (by simp) (.cells #[.int .i64 0] 3)
 exact ⟨h3.os.trans hb.os,h3.tape.trans hb.tape,h3.output.trans hb.output,Nat.le_trans hb.size h3.size,fun j hj=>(h3.block j (by omega) (by simp;omega)).trans (hb.block j hj)⟩
end syn
namespace lexs
theorem step_err {l:List UInt8} {c:Int} (h:stepL l=.fault c):c≠0:=by
 unfold stepL stepB at h
 split at h
 ·simp at h
 split at h
 ·simp at h
 split at h
 ·split at h
  ·injection h with h;omega
  ·simp at h
 split at h
 ·split at h
  ·simp at h
  ·rename_i hn
   injection h with h
   rw [← h]
   simpa using hn
 split at h
 ·injection h with h;omega
 ·simp at h
theorem scanL_err:∀ (f:Nat) (l:List UInt8) (i:Nat) (acc:List Tok) (c:Int) (p:Nat),scanL f l i acc=.err c p→c≠0
 | 0,l,i,acc,c,p,h=>by unfold scanL at h;simp at h
 | f+1,[],i,acc,c,p,h=>by unfold scanL at h;simp at h
 | f+1,b :: r,i,acc,c,p,h=>by
  cases hs:stepL (b :: r) with
  | skip n=>rw [scanL_skip hs] at h;exact scanL_err f _ _ _ _ _ h
  | fault c' =>
   rw [scanL_fault hs] at h
   injection h with h _
   rw [← h]
   exact step_err hs
  | tok k n=>rw [scanL_tok hs] at h;exact scanL_err f _ _ _ _ _ h
theorem scan_err {l:List UInt8} {c:Int} {p:Nat} (h:scan l=.err c p):c≠0:=by
 unfold scan at h
 split at h
 ·injection h with h _;omega
 ·exact scanL_err _ _ _ _ _ _ h
end lexs
namespace syn
open Go.RowKit
open lexs (Tok Fine own_shape HasErr)
def PsOut (w:World) (o:Out) (e:Ending) (w':World):Prop :=
 ∃ v,e=.returned (.tuple #[v,.agg #[.int .i64 o.code,.int .i64 o.place]])∧Lies (fun b=>w.heap.size≤b∧b<w'.heap.size) w' o.tree v∧Below w.heap.size w w'
def Parses (H:World→Prop) (F:Nat) (x:ByteArray):Prop:=∀ w:World,H w→Calls Tryz.prog F #[.string x] w (PsOut w (parse x))
def HasBoth (w:World):Prop:=HasErr w∧HasOps w
structure Box2 (w:World) (N:Nat) (x0 x1:Value):Prop where
 c0:w.cell? ⟨N,0,none⟩=some x0
 c1:w.cell? ⟨N,1,none⟩=some x1
 f0:w.frozen? ⟨N,0,none⟩=false
 f1:w.frozen? ⟨N,1,none⟩=false
theorem Box2.new (w:World) (x0 x1:Value) (T:TypeId):Box2 (w.alloc (.cells #[x0,x1] T)) w.heap.size x0 x1:=by constructor<;>simp
theorem Box2.lt {w:World} {N:Nat} {x0 x1:Value} (h:Box2 w N x0 x1):N<w.heap.size:=World.block_lt_of_cell? w ⟨N,0,none⟩ h.c0
theorem Box2.fr {w w':World} {r N:Nat} {x0 x1:Value} (h:Box2 w N x0 x1) (hF:Fr r w w') (hN:N≠r):Box2 w' N x0 x1:=by
 have hb:=hF.block N h.lt (by simpa using hN)
 exact ⟨(World.cell?_of_block (a:=⟨N,0,none⟩) hb).trans h.c0,(World.cell?_of_block (a:=⟨N,1,none⟩) hb).trans h.c1,(World.frozen?_of_block (a:=⟨N,0,none⟩) hb).trans h.f0,(World.frozen?_of_block (a:=⟨N,1,none⟩) hb).trans h.f1⟩
theorem Box2.below {w w':World} {N:Nat} {x0 x1:Value} (h:Box2 w N x0 x1) (hb:Below w.heap.size w w'):Box2 w' N x0 x1:=h.fr (r:=N+1) (Fr.below hb) (by omega)
theorem Box2.alloc {w:World} {N:Nat} {x0 x1:Value} (h:Box2 w N x0 x1) (o:Obj):Box2 (w.alloc o) N x0 x1:=h.below (bal o)
theorem Box4.below {w w':World} {N:Nat} {x0 x1 x2 x3:Value} (h:Box4 w N x0 x1 x2 x3) (hb:Below w.heap.size w w'):Box4 w' N x0 x1 x2 x3:=h.fr (r:=N+1) (Fr.below hb) (by omega)
theorem PsOut.none {w w':World} {c p:Int} (hb:Below w.heap.size w w'):PsOut w ⟨none0,c,p⟩ (.returned (.tuple #[.agg #[.int .i64 0,.string empty,.int .i64 0,.slice none 0 0],.agg #[.int .i64 c,.int .i64 p]])) w' :=
 ⟨_,rfl,Lies.leaf _ _ _ _ _,hb⟩
theorem below6 {w w1:World} (h:Below w.heap.size w w1) (a0 a1 a2 a3 a4 a5:Value):Below w.heap.size w ((((((w1.setCell ⟨w.heap.size,0,none⟩ a0).setCell ⟨w.heap.size,1,none⟩ a1).setCell ⟨w.heap.size,2,none⟩ a2).setCell ⟨w.heap.size,3,none⟩ a3).setCell ⟨w.heap.size+1,0,none⟩ a4).setCell ⟨w.heap.size+1,1,none⟩ a5) :=
 (((((h.setCell (jE _) _).setCell (jE _) _).setCell (jE _) _).setCell (jE _) _).setCell (Nat.le_succ _) _).setCell (Nat.le_succ _) _
set_option maxHeartbeats 4000000 in
theorem oparse (x:ByteArray):Parses HasBoth 12 x:=by
 intro w ⟨hE,hO⟩
 have c24:=kc25
 have c27:=kc28
 have hbel:Below w.heap.size w ((w.alloc (.cells #[.int .i64 0,.string empty,.int .i64 0,.slice none 0 0] 25)).alloc (.cells #[.int .i64 0,.int .i64 0] 28)):=(bal _).alloc (by simp) _
 have hS:=lexs.scan_own x _ (lexs.hasErr_below hE hbel)
 have hb1:=(Box4.new w (.int .i64 0) (.string empty) (.int .i64 0) (.slice none 0 0) 25).alloc (.cells #[.int .i64 0,.int .i64 0] 28)
 have hb2:=Box2.new (w.alloc (.cells #[.int .i64 0,.string empty,.int .i64 0,.slice none 0 0] 25)) (.int .i64 0) (.int .i64 0) 28
 rw [World.size_alloc] at hb2
 unfold parse
 cases hsc:lexs.scan x.data.toList with
 | err c p =>
  rw [hsc] at hS
  have hc:=lexs.scan_err hsc
  have hcb:(c != 0)=true:=by simpa using hc
  simp only [lexs.Res.code,lexs.Res.place,lexs.Res.toks] at hS
  go_enter Tryz.func12,Tryz.ntmps12
  go_wp2_with (fail)
  refine hS.mono ?_
  rintro e w1 ⟨v,rfl,hown,hbe⟩
  have hB1:=hb1.below hbe
  have hB2:=hb2.below hbe
  obtain ⟨q0,q1,q2,q3,t0,t1,t2,t3⟩:=id hB1
  obtain ⟨r0,r1,u0,u1⟩:=id hB2
  have z1:w.heap.size+1<w1.heap.size:=hB2.lt
  have z0:w.heap.size<w1.heap.size:=hB1.lt
  have hbw:Below w.heap.size w w1:=hbel.trans (hbe.mono (by simp;omega))
  go_wp2
  go_region
  all_goals
   go_wp2
   refine bodyPost_ret (v:=.tuple #[.agg #[.int .i64 0,.string empty,.int .i64 0,.slice none 0 0],.agg #[.int .i64 c,.int .i64 p]]) (by simp [results,Tryz.results12,go_sem,q0,q1,q2,q3,r0,r1,z0,z1,empty]) rfl (PsOut.none ?_)
   exact below_drewN ((below6 hbw _ _ _ _ _ _).alloc (by simp;omega) _) 1
 | ok ts =>
  rw [hsc] at hS
  simp only [lexs.Res.code,lexs.Res.place,lexs.Res.toks] at hS
  obtain ⟨pp,dd,_,_,hmod⟩:=moduleF_has (lexs.scan_len hsc)
  simp only [hmod]
  have hfine:=lexs.scan_fine hsc
  have hlen:=lexs.scan_len hsc
  generalize (Tree.node 1 (headX ts) 0 dd.1,dd.2)=q at *
  go_enter Tryz.func12,Tryz.ntmps12
  go_wp2_with (fail)
  refine hS.mono ?_
  rintro e w1 ⟨v,rfl,hown,hbe⟩
  have hB1:=hb1.below hbe
  have hB2:=hb2.below hbe
  have z1:w.heap.size+1<w1.heap.size:=hB2.lt
  have z0:w.heap.size<w1.heap.size:=hB1.lt
  have hbw1:Below w.heap.size w w1:=hbel.trans (hbe.mono (by simp;omega))
  have hbx:=Box2.new w1 (.int .i64 0) (.int .i64 0) 28
  have hR:=oread (n:=x.size) (hown.alloc (.cells #[.int .i64 0,.int .i64 0] 28)) hlen hfine (hasOps_below hO (hbw1.alloc (by omega) (.cells #[.int .i64 0,.int .i64 0] 28))) hmod
  unfold judge
  cases hbad:q.2.bad
  case true =>
   go_wp2_with (fail)
   refine hR.mono ?_
   rintro e w2 ⟨v2,rfl,hl2,hbe2⟩
   rw [hbad] at hl2 ⊢
   simp only [if_true] at hl2 ⊢
   obtain ⟨kc,yc,mc,_,rfl,ac,nc,cc,rfl⟩:=hl2.shape
   have hB12:=(hB1.alloc (.cells #[.int .i64 0,.int .i64 0] 28)).below hbe2
   have hB22:=(hB2.alloc (.cells #[.int .i64 0,.int .i64 0] 28)).below hbe2
   have hB52:=hbx.below hbe2
   obtain ⟨q0,q1,q2,q3,t0,t1,t2,t3⟩:=id hB12
   obtain ⟨r0,r1,u0,u1⟩:=id hB22
   obtain ⟨s0,s1,y0,y1⟩:=id hB52
   have y1':w.heap.size+1<w2.heap.size:=hB22.lt
   have y0':w.heap.size<w2.heap.size:=hB12.lt
   have y5':w1.heap.size<w2.heap.size:=hB52.lt
   have hbw:Below w.heap.size w w2:=(hbw1.alloc (by omega) _).trans (hbe2.mono (by simp;omega))
   go_wp2
   go_region
   all_goals
    go_wp2
    refine bodyPost_ret (v:=.tuple #[.agg #[.int .i64 0,.string empty,.int .i64 0,.slice none 0 0],.agg #[.int .i64 2,.int .i64 (failAt ts x.size q.2)]]) (by simp [results,Tryz.results12,go_sem,q0,q1,q2,q3,r0,r1,y0',y1',y5',empty]) rfl ?_
    have ej:judge ts x.size q=⟨none0,2,failAt ts x.size q.2⟩:=by unfold judge;rw [hbad];rfl
    rw [ej]
    refine PsOut.none ?_
    have hbz:Below w.heap.size w ((w2.setCell ⟨w1.heap.size,0,none⟩ (.int .i64 2)).setCell ⟨w1.heap.size,1,none⟩ (.int .i64 (failAt ts x.size q.2))):=(hbw.setCell (by simp;omega) _).setCell (by simp;omega) _
    exact below_drewN ((below6 hbz _ _ _ _ _ _).alloc (by simp;omega) _) 1
  case false =>
   go_wp2_with (fail)
   refine hR.mono ?_
   rintro e w2 ⟨v2,rfl,hl2,hbe2⟩
   rw [hbad] at hl2 ⊢
   simp only [Bool.false_eq_true,if_false] at hl2 ⊢
   obtain ⟨kc,yc,mc,_,rfl,ac,nc,cc,rfl⟩:=hl2.shape
   have hB12:=(hB1.alloc (.cells #[.int .i64 0,.int .i64 0] 28)).below hbe2
   have hB22:=(hB2.alloc (.cells #[.int .i64 0,.int .i64 0] 28)).below hbe2
   have hB52:=hbx.below hbe2
   obtain ⟨s0,s1,y0,y1⟩:=id hB52
   have y1':w.heap.size+1<w2.heap.size:=hB22.lt
   have y0':w.heap.size<w2.heap.size:=hB12.lt
   have y5':w1.heap.size<w2.heap.size:=hB52.lt
   have hbw:Below w.heap.size w w2:=(hbw1.alloc (by omega) _).trans (hbe2.mono (by simp;omega))
   have hbz:Below w.heap.size w ((w2.setCell ⟨w1.heap.size,0,none⟩ (.int .i64 0)).setCell ⟨w1.heap.size,1,none⟩ (.int .i64 0)):=(hbw.setCell (by simp;omega) _).setCell (by simp;omega) _
   have hFz:Fr w1.heap.size w2 ((w2.setCell ⟨w1.heap.size,0,none⟩ (.int .i64 0)).setCell ⟨w1.heap.size,1,none⟩ (.int .i64 0)):=((Fr.refl _ _).set _ _).set _ _
   have hlz:=hl2.frP (x:=w1.heap.size) hFz (Q:=fun b=>w1.heap.size<b∧b<w2.heap.size) (fun b hb=>⟨hb.2,by have:=hb.1;rw [World.size_alloc] at this;omega⟩) (fun b hb=>⟨by have:=hb.1;rw [World.size_alloc] at this;omega,hb.2⟩)
   have hB1z:=hB12.fr hFz (by omega)
   have hB2z:=hB22.fr hFz (by omega)
   have hsz:((w2.setCell ⟨w1.heap.size,0,none⟩ (.int .i64 0)).setCell ⟨w1.heap.size,1,none⟩ (.int .i64 0)).heap.size=w2.heap.size:=by simp
   go_wp2_with (fail)
   generalize (w2.setCell ⟨w1.heap.size,0,none⟩ (.int .i64 0)).setCell ⟨w1.heap.size,1,none⟩ (.int .i64 0)=wz at *
   have hly:=hlz.frP (x:=wz.heap.size) (Fr.al wz (.cells #[.int .i64 kc,.string yc,.int .i64 mc,.slice ac nc cc] 25)) (Q:=fun b=>w1.heap.size<b∧b<(wz.alloc (.cells #[.int .i64 kc,.string yc,.int .i64 mc,.slice ac nc cc] 25)).heap.size) (fun b hb=>⟨by omega,by omega⟩) (fun b hb=>⟨hb.1,by rw [World.size_alloc];omega⟩)
   have hbn:=Box4.new wz (.int .i64 kc) (.string yc) (.int .i64 mc) (.slice ac nc cc) 25
   refine (osmall q.1 _ _ (hly.to (fun b hb=>hb.2) (fun _ _ _=>rfl))).mono ?_
   rintro e w3 ⟨rfl,hb3⟩
   have hbw3:Below w.heap.size w w3:=(hbz.alloc (by omega) _).trans (hb3.mono (by simp;omega))
   obtain ⟨q0,q1,q2,q3,t0,t1,t2,t3⟩:=(hB1z.alloc (.cells #[.int .i64 kc,.string yc,.int .i64 mc,.slice ac nc cc] 25)).below hb3
   obtain ⟨r0,r1,u0,u1⟩:=(hB2z.alloc (.cells #[.int .i64 kc,.string yc,.int .i64 mc,.slice ac nc cc] 25)).below hb3
   obtain ⟨n0,n1,n2,n3,_,_,_,_⟩:=hbn.below hb3
   rw [hsz] at n0 n1 n2 n3
   have hl3:=hly.frP (x:=w.heap.size) (Fr.below hb3) (Q:=fun b=>w1.heap.size<b∧b<w3.heap.size) (fun b hb=>⟨hb.2,by omega⟩) (fun b hb=>⟨hb.1,Nat.lt_of_lt_of_le hb.2 hb3.size⟩)
   cases hfit:fitsT q.1
   case true =>
    go_wp2
    refine bodyPost_ret (v:=.tuple #[.agg #[.int .i64 kc,.string yc,.int .i64 mc,.slice ac nc cc],.agg #[.int .i64 0,.int .i64 0]]) (by simp [results,Tryz.results12,go_sem,q0,q1,q2,q3,r0,r1]) rfl ?_
    have ej:judge ts x.size q=⟨q.1,0,0⟩:=by unfold judge;rw [hbad,hfit];rfl
    rw [ej]
    refine ⟨_,rfl,?_,below6 hbw3 _ _ _ _ _ _⟩
    exact (hl3.frP (x:=w.heap.size) (Fr.put _ _ _ _ _ _) (fun b hb=>⟨hb.2,by omega⟩) (fun b hb=>hb)).frP (x:=w.heap.size+1) (((Fr.refl _ _).set 0 _).set 1 _) (fun b hb=>⟨by simpa using hb.2,by omega⟩) (fun b hb=>⟨by omega,by simpa using hb.2⟩)
   case false =>
    go_wp2
    refine bodyPost_ret (v:=.tuple #[.agg #[.int .i64 0,.string empty,.int .i64 0,.slice none 0 0],.agg #[.int .i64 1,.int .i64 0]]) (by simp [results,Tryz.results12,go_sem,q0,q1,q2,q3,r0,r1,empty]) rfl ?_
    have ej:judge ts x.size q=⟨none0,1,0⟩:=by unfold judge;rw [hbad,hfit];rfl
    rw [ej]
    exact PsOut.none (below6 hbw3 _ _ _ _ _ _)
end syn
namespace face
open lexs (Tok scan)
open syn
mutual
def InT:Tree→Prop
 | .node k _ _ ks=>(k=0∨6≤k)∧InL ks
def InL:List Tree→Prop
 | []=>True
 | t :: r=>InT t∧InL r
end
theorem InL.snoc {t:Tree} (ht:InT t):∀ {ks:List Tree},InL ks→InL (ks++[t])
 | [],_=>by show InT t∧InL [];exact ⟨ht,by unfold InL;trivial⟩
 | a :: r,h=>by
  unfold InL at h
  show InT a∧InL (r++[t])
  exact ⟨h.1,InL.snoc ht h.2⟩
theorem inT_leaf {k m:Int} {x:ByteArray} (h:k=0∨6≤k):InT (.node k x m []):=by unfold InT;exact ⟨h,by unfold InL;trivial⟩
theorem inT_one {k m:Int} {x:ByteArray} {t:Tree} (h:k=0∨6≤k) (ht:InT t):InT (.node k x m [t]):=by
 unfold InT InL InL;exact ⟨h,ht,trivial⟩
theorem inT_two {k m:Int} {x:ByteArray} {t u:Tree} (h:k=0∨6≤k) (ht:InT t) (hu:InT u):InT (.node k x m [t,u]):=by
 unfold InT InL InL InL;exact ⟨h,ht,hu,trivial⟩
theorem inT_three {k m:Int} {x:ByteArray} {t u v:Tree} (h:k=0∨6≤k) (ht:InT t) (hu:InT u) (hv:InT v):InT (.node k x m [t,u,v]):=by
 unfold InT InL InL InL InL;exact ⟨h,ht,hu,hv,trivial⟩
section
variable (ts:List Tok)
structure InE (f:Nat):Prop where
 ex:∀ s q,exprF ts f s=some q→InT q.1
 bo:∀ l s q,boundF ts f l s=some q→InT q.1
 bl:∀ l n s q,InT n→boundL ts f l n s=some q→InT q.1
 un:∀ s q,unaryF ts f s=some q→InT q.1
 ak:∀ s q,askedF ts f s=some q→InT q.1
 pl:∀ x s q,placeF ts f x s=some q→InT q.1
 ca:∀ x s q,callF ts f x s=some q→InT q.1
 cl:∀ x ks s on q,InL ks→callL ts f x ks s on=some q→InT q.1
theorem number_in (s:St):InT (number ts s).1:=by
 unfold number
 split
 ·exact inT_leaf (.inr (by omega))
 ·split<;>exact inT_leaf (.inr (by omega))
theorem inE:∀ f,InE ts f
 | 0=>by
  constructor
  ·intro s q h;unfold exprF at h;cases h
  ·intro l s q h;unfold boundF at h;cases h
  ·intro l n s q hn h;unfold boundL at h;cases h
  ·intro s q h;unfold unaryF at h;cases h
  ·intro s q h;unfold askedF at h;cases h
  ·intro x s q h;unfold placeF at h;cases h
  ·intro x s q h;unfold callF at h;cases h
  ·intro x ks s on q hk h;unfold callL at h;cases h
 | f+1=>by
  have ih:=inE f
  constructor
  ·intro s q h
   unfold exprF at h
   split at h
   ·cases h;exact inT_leaf (.inl rfl)
   ·exact ih.bo _ _ _ h
  ·intro l s q h
   unfold boundF at h
   split at h
   ·exact ih.un _ _ h
   ·obtain ⟨p,hp,h⟩:=Option.bind_eq_some_iff.1 h
    exact ih.bl _ _ _ _ (ih.bo _ _ _ hp) h
  ·intro l n s q hn h
   unfold boundL at h
   split at h
   ·cases h;exact hn
   ·split at h
    ·cases h;exact hn
    ·obtain ⟨p,hp,h⟩:=Option.bind_eq_some_iff.1 h
     have h2:=ih.bo _ _ _ hp
     split at h
     ·cases h;exact inT_two (.inr (by omega)) hn h2
     ·exact ih.bl _ _ _ _ (inT_two (.inr (by omega)) hn h2) h
  ·intro s q h
   unfold unaryF at h
   split at h
   ·obtain ⟨p,hp,h⟩:=Option.bind_eq_some_iff.1 h
    cases h;exact inT_one (.inr (by omega)) (ih.un _ _ hp)
   ·split at h
    ·obtain ⟨p,hp,h⟩:=Option.bind_eq_some_iff.1 h
     cases h;exact inT_one (.inr (by omega)) (ih.un _ _ hp)
    ·split at h
     ·exact ih.ak _ _ h
     ·split at h
      ·cases h;exact number_in ts s
      ·split at h
       ·exact ih.ca _ _ _ h
       ·exact ih.pl _ _ _ h
  ·intro s q h
   unfold askedF at h
   obtain ⟨p,hp,h⟩:=Option.bind_eq_some_iff.1 h
   cases h
   show InT p.1
   exact ih.ex _ _ hp
  ·intro x s q h
   unfold placeF at h
   split at h
   ·obtain ⟨p,hp,h⟩:=Option.bind_eq_some_iff.1 h
    cases h;exact inT_one (.inr (by omega)) (ih.ex _ _ hp)
   ·cases h;exact inT_leaf (.inr (by omega))
  ·intro x s q h
   unfold callF at h
   split at h
   ·cases h;exact inT_leaf (.inr (by omega))
   ·exact ih.cl _ _ _ _ _ (by unfold InL;trivial) h
  ·intro x ks s on q hk h
   unfold callL at h
   split at h
   ·obtain ⟨p,hp,h⟩:=Option.bind_eq_some_iff.1 h
    exact ih.cl _ _ _ _ _ (InL.snoc (ih.ex _ _ hp) hk) h
   ·cases h
    show InT (.node 18 x 0 ks)
    unfold InT
    exact ⟨.inr (by omega),hk⟩
structure InS (f:Nat):Prop where
 bl:∀ s q,blockF ts f s=some q→InT q.1
 li:∀ ks s q,InL ks→blockL ts f ks s=some q→InT q.1
 st:∀ s q,statF ts f s=some q→InT q.1
theorem inS:∀ f,InS ts f
 | 0=>by
  constructor
  ·intro s q h;unfold blockF at h;cases h
  ·intro ks s q hk h;unfold blockL at h;cases h
  ·intro s q h;unfold statF at h;cases h
 | f+1=>by
  have ih:=inS f
  have ie:=inE ts f
  constructor
  ·intro s q h
   unfold blockF at h
   exact ih.li _ _ _ (by unfold InL;trivial) h
  ·intro ks s q hk h
   unfold blockL at h
   have hn:InT (.node 6 empty 0 ks):=by unfold InT;exact ⟨.inr (by omega),hk⟩
   split at h
   ·cases h;exact hn
   ·split at h
    ·cases h;exact hn
    ·obtain ⟨p,hp,h⟩:=Option.bind_eq_some_iff.1 h
     exact ih.li _ _ _ (InL.snoc (ih.st _ _ hp) hk) h
  ·intro s q h
   unfold statF at h
   split at h
   ·obtain ⟨x,hx,h⟩:=Option.bind_eq_some_iff.1 h
    obtain ⟨b,hb,h⟩:=Option.bind_eq_some_iff.1 h
    split at h
    ·obtain ⟨c,hc,h⟩:=Option.bind_eq_some_iff.1 h
     cases h;exact inT_three (.inr (by omega)) (ie.ak _ _ hx) (ih.bl _ _ hb) (ih.bl _ _ hc)
    ·cases h;exact inT_two (.inr (by omega)) (ie.ak _ _ hx) (ih.bl _ _ hb)
   ·split at h
    ·obtain ⟨x,hx,h⟩:=Option.bind_eq_some_iff.1 h
     obtain ⟨b,hb,h⟩:=Option.bind_eq_some_iff.1 h
     cases h;exact inT_two (.inr (by omega)) (ie.ak _ _ hx) (ih.bl _ _ hb)
    ·split at h
     ·obtain ⟨x,hx,h⟩:=Option.bind_eq_some_iff.1 h
      cases h;exact inT_one (.inr (by omega)) (ie.ex _ _ hx)
     ·split at h
      ·obtain ⟨x,hx,h⟩:=Option.bind_eq_some_iff.1 h
       cases h;exact inT_one (.inr (by omega)) (ie.ca _ _ _ hx)
      ·split at h
       ·obtain ⟨x,hx,h⟩:=Option.bind_eq_some_iff.1 h
        cases h;exact inT_one (.inr (by omega)) (ie.ex _ _ hx)
       ·split at h
        ·obtain ⟨x,hx,h⟩:=Option.bind_eq_some_iff.1 h
         cases h;exact inT_one (.inr (by omega)) (ie.pl _ _ _ hx)
        ·split at h
         ·obtain ⟨x,hx,h⟩:=Option.bind_eq_some_iff.1 h
          cases h;exact inT_one (.inr (by omega)) (ie.ex _ _ hx)
         ·obtain ⟨x,hx,h⟩:=Option.bind_eq_some_iff.1 h
          obtain ⟨y,hy,h⟩:=Option.bind_eq_some_iff.1 h
          cases h;exact inT_two (.inr (by omega)) (ie.pl _ _ _ hx) (ie.ex _ _ hy)
end
/-! declarations -/
def bI (b:Bool):Int:=if b then 1 else 0
inductive Kid where
 | imp (x:ByteArray)
 | var (x:ByteArray) (p l:Bool) (n:Option Int)
 | proc (x:ByteArray) (p l:Bool) (g:Option Bool) (ps:List (ByteArray × Bool)) (b:Tree)
def gI:Option Bool→Int
 | none=>0
 | some b=>4+4*bI b
def parT (q:ByteArray × Bool):Tree:=.node 5 q.1 (bI q.2) []
def Kid.tree:Kid→Tree
 | .imp x=>.node 2 x 0 []
 | .var x p l none=>.node 3 x (2*bI p+bI l) []
 | .var x p l (some n)=>.node 3 x (2*bI p+bI l) [.node 15 empty n []]
 | .proc x p l g ps b=>.node 4 x (2*bI p+bI l+gI g) (ps.map parT++[b])
section
variable (ts:List Tok)
theorem label_is (s:St):∃ l:Bool,(label ts s).1=bI l:=by
 unfold label
 split
 ·exact ⟨true,rfl⟩
 ·exact ⟨false,rfl⟩
theorem pub_is (s:St):∃ p:Bool,pubN ts s=2*bI p:=by
 unfold pubN
 split
 ·exact ⟨true,rfl⟩
 ·exact ⟨false,rfl⟩
theorem gives_is (p:Bool) (s:St):∃ (l:Bool) (g:Option Bool),givesN ts (2*bI p) s=2*bI p+bI l+gI g:=by
 obtain ⟨l,hl⟩:=label_is ts s
 unfold givesN
 split
 ·obtain ⟨m,hm⟩:=label_is ts (label ts s).2.next
  refine ⟨l,some m,?_⟩
  rw [hl,hm]
  show _=2*bI p+bI l+(4+4*bI m)
  omega
 ·exact ⟨l,none,by rw [hl];show _=2*bI p+bI l+0;omega⟩
theorem number_is (s:St):∃ n,(number ts s).1=.node 15 empty n []:=by
 unfold number
 split
 ·exact ⟨_,rfl⟩
 ·split<;>exact ⟨_,rfl⟩
end
end face
namespace face
open syn
def Kid.good:Kid→Prop
 | .imp x=>x.size≤16
 | .var x _ _ _=>x.size≤16
 | .proc x _ _ _ ps b=>x.size≤16∧(∀ q∈ps,q.1.size≤16)∧InT b
end face
namespace face
open lexs (Tok scan scan_len)
open syn
section
variable (ts:List Tok)
theorem name_size (s:St):(name ts s).1.size≤16:=by
 unfold name
 split
 ·rename_i h
  unfold isName at h
  simp only [Bool.and_eq_true,decide_eq_true_eq] at h
  exact h.1.1.1.2
 ·exact Nat.zero_le _
end
def Kid.named:Kid→Prop
 | .imp x=>isName x=true
 | .var x _ _ _=>isName x=true
 | .proc x _ _ _ ps _=>isName x=true∧∀ q∈ps,isName q.1=true
theorem name_short {x:ByteArray} (h:isName x=true):x.size≤16:=by
 unfold isName at h
 simp only [Bool.and_eq_true,decide_eq_true_eq] at h
 exact h.1.1.1.2
section
variable (ts:List Tok)
theorem ok_of {s t:St} (hst:s.bad=true→t=s) (h:t.bad=false):s.bad=false:=by
 cases hs:s.bad
 ·rfl
 ·rw [hst hs,hs] at h;cases h
theorem name_named {s:St} (h:(name ts s).2.bad=false):isName (name ts s).1=true∧s.bad=false:=by
 refine ⟨?_,ok_of (fun hs=>name_st hs) h⟩
 unfold name at h ⊢
 split
 ·assumption
 ·rename_i hn
  rw [if_neg hn] at h
  simp [St.fail] at h
theorem paramsL_st:∀ (f:Nat) (ks:List Tree) (s:St) (q:List Tree × St),s.bad=true→paramsL ts f ks s=some q→q.2=s
 | 0,ks,s,q,hb,h=>by unfold paramsL at h;cases h
 | f+1,ks,s,q,hb,h=>by
  unfold paramsL at h
  rw [label_st hb,name_st hb,eqS_bad (by decide) hb,if_neg (by decide)] at h
  cases h
  rfl
theorem params_st (f:Nat) (s:St) (q:List Tree × St) (hb:s.bad=true) (h:params ts f s=some q):q.2=s:=by
 unfold params at h
 rw [eqS_bad (by decide) hb,if_neg (by decide)] at h
 exact paramsL_st ts f [] s q hb h
theorem paramsL_is3:∀ (f:Nat) (ps:List (ByteArray × Bool)) (s:St) (q:List Tree × St),(∀ q∈ps,isName q.1=true)→paramsL ts f (ps.map parT) s=some q→q.2.bad=false→∃ ps':List (ByteArray × Bool),q.1=ps'.map parT∧∀ q∈ps',isName q.1=true
 | 0,ps,s,q,hs,h,hb=>by unfold paramsL at h;cases h
 | f+1,ps,s,q,hs,h,hb=>by
  unfold paramsL at h
  obtain ⟨l,hl⟩:=label_is ts s
  have e:ps.map parT++[.node 5 (name ts (label ts s).2).1 (label ts s).1 []]=(ps++[((name ts (label ts s).2).1,l)]).map parT:=by
   rw [List.map_append,hl];rfl
  rw [e] at h
  have key:(name ts (label ts s).2).2.bad=false→∀ q∈ps++[((name ts (label ts s).2).1,l)],isName q.1=true:=by
   intro hn q hq
   rw [List.mem_append] at hq
   rcases hq with hq | hq
   ·exact hs q hq
   ·simp only [List.mem_singleton] at hq;subst hq;exact (name_named ts hn).1
  split at h
  ·have h1:(name ts (label ts s).2).2.next.bad=false:=ok_of (fun hx=>paramsL_st ts f _ _ _ hx h) hb
   exact paramsL_is3 f _ _ _ (key h1) h hb
  ·cases h;exact ⟨_,rfl,key hb⟩
theorem givesS_st {s:St} (h:s.bad=true):givesS ts s=s:=by
 unfold givesS
 rw [label_st h,eqS_bad (by decide) h,if_neg (by decide)]
theorem varS_st {s:St} (h:s.bad=true):(varS ts s).2=s:=by
 unfold varS
 rw [eqS_bad (by decide) h,if_neg (by decide)]
theorem pubS_st {s:St} (h:s.bad=true):pubS ts s=s:=by
 unfold pubS
 rw [eqS_bad (by decide) h,if_neg (by decide)]
theorem importsL_st (f:Nat) (ks:List Tree) (s:St) (q:List Tree × St) (hb:s.bad=true) (h:importsL ts f ks s=some q):q.2=s:=by
 cases f with
 | zero=>unfold importsL at h;cases h
 | succ f =>
  unfold importsL at h
  rw [eqS_bad (by decide) hb,if_neg (by decide)] at h
  cases h
  rfl
theorem declsL_st (f:Nat) (ks:List Tree) (s:St) (q:List Tree × St) (hb:s.bad=true) (h:declsL ts f ks s=some q):q.2=s:=by
 cases f with
 | zero=>unfold declsL at h;cases h
 | succ f =>
  unfold declsL at h
  rw [hb,Bool.true_or,if_pos rfl] at h
  cases h
  rfl
end
end face
namespace chk
open lexs (Tok scan scan_len)
open syn face
def LongN (x:ByteArray):Prop:=isName x=true∨∃ a b,isName a=true∧isName b=true∧x=a++⟨#[46]⟩++b
inductive ExT:Tree→Prop
 | num (n:Nat):ExT (.node 15 empty n [])
 | nam {x:ByteArray}:LongN x→ExT (.node 16 x 0 [])
 | item {x:ByteArray} {e:Tree}:LongN x→ExT e→ExT (.node 17 x 0 [e])
 | call {x:ByteArray} {ks:List Tree}:LongN x→(∀ t∈ks,ExT t)→ExT (.node 18 x 0 ks)
 | op {m:Int} {a b:Tree}:ExT a→ExT b→ExT (.node 19 empty m [a,b])
 | neg {a:Tree}:ExT a→ExT (.node 20 empty 0 [a])
 | nott {a:Tree}:ExT a→ExT (.node 21 empty 0 [a])
inductive PlT:Tree→Prop
 | nam {x:ByteArray}:LongN x→PlT (.node 16 x 0 [])
 | item {x:ByteArray} {e:Tree}:LongN x→ExT e→PlT (.node 17 x 0 [e])
theorem PlT.ex {t:Tree} (h:PlT t):ExT t:=by
 cases h with
 | nam h=>exact .nam h
 | item h e=>exact .item h e
inductive CaT:Tree→Prop
 | mk {x:ByteArray} {ks:List Tree}:LongN x→(∀ t∈ks,ExT t)→CaT (.node 18 x 0 ks)
theorem CaT.ex {t:Tree} (h:CaT t):ExT t:=by
 cases h with
 | mk h e=>exact .call h e
mutual
inductive StT:Tree→Prop
 | loc {x:ByteArray} (l:Bool) {e:Tree}:isName x=true→ExT e→StT (.node 7 x (bI l) [e])
 | set {p e:Tree}:PlT p→ExT e→StT (.node 8 empty 0 [p,e])
 | dd {c:Tree}:CaT c→StT (.node 9 empty 0 [c])
 | ift {e b:Tree}:ExT e→BlT b→StT (.node 10 empty 0 [e,b])
 | ife {e b c:Tree}:ExT e→BlT b→BlT c→StT (.node 10 empty 0 [e,b,c])
 | whi {e b:Tree}:ExT e→BlT b→StT (.node 11 empty 0 [e,b])
 | out (l:Bool) {e:Tree}:ExT e→StT (.node 12 empty (bI l) [e])
 | inn (l:Bool) {p:Tree}:PlT p→StT (.node 13 empty (bI l) [p])
 | ret {e:Tree}:ExT e→StT (.node 14 empty 0 [e])
inductive BlT:Tree→Prop
 | mk {ks:List Tree}:(∀ t∈ks,StT t)→BlT (.node 6 empty 0 ks)
end
section
variable (ts:List Tok)
theorem eat_bad (x:ByteArray) (s:St):(eat ts x s).2.bad=s.bad:=by
 unfold eat
 split<;>rfl
theorem whole_long {s:St} (h:(whole ts s).2.bad=false):LongN (whole ts s).1∧s.bad=false:=by
 refine ⟨?_,ok_of (fun hs=>whole_st hs) h⟩
 unfold whole at h ⊢
 dsimp only at h ⊢
 split at h
 ·rename_i he
  rw [if_pos he]
  obtain ⟨n2,b2⟩:=name_named ts h
  rw [eat_bad] at b2
  obtain ⟨n1,_⟩:=name_named ts b2
  exact .inr ⟨_,_,n1,n2,rfl⟩
 ·rename_i he
  rw [if_neg he]
  exact .inl (name_named ts h).1
structure ShE (f:Nat):Prop where
 ex:∀ s q,exprF ts f s=some q→q.2.bad=false→ExT q.1
 bo:∀ l s q,boundF ts f l s=some q→q.2.bad=false→ExT q.1
 bl:∀ l n s q,ExT n→boundL ts f l n s=some q→q.2.bad=false→ExT q.1
 un:∀ s q,unaryF ts f s=some q→q.2.bad=false→ExT q.1
 ak:∀ s q,askedF ts f s=some q→q.2.bad=false→ExT q.1
 pl:∀ x s q,LongN x→placeF ts f x s=some q→q.2.bad=false→PlT q.1
 ca:∀ x s q,LongN x→callF ts f x s=some q→q.2.bad=false→CaT q.1
 cl:∀ x ks s on q,LongN x→(∀ t∈ks,ExT t)→callL ts f x ks s on=some q→q.2.bad=false→CaT q.1
theorem number_ex {s:St} (h:(number ts s).2.bad=false):ExT (number ts s).1:=by
 unfold number at h ⊢
 cases hh:here ts s with
 | none=>rw [hh] at h;simp [St.fail] at h
 | some t =>
  rw [hh] at h
  dsimp only at h ⊢
  split at h
  ·rename_i h2
   rw [if_pos h2]
   exact .num _
  ·simp [St.fail] at h
theorem shE:∀ f,ShE ts f
 | 0=>by
  constructor
  ·intro s q h;unfold exprF at h;cases h
  ·intro l s q h;unfold boundF at h;cases h
  ·intro l n s q hn h;unfold boundL at h;cases h
  ·intro s q h;unfold unaryF at h;cases h
  ·intro s q h;unfold askedF at h;cases h
  ·intro x s q hx h;unfold placeF at h;cases h
  ·intro x s q hx h;unfold callF at h;cases h
  ·intro x ks s on q hx hk h;unfold callL at h;cases h
 | f+1=>by
  have ih:=shE f
  have st:=Go.Proofs.YtfopddgjdaoidaaGreatDoor.syn.stuck ts f
  constructor
  ·intro s q h hb
   unfold exprF at h
   split at h
   ·rename_i hs
    cases h
    rw [hs] at hb
    cases hb
   ·exact ih.bo _ _ _ h hb
  ·intro l s q h hb
   unfold boundF at h
   split at h
   ·exact ih.un _ _ h hb
   ·obtain ⟨p,hp,h⟩:=Option.bind_eq_some_iff.1 h
    have b1:p.2.bad=false:=ok_of (fun hx=>st.bl _ _ _ _ hx h) hb
    exact ih.bl _ _ _ _ (ih.bo _ _ _ hp b1) h hb
  ·intro l n s q hn h hb
   unfold boundL at h
   split at h
   ·cases h;exact hn
   ·split at h
    ·cases h;exact hn
    ·obtain ⟨p,hp,h⟩:=Option.bind_eq_some_iff.1 h
     split at h
     ·cases h
      exact .op hn (ih.bo _ _ _ hp hb)
     ·have b1:p.2.bad=false:=ok_of (fun hx=>st.bl _ _ _ _ hx h) hb
      exact ih.bl _ _ _ _ (.op hn (ih.bo _ _ _ hp b1)) h hb
  ·intro s q h hb
   unfold unaryF at h
   split at h
   ·obtain ⟨p,hp,h⟩:=Option.bind_eq_some_iff.1 h
    cases h;exact .neg (ih.un _ _ hp hb)
   ·split at h
    ·obtain ⟨p,hp,h⟩:=Option.bind_eq_some_iff.1 h
     cases h;exact .nott (ih.un _ _ hp hb)
    ·split at h
     ·exact ih.ak _ _ h hb
     ·split at h
      ·cases h;exact number_ex ts hb
      ·split at h
       ·have b1:(whole ts s).2.bad=false:=ok_of (fun hx=>st.c _ _ _ hx h) hb
        exact (ih.ca _ _ _ (whole_long ts b1).1 h hb).ex
       ·have b1:(whole ts s).2.bad=false:=ok_of (fun hx=>st.p _ _ _ hx h) hb
        exact (ih.pl _ _ _ (whole_long ts b1).1 h hb).ex
  ·intro s q h hb
   unfold askedF at h
   obtain ⟨p,hp,h⟩:=Option.bind_eq_some_iff.1 h
   cases h
   have b1:p.2.bad=false:=ok_of (t:=must ts ⟨#[41]⟩ p.2) (fun hx=>must_st (by decide) hx) hb
   show ExT p.1
   exact ih.ex _ _ hp b1
  ·intro x s q hx h hb
   unfold placeF at h
   split at h
   ·obtain ⟨p,hp,h⟩:=Option.bind_eq_some_iff.1 h
    cases h;exact .item hx (ih.ex _ _ hp (ok_of (fun hx=>must_st (by decide) hx) hb))
   ·cases h;exact .nam hx
  ·intro x s q hx h hb
   unfold callF at h
   split at h
   ·cases h;exact .mk hx (fun t ht=>by cases ht)
   ·exact ih.cl _ _ _ _ _ hx (fun t ht=>by cases ht) h hb
  ·intro x ks s on q hx hk h hb
   unfold callL at h
   split at h
   ·obtain ⟨p,hp,h⟩:=Option.bind_eq_some_iff.1 h
    have b1:(eat ts ⟨#[44]⟩ p.2).2.bad=false:=ok_of (fun hx=>st.cl _ _ _ _ _ hx h) hb
    rw [eat_bad] at b1
    refine ih.cl _ _ _ _ _ hx ?_ h hb
    intro t ht
    rw [List.mem_append] at ht
    rcases ht with ht | ht
    ·exact hk t ht
    ·simp only [List.mem_singleton] at ht;subst ht;exact ih.ex _ _ hp b1
   ·cases h
    exact .mk hx hk
structure ShS (f:Nat):Prop where
 bl:∀ s q,blockF ts f s=some q→q.2.bad=false→BlT q.1
 li:∀ ks s q,(∀ t∈ks,StT t)→blockL ts f ks s=some q→q.2.bad=false→BlT q.1
 st:∀ s q,statF ts f s=some q→q.2.bad=false→StT q.1
theorem shS:∀ f,ShS ts f
 | 0=>by
  constructor
  ·intro s q h;unfold blockF at h;cases h
  ·intro ks s q hk h;unfold blockL at h;cases h
  ·intro s q h;unfold statF at h;cases h
 | f+1=>by
  have ih:=shS f
  have ie:=shE ts f
  have se:=Go.Proofs.YtfopddgjdaoidaaGreatDoor.syn.stuck ts f
  have sb:=stuck2 ts f
  constructor
  ·intro s q h hb
   unfold blockF at h
   exact ih.li _ _ _ (fun t ht=>by cases ht) h hb
  ·intro ks s q hk h hb
   unfold blockL at h
   split at h
   ·cases h;exact .mk hk
   ·split at h
    ·cases h;exact .mk hk
    ·obtain ⟨p,hp,h⟩:=Option.bind_eq_some_iff.1 h
     have b1:p.2.bad=false:=ok_of (fun hx=>sb.bl _ _ _ hx h) hb
     refine ih.li _ _ _ ?_ h hb
     intro t ht
     rw [List.mem_append] at ht
     rcases ht with ht | ht
     ·exact hk t ht
     ·simp only [List.mem_singleton] at ht;subst ht;exact ih.st _ _ hp b1
  ·intro s q h hb
   unfold statF at h
   split at h
   ·obtain ⟨x,hx,h⟩:=Option.bind_eq_some_iff.1 h
    obtain ⟨b,hbk,h⟩:=Option.bind_eq_some_iff.1 h
    split at h
    ·obtain ⟨c,hc,h⟩:=Option.bind_eq_some_iff.1 h
     cases h
     have b1:b.2.next.bad=false:=ok_of (fun hy=>sb.bk _ _ hy hc) hb
     replace b1:b.2.bad=false:=b1
     have b2:x.2.bad=false:=ok_of (fun hy=>sb.bk _ _ hy hbk) b1
     exact .ife (ie.ak _ _ hx b2) (ih.bl _ _ hbk b1) (ih.bl _ _ hc hb)
    ·cases h
     have b2:x.2.bad=false:=ok_of (fun hy=>sb.bk _ _ hy hbk) hb
     exact .ift (ie.ak _ _ hx b2) (ih.bl _ _ hbk hb)
   ·split at h
    ·obtain ⟨x,hx,h⟩:=Option.bind_eq_some_iff.1 h
     obtain ⟨b,hbk,h⟩:=Option.bind_eq_some_iff.1 h
     cases h
     have b2:x.2.bad=false:=ok_of (fun hy=>sb.bk _ _ hy hbk) hb
     exact .whi (ie.ak _ _ hx b2) (ih.bl _ _ hbk hb)
    ·split at h
     ·obtain ⟨x,hx,h⟩:=Option.bind_eq_some_iff.1 h
      cases h
      have b1:x.2.bad=false:=ok_of (fun hy=>must_st (by decide) hy) hb
      have b2:(must ts ⟨#[61]⟩ (name ts (label ts s).2).2).bad=false:=ok_of (fun hy=>se.e _ _ hy hx) b1
      have b3:(name ts (label ts s).2).2.bad=false:=ok_of (fun hy=>must_st (by decide) hy) b2
      obtain ⟨l,hl⟩:=label_is ts s
      rw [hl]
      exact .loc l (name_named ts b3).1 (ie.ex _ _ hx b1)
     ·split at h
      ·obtain ⟨x,hx,h⟩:=Option.bind_eq_some_iff.1 h
       cases h
       have b1:x.2.bad=false:=ok_of (fun hy=>must_st (by decide) hy) hb
       have b2:(whole ts s.next).2.bad=false:=ok_of (fun hy=>se.c _ _ _ hy hx) b1
       exact .dd (ie.ca _ _ _ (whole_long ts b2).1 hx b1)
      ·split at h
       ·obtain ⟨x,hx,h⟩:=Option.bind_eq_some_iff.1 h
        cases h
        have b1:x.2.bad=false:=ok_of (fun hy=>must_st (by decide) hy) hb
        obtain ⟨l,hl⟩:=label_is ts s.next
        rw [hl]
        exact .out l (ie.ex _ _ hx b1)
       ·split at h
        ·obtain ⟨x,hx,h⟩:=Option.bind_eq_some_iff.1 h
         cases h
         have b1:x.2.bad=false:=ok_of (fun hy=>must_st (by decide) hy) hb
         have b2:(whole ts (label ts s.next).2).2.bad=false:=ok_of (fun hy=>se.p _ _ _ hy hx) b1
         obtain ⟨l,hl⟩:=label_is ts s.next
         rw [hl]
         exact .inn l (ie.pl _ _ _ (whole_long ts b2).1 hx b1)
        ·split at h
         ·obtain ⟨x,hx,h⟩:=Option.bind_eq_some_iff.1 h
          cases h
          have b1:x.2.bad=false:=ok_of (fun hy=>must_st (by decide) hy) hb
          exact .ret (ie.ex _ _ hx b1)
         ·obtain ⟨x,hx,h⟩:=Option.bind_eq_some_iff.1 h
          obtain ⟨y,hy,h⟩:=Option.bind_eq_some_iff.1 h
          cases h
          have b1:y.2.bad=false:=ok_of (fun hz=>must_st (by decide) hz) hb
          have b2:(must ts ⟨#[61]⟩ x.2).bad=false:=ok_of (fun hz=>se.e _ _ hz hy) b1
          have b3:x.2.bad=false:=ok_of (fun hz=>must_st (by decide) hz) b2
          have b4:(whole ts s).2.bad=false:=ok_of (fun hz=>se.p _ _ _ hz hx) b3
          exact .set (ie.pl _ _ _ (whole_long ts b4).1 hx b3) (ie.ex _ _ hy b1)
end
def deepK:Kid→Prop
 | .proc _ _ _ _ _ b=>BlT b
 | _=>True
section
variable (ts:List Tok)
theorem decl_is4 (f:Nat) (s:St) (q:Tree × St) (h:declF ts f s=some q) (hbad:q.2.bad=false):∃ k:Kid,q.1=k.tree∧k.good∧k.named∧deepK k∧s.bad=false:=by
 unfold declF at h
 obtain ⟨p,hp⟩:=pub_is ts s
 rw [hp] at h
 split at h
 ·obtain ⟨a,ha,h⟩:=Option.bind_eq_some_iff.1 h
  obtain ⟨b,hb,h⟩:=Option.bind_eq_some_iff.1 h
  cases h
  have b1:(givesS ts (must ts ⟨#[41]⟩ a.2)).bad=false:=ok_of (fun hx=>(stuck2 ts f).bk _ _ hx hb) hbad
  have b2:(must ts ⟨#[41]⟩ a.2).bad=false:=ok_of (fun hx=>givesS_st ts hx) b1
  have b3:a.2.bad=false:=ok_of (fun hx=>must_st (by decide) hx) b2
  have b4:(must ts ⟨#[40]⟩ (name ts (pubS ts s).next).2).bad=false:=ok_of (fun hx=>params_st ts f _ _ hx ha) b3
  have b5:(name ts (pubS ts s).next).2.bad=false:=ok_of (fun hx=>must_st (by decide) hx) b4
  obtain ⟨n1,b6⟩:=name_named ts b5
  have b7:s.bad=false:=ok_of (fun hx=>pubS_st ts hx) b6
  obtain ⟨ps,hps,hsz⟩:∃ ps:List (ByteArray × Bool),a.1=ps.map parT∧∀ q∈ps,isName q.1=true:=by
   unfold params at ha
   split at ha
   ·cases ha;exact ⟨[],rfl,fun q hq=>by cases hq⟩
   ·exact paramsL_is3 ts f [] _ _ (fun q hq=>by cases hq) ha b3
  obtain ⟨l,g,hg⟩:=gives_is ts p (must ts ⟨#[41]⟩ a.2)
  refine ⟨.proc (name ts (pubS ts s).next).1 p l g ps b.1,?_,⟨face.name_size ts _,fun q hq=>name_short (hsz q hq),(inS ts f).bl _ _ hb⟩,⟨n1,hsz⟩,(shS ts f).bl _ _ hb hbad,b7⟩
  show Tree.node 4 _ _ _=Tree.node 4 _ _ _
  rw [hg,hps]
 ·cases h
  have b1:(varS ts (name ts (label ts (pubS ts s)).2).2).2.bad=false:=ok_of (fun hx=>must_st (by decide) hx) hbad
  have b2:(name ts (label ts (pubS ts s)).2).2.bad=false:=ok_of (fun hx=>varS_st ts hx) b1
  obtain ⟨n1,b3⟩:=name_named ts b2
  have b4:(pubS ts s).bad=false:=ok_of (fun hx=>label_st hx) b3
  have b5:s.bad=false:=ok_of (fun hx=>pubS_st ts hx) b4
  obtain ⟨l,hl⟩:=label_is ts (pubS ts s)
  rw [hl]
  unfold varS
  split
  ·obtain ⟨n,hn⟩:=number_is ts (name ts (label ts (pubS ts s)).2).2.next
   rw [hn]
   exact ⟨.var _ p l (some n),rfl,face.name_size ts _,n1,trivial,b5⟩
  ·exact ⟨.var _ p l none,rfl,face.name_size ts _,n1,trivial,b5⟩
theorem importsL_is4:∀ (f:Nat) (ks:List Kid) (s:St) (q:List Tree × St),(∀ k∈ks,k.good∧k.named∧deepK k)→importsL ts f (ks.map Kid.tree) s=some q→q.2.bad=false→∃ ks':List Kid,q.1=ks'.map Kid.tree∧∀ k∈ks',k.good∧k.named∧deepK k
 | 0,ks,s,q,hk,h,hb=>by unfold importsL at h;cases h
 | f+1,ks,s,q,hk,h,hb=>by
  unfold importsL at h
  split at h
  ·have e:ks.map Kid.tree++[.node 2 (name ts s.next).1 0 []]=(ks++[Kid.imp (name ts s.next).1]).map Kid.tree:=by rw [List.map_append];rfl
   rw [e] at h
   have b1:(must ts ⟨#[59]⟩ (name ts s.next).2).bad=false:=ok_of (fun hx=>importsL_st ts f _ _ _ hx h) hb
   have b2:(name ts s.next).2.bad=false:=ok_of (fun hx=>must_st (by decide) hx) b1
   refine importsL_is4 f _ _ _ ?_ h hb
   intro k hm
   rw [List.mem_append] at hm
   rcases hm with hm | hm
   ·exact hk k hm
   ·simp only [List.mem_singleton] at hm;subst hm;exact ⟨face.name_size ts _,(name_named ts b2).1,trivial⟩
  ·cases h;exact ⟨ks,rfl,hk⟩
theorem declsL_is4:∀ (f:Nat) (ks:List Kid) (s:St) (q:List Tree × St),(∀ k∈ks,k.good∧k.named∧deepK k)→declsL ts f (ks.map Kid.tree) s=some q→q.2.bad=false→∃ ks':List Kid,q.1=ks'.map Kid.tree∧∀ k∈ks',k.good∧k.named∧deepK k
 | 0,ks,s,q,hk,h,hb=>by unfold declsL at h;cases h
 | f+1,ks,s,q,hk,h,hb=>by
  unfold declsL at h
  split at h
  ·cases h;exact ⟨ks,rfl,hk⟩
  ·obtain ⟨p,hp,h⟩:=Option.bind_eq_some_iff.1 h
   have b1:p.2.bad=false:=ok_of (fun hx=>declsL_st ts f _ _ _ hx h) hb
   obtain ⟨k,hk1,hk2,hk3,hk4,_⟩:=decl_is4 ts _ _ _ hp b1
   have e:ks.map Kid.tree++[p.1]=(ks++[k]).map Kid.tree:=by rw [List.map_append,hk1];rfl
   rw [e] at h
   refine declsL_is4 f _ _ _ ?_ h hb
   intro k' hm
   rw [List.mem_append] at hm
   rcases hm with hm | hm
   ·exact hk k' hm
   ·simp only [List.mem_singleton] at hm;subst hm;exact ⟨hk2,hk3,hk4⟩
end
theorem parse_shape4 (x:ByteArray) (h:(parse x).code=0):∃ (m:ByteArray) (ks:List Kid),(parse x).tree=.node 1 m 0 (ks.map Kid.tree)∧m.size≤16∧isName m=true∧(∀ k∈ks,k.good∧k.named∧deepK k)∧fitsT (parse x).tree=true:=by
 unfold parse at h ⊢
 cases hs:scan x.data.toList with
 | err c p =>
  rw [hs] at h
  exact absurd h (lexs.scan_err hs)
 | ok ts =>
  obtain ⟨p,q,hp,hq,hm⟩:=moduleF_has (ts:=ts) (scan_len hs)
  rw [hs] at h
  simp only [hm] at h ⊢
  unfold judge at h ⊢
  cases hb:q.2.bad with
  | true =>
   rw [if_pos hb] at h
   simp at h
  | false =>
   rw [if_neg (by simp [hb])] at h ⊢
   cases hf:fitsT (.node 1 (headX ts) 0 q.1) with
   | false =>
    rw [if_neg (by simp [hf])] at h
    simp at h
   | true =>
    rw [if_pos rfl]
    have b1:p.2.bad=false:=ok_of (fun hx=>declsL_st ts _ _ _ _ hx hq) hb
    have b2:(headS ts).bad=false:=ok_of (fun hx=>importsL_st ts _ _ _ _ hx hp) b1
    have b3:(name ts (must ts ⟨#[109,111,100,117,108,101]⟩ ⟨0,false⟩)).2.bad=false:=ok_of (fun hx=>must_st (by decide) hx) b2
    obtain ⟨ks,e1,hk⟩:=importsL_is4 ts _ [] _ _ (fun k hk=>by cases hk) hp b1
    rw [e1] at hq
    obtain ⟨ks',e2,hk'⟩:=declsL_is4 ts _ ks _ _ hk hq hb
    exact ⟨headX ts,ks',by show Tree.node 1 _ 0 q.1=_;rw [e2],face.name_size ts _,(name_named ts b3).1,hk',hf⟩
end chk
namespace face
open Go.RowKit Go.ChangeShapes Go.WideShapes
open syn (isName eqS)
structure VarD where
 name:ByteArray
 pub:Bool
 label:Int
 size:Int
structure ProcD where
 name:ByteArray
 pub:Bool
 params:List Int
 writes:Int
 gives:Bool
 given:Int
structure FaceD where
 module:ByteArray
 vars:List VarD
 procs:List ProcD
instance:Inhabited VarD:=⟨⟨default,default,default,default⟩⟩
instance:Inhabited ProcD:=⟨⟨default,default,default,default,default,default⟩⟩
def IntsIn (w:World) (v:Value) (l:List Int):Prop:=∃ a c,v=.slice a l.length c∧l.length≤9223372036854775807 ∧
 (l≠[]→∃ g o,a=some ⟨g,o,none⟩∧∀ i (h:i<l.length),w.cell? ⟨g,o+i,none⟩=some (.int .i64 l[i]))
def VarsIn (w:World) (v:Value) (l:List VarD):Prop:=∃ a c,v=.slice a l.length c∧l.length≤4611686018427387903 ∧
 (l≠[]→∃ g o,a=some ⟨g,o,none⟩∧∀ i (h:i<l.length),w.cell? ⟨g,o+i*4,none⟩=some (.string l[i].name)∧w.cell? ⟨g,o+i*4+1,none⟩=some (.bool l[i].pub) ∧
  w.cell? ⟨g,o+i*4+2,none⟩=some (.int .i64 l[i].label)∧w.cell? ⟨g,o+i*4+3,none⟩=some (.int .i64 l[i].size))
def ProcsIn (w:World) (v:Value) (l:List ProcD):Prop:=∃ a c,v=.slice a l.length c∧l.length≤4611686018427387903 ∧
 (l≠[]→∃ g o,a=some ⟨g,o,none⟩∧∀ i (h:i<l.length),w.cell? ⟨g,o+i*6,none⟩=some (.string l[i].name)∧w.cell? ⟨g,o+i*6+1,none⟩=some (.bool l[i].pub) ∧
  (∃ u,w.cell? ⟨g,o+i*6+2,none⟩=some u∧IntsIn w u l[i].params) ∧
  w.cell? ⟨g,o+i*6+3,none⟩=some (.int .i64 l[i].writes)∧w.cell? ⟨g,o+i*6+4,none⟩=some (.bool l[i].gives)∧w.cell? ⟨g,o+i*6+5,none⟩=some (.int .i64 l[i].given))
def FaceIn (w:World) (v:Value) (f:FaceD):Prop:=∃ vv pv,v=.agg #[.string f.module,vv,pv]∧VarsIn w vv f.vars∧ProcsIn w pv f.procs
def procV (p:ProcD) (u:Value):Value:=.agg #[.string p.name,.bool p.pub,u,.int .i64 p.writes,.bool p.gives,.int .i64 p.given]
def varV (v:VarD):Value:=.agg #[.string v.name,.bool v.pub,.int .i64 v.label,.int .i64 v.size]
/-! what was there stays -/
theorem keep {w w':World} {a:Addr} {x:Value} (h:w.cell? a=some x) (hb:Below w.heap.size w w'):w'.cell? a=some x:=by
 rw [hb.cell (World.block_lt_of_cell? w a h)];exact h
theorem IntsIn.below {w w':World} {v:Value} {l:List Int} (h:IntsIn w v l) (hb:Below w.heap.size w w'):IntsIn w' v l:=by
 obtain ⟨a,c,e,hl,hk⟩:=h
 refine ⟨a,c,e,hl,fun hne=>?_⟩
 obtain ⟨g,o,e2,hc⟩:=hk hne
 exact ⟨g,o,e2,fun i hi=>keep (hc i hi) hb⟩
theorem VarsIn.below {w w':World} {v:Value} {l:List VarD} (h:VarsIn w v l) (hb:Below w.heap.size w w'):VarsIn w' v l:=by
 obtain ⟨a,c,e,hl,hk⟩:=h
 refine ⟨a,c,e,hl,fun hne=>?_⟩
 obtain ⟨g,o,e2,hc⟩:=hk hne
 exact ⟨g,o,e2,fun i hi=>⟨keep (hc i hi).1 hb,keep (hc i hi).2.1 hb,keep (hc i hi).2.2.1 hb,keep (hc i hi).2.2.2 hb⟩⟩
theorem ProcsIn.below {w w':World} {v:Value} {l:List ProcD} (h:ProcsIn w v l) (hb:Below w.heap.size w w'):ProcsIn w' v l:=by
 obtain ⟨a,c,e,hl,hk⟩:=h
 refine ⟨a,c,e,hl,fun hne=>?_⟩
 obtain ⟨g,o,e2,hc⟩:=hk hne
 refine ⟨g,o,e2,fun i hi=>?_⟩
 obtain ⟨h0,h1,⟨u,h2,hu⟩,h3,h4,h5⟩:=hc i hi
 exact ⟨keep h0 hb,keep h1 hb,⟨u,keep h2 hb,hu.below hb⟩,keep h3 hb,keep h4 hb,keep h5 hb⟩
theorem FaceIn.below {w w':World} {v:Value} {f:FaceD} (h:FaceIn w v f) (hb:Below w.heap.size w w'):FaceIn w' v f:=by
 obtain ⟨vv,pv,e,h1,h2⟩:=h
 exact ⟨vv,pv,e,h1.below hb,h2.below hb⟩
/-! an argument is opened -/
theorem plain_addr {w:World} {a:Addr} {v:Value} (h:w.cell? a=some v):∃ g o,a=⟨g,o,none⟩:=by
 obtain ⟨g,o,s⟩:=a
 cases s with
 | none=>exact ⟨g,o,rfl⟩
 | some s =>
  unfold World.cell? at h
  simp only at h
  split at h
  ·simp at h
  ·cases h
section
variable {H:Type} {enc:TypeId × Value→H} {W:World} {n:Nat}
theorem cell4:Tryz.prog.cellsOf 76=4:=by kernel_rfl
theorem cell6:Tryz.prog.cellsOf 80=6:=by kernel_rfl
theorem cell1i:Tryz.prog.cellsOf 3=1:=by kernel_rfl
theorem cell3:Tryz.prog.cellsOf 44=3:=by kernel_rfl
end
end face
end Go.Proofs.YtfopddgjdaoidaaGreatDoor
