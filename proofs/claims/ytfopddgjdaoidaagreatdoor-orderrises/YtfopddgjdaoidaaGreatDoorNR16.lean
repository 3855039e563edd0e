/- What the program's statements come to: an NOut. -/
import Derived.Test.YtfopddgjdaoidaaGreatDoorNR15
set_option linter.unusedVariables false
set_option linter.unusedSimpArgs false
set_option maxRecDepth 100000
namespace Go.Proofs.YtfopddgjdaoidaaGreatDoor
namespace chk
open syn face
structure Tab (E:Env) (L:List Loc) (kf:ByteArray→Option FV) (vs:List VarD):Prop where
 ok:EnvOk E
 lab:LabL L
 hv:∀ x,LongN x→(varP kf vs x).map (fun v=>(v.label,v.size))=varF E L x
 hp:∀ x,LongN x→procP kf x=procF E x
section
variable {E:Env} {L:List Loc} {kf:ByteArray→Option FV} {vs:List VarD}
theorem Tab.lv (h:Tab E L kf vs) {x:ByteArray} {v:VarD} (hx:LongN x) (hv:varP kf vs x=some v):Lab v.label∧0≤v.size:=by
 have:=h.hv x hx
 rw [hv] at this
 exact varF_lab h.ok h.lab this.symm
theorem Tab.lp (h:Tab E L kf vs) {x:ByteArray} {p:ProcD} (hx:LongN x) (hp:procP kf x=some p):(∀ l∈p.params,Lab l)∧Lab p.writes∧Lab p.given:=by
 have:=h.hp x hx
 rw [hp] at this
 exact procF_lab h.ok this.symm
theorem Tab.agr (h:Tab E L kf vs) (ctx:Int):Agr E L ctx kf vs :=
 agr_of h.hv h.hp (fun x v hx hv=>h.lv hx hv) (fun x p hx hp=>⟨(h.lp hx hp).1,(h.lp hx hp).2.1⟩)
theorem plF_is (h:Tab E L kf vs) (ctx:Int) {k:Int} {x:ByteArray} {m:Int} {ks:List Tree} (hp:PlT (.node k x m ks)) (a:Int):(plF E L ctx (.node k x m ks) a=match plP kf vs k x a (exL E L ctx ks (a+1)) with
  | .bad c b=>.bad c b
  | .ok q=>.ok (q.1.label,q.2.1,q.2.2))∧∀ q,plP kf vs k x a (exL E L ctx ks (a+1))=.ok q→Lab q.1.label∧Lab q.2.1:=by
 cases hp with
 | nam hx =>
  have e:=h.hv x hx
  have hlv:=fun v=>h.lv (v:=v) hx
  have hX:exL E L ctx [] (a+1)=.ok ([],a+1):=by simp only [exL]
  simp only [plF,plP,hX]
  unfold ownF
  rw [if_pos rfl,← e]
  cases hq:varP kf vs x with
  | none=>exact ⟨rfl,fun q h=>by cases h⟩
  | some v =>
   obtain ⟨h1,h2⟩:=hlv v hq
   dsimp only [Option.map_some]
   by_cases h3:v.size=0
   ·rw [if_pos h3,if_pos (by simp [h3])]
    exact ⟨rfl,fun q h=>by cases h;exact ⟨h1,.inl rfl⟩⟩
   ·rw [if_neg h3,if_neg (by simp;omega)]
    exact ⟨rfl,fun q h=>by cases h⟩
 | item hx he =>
  rename_i t
  have e:=h.hv x hx
  have hlv:=fun v=>h.lv (v:=v) hx
  have hlt:=fun q=>exF_lab (ctx:=ctx) (alone:=false) (t:=t) (a:=a+1) (q:=q) h.ok h.lab
  simp only [plF,exL_one]
  cases hX:exF E L ctx false t (a+1) with
  | bad c b=>exact ⟨rfl,fun q h=>by cases h⟩
  | ok q =>
   have hl:=hlt q hX
   simp only [plP]
   unfold ownF
   rw [if_neg (by decide),if_pos rfl,← e]
   cases hq:varP kf vs x with
   | none=>exact ⟨rfl,fun q h=>by cases h⟩
   | some v =>
    obtain ⟨h1,h2⟩:=hlv v hq
    dsimp only [Option.map_some]
    by_cases h3:0<v.size
    ·rw [if_pos h3,if_pos (by simp [h3])]
     refine ⟨?_,fun q h=>by cases h;exact ⟨h1,hl⟩⟩
     show Res.ok (v.label,jn 0 q.1,q.2)=Res.ok (v.label,q.1,q.2)
     rw [jn0 hl]
    ·rw [if_neg h3,if_neg (by simp;omega)]
     exact ⟨rfl,fun q h=>by cases h⟩
section
variable (p:Pr) (ctx deep a:Int)
theorem st_loc (h:Tab E L kf vs) (hc:Lab ctx) {first:Nat} (hI:InvL L deep first) (x:ByteArray) (l:Bool) (e:Tree):stF E p ctx deep false (.node 7 x (bI l) [e]) L a=match exF E L ctx false e (a+1) with
  | .bad c b=>.bad c b
  | .ok q=>if ((vsOf L).drop first).any (fun o=>eqS o.name x)=true then .bad 5 a else if 20≤L.length then .bad 1 a else if flows (bI l) [q.1,ctx]=false then .bad 7 a else .ok (L++[⟨x,bI l,deep⟩],q.2):=by
 unfold stF
 rw [if_neg (by decide)]
 unfold simF
 rw [if_pos rfl,exL_one,hI.any]
 cases hX:exF E L ctx false e (a+1) with
 | bad c b=>rfl
 | ok q =>
  have hl:=exF_lab h.ok h.lab hX
  dsimp only
  rw [show joinL [q.1] 0=q.1 from jn0 hl]
  simp only [flows2 (bI_lab l) hl hc]
theorem st_set (h:Tab E L kf vs) (hc:Lab ctx) {k:Int} {x:ByteArray} {m:Int} {ks:List Tree} (hp:PlT (.node k x m ks)) (e:Tree):stF E p ctx deep false (.node 8 empty 0 [.node k x m ks,e]) L a=match plP kf vs k x (a+1) (exL E L ctx ks (a+1+1)) with
  | .bad c b=>.bad c b
  | .ok q=>match exF E L ctx false e q.2.2 with
   | .bad c b=>.bad c b
   | .ok s=>if flows q.1.label [s.1,q.2.1,ctx]=false then .bad 7 a else .ok (L,s.2):=by
 unfold stF
 rw [if_neg (by decide)]
 unfold simF
 rw [if_neg (by decide),if_pos rfl]
 obtain ⟨h1,h2⟩:=plF_is h ctx hp (a+1)
 dsimp only
 rw [h1]
 cases hX:plP kf vs k x (a+1) (exL E L ctx ks (a+1+1)) with
 | bad c b=>rfl
 | ok q =>
  obtain ⟨l1,l2⟩:=h2 q hX
  dsimp only
  cases hY:exF E L ctx false e q.2.2 with
  | bad c b=>rfl
  | ok s =>
   have hl:=exF_lab h.ok h.lab hY
   dsimp only
   simp only [flows3 l1 hl l2 hc]
theorem st_do (h:Tab E L kf vs) {x:ByteArray} {m:Int} {ks:List Tree} (hx:LongN x):stF E p ctx deep false (.node 9 empty 0 [.node 18 x m ks]) L a=match clP kf ctx true x (a+1) (exL E L ctx ks (a+1+1)) with
  | .bad c b=>.bad c b
  | .ok q=>.ok (L,q.2):=by
 unfold stF
 rw [if_neg (by decide)]
 unfold simF
 rw [if_neg (by decide),if_neg (by decide),if_pos rfl]
 dsimp only
 rw [(h.agr ctx).call hx]
 cases clP kf ctx true x (a+1) (exL E L ctx ks (a+1+1))<;>rfl
theorem st_out (h:Tab E L kf vs) (hc:Lab ctx) (l:Bool) (e:Tree):stF E p ctx deep false (.node 12 empty (bI l) [e]) L a=match exF E L ctx false e (a+1) with
  | .bad c b=>.bad c b
  | .ok q=>if flows (bI l) [q.1,ctx]=false then .bad 7 a else .ok (L,q.2):=by
 unfold stF
 rw [if_neg (by decide)]
 unfold simF
 rw [if_neg (by decide),if_neg (by decide),if_neg (by decide),if_pos rfl,exL_one]
 cases hX:exF E L ctx false e (a+1) with
 | bad c b=>rfl
 | ok q =>
  have hl:=exF_lab h.ok h.lab hX
  dsimp only
  rw [show joinL [q.1] 0=q.1 from jn0 hl]
  simp only [flows2 (bI_lab l) hl hc]
theorem st_in (h:Tab E L kf vs) (hc:Lab ctx) (l:Bool) {k:Int} {x:ByteArray} {m:Int} {ks:List Tree} (hp:PlT (.node k x m ks)):stF E p ctx deep false (.node 13 empty (bI l) [.node k x m ks]) L a=match plP kf vs k x (a+1) (exL E L ctx ks (a+1+1)) with
  | .bad c b=>.bad c b
  | .ok q=>if flows (bI l) [ctx]=false then .bad 7 a else if flows q.1.label [bI l,q.2.1,ctx]=false then .bad 7 a else .ok (L,q.2.2):=by
 unfold stF
 rw [if_neg (by decide)]
 unfold simF
 rw [if_neg (by decide),if_neg (by decide),if_neg (by decide),if_neg (by decide),if_pos rfl]
 obtain ⟨h1,h2⟩:=plF_is h ctx hp (a+1)
 dsimp only
 rw [h1]
 cases hX:plP kf vs k x (a+1) (exL E L ctx ks (a+1+1)) with
 | bad c b=>rfl
 | ok q =>
  obtain ⟨l1,l2⟩:=h2 q hX
  dsimp only
  simp only [flows1 (bI_lab l) hc,flows3 l1 (bI_lab l) l2 hc]
theorem st_ret (e:Tree):stF E p ctx deep false (.node 14 empty 0 [e]) L a=match exF E L ctx false e (a+1) with
  | .bad c b=>.bad c b
  | .ok q=>.bad 2 a:=by
 unfold stF
 rw [if_neg (by decide)]
 unfold simF
 rw [if_neg (by decide),if_neg (by decide),if_neg (by decide),if_neg (by decide),if_neg (by decide),exL_one]
 cases hX:exF E L ctx false e (a+1) with
 | bad c b=>rfl
 | ok q=>simp
theorem st_last (h:Tab E L kf vs) (hg:p.gives=true) (hl:Lab p.given) (e:Tree):stF E p ctx deep true (.node 14 empty 0 [e]) L a=match exF E L ctx false e (a+1) with
  | .bad c b=>.bad c b
  | .ok q=>if flows p.given [q.1]=false then .bad 7 a else .ok (L,q.2):=by
 unfold stF
 rw [if_neg (by decide)]
 unfold simF
 rw [if_neg (by decide),if_neg (by decide),if_neg (by decide),if_neg (by decide),if_neg (by decide),exL_one,hg]
 cases hX:exF E L ctx false e (a+1) with
 | bad c b=>rfl
 | ok q =>
  have hl2:=exF_lab h.ok h.lab hX
  dsimp only
  rw [show joinL [q.1] 0=q.1 from jn0 hl2,if_neg (by simp)]
  simp only [flows1 hl hl2]
theorem st_if {k:Int} (hk:k=10∨k=11) (x:ByteArray) (m:Int) (e:Tree) (r:List Tree):stF E p ctx deep false (.node k x m (e :: r)) L a=match exF E L ctx false e (a+1) with
  | .bad c b=>.bad c b
  | .ok q=>blsF E p (jn ctx q.1) (deep+1) r L q.2:=by
 unfold stF
 rw [if_pos hk]
 dsimp only
 cases exF E L ctx false e (a+1)<;>rfl
end
end
end chk
namespace chk
open Go.RowKit Go.Shelf
open syn face
def HS (N g o:Nat) (n0 n1 n2 n3 k0 k1 k2 k3 s0 s1:Value) (W:World):Prop :=
 W.cell? ⟨N,0,none⟩=some n0∧W.cell? ⟨N,1,none⟩=some n1∧W.cell? ⟨N,2,none⟩=some n2∧W.cell? ⟨N,3,none⟩=some n3 ∧
 W.cell? ⟨g,o,none⟩=some k0∧W.cell? ⟨g,o+1,none⟩=some k1∧W.cell? ⟨g,o+2,none⟩=some k2∧W.cell? ⟨g,o+3,none⟩=some k3 ∧
 W.cell? ⟨N+1,0,none⟩=some s0∧W.cell? ⟨N+1,1,none⟩=some s1
theorem lies_kid {w:World} {B:Nat} {k:Int} {x:ByteArray} {m:Int} {ks:List Tree} {v:Value} (h:Lies (·<B) w (.node k x m ks) v) (hne:ks≠[]) :
  ∃ g o c,v=.agg #[.int .i64 k,.string x,.int .i64 m,.slice (some ⟨g,o,none⟩) ks.length c]∧g<B∧ks.length≤4611686018427387904∧∀ j (hj:j<ks.length),∃ kk xx mm aa na ca,w.cell? ⟨g,o+j*4,none⟩=some (.int .i64 kk)∧w.cell? ⟨g,o+j*4+1,none⟩=some (.string xx)∧w.cell? ⟨g,o+j*4+2,none⟩=some (.int .i64 mm)∧w.cell? ⟨g,o+j*4+3,none⟩=some (.slice aa na ca)∧Lies (·<B) w ks[j] (.agg #[.int .i64 kk,.string xx,.int .i64 mm,.slice aa na ca]):=by
 unfold Lies at h
 obtain ⟨a,c,rfl,hl,hk⟩:=h
 obtain ⟨g,o,rfl,hg,hat⟩:=hk hne
 refine ⟨g,o,c,rfl,hg,by omega,fun j hj=>?_⟩
 obtain ⟨v1,⟨x0,x1,x2,x3,rfl,c0,c1,c2,c3⟩,hlk⟩:=hat.get j hj
 obtain ⟨kk,xx,mm,_,he,aa,na,ca,rfl⟩:=hlk.shape
 injection he with he
 simp only [Array.mk.injEq,List.cons.injEq,and_true] at he
 obtain ⟨rfl,rfl,rfl,rfl⟩:=he
 exact ⟨kk,xx,mm,aa,na,ca,c0,c1,c2,c3,hlk⟩
section
variable {N g o:Nat} {n0 n1 n2 n3 k0 k1 k2 k3 s0 s1:Value} {w0 w w':World}
theorem HS.new {w0 w:World} (hb:Below w0.heap.size w0 ((w.alloc (.cells #[n0,n1,n2,n3] 25)).alloc (.cells #[s0,s1] 179))) (hg:g<w0.heap.size) (h0:w0.cell? ⟨g,o,none⟩=some k0) (h1:w0.cell? ⟨g,o+1,none⟩=some k1) (h2:w0.cell? ⟨g,o+2,none⟩=some k2) (h3:w0.cell? ⟨g,o+3,none⟩=some k3) :
  HS w.heap.size g o n0 n1 n2 n3 k0 k1 k2 k3 s0 s1 ((w.alloc (.cells #[n0,n1,n2,n3] 25)).alloc (.cells #[s0,s1] 179)):=by
 refine ⟨by simp,by simp,by simp,by simp,(hb.cell (p:=⟨g,o,none⟩) hg).trans h0,(hb.cell (p:=⟨g,o+1,none⟩) hg).trans h1,(hb.cell (p:=⟨g,o+2,none⟩) hg).trans h2,(hb.cell (p:=⟨g,o+3,none⟩) hg).trans h3,?_,?_⟩
 ·exact news_new _ #[s0,s1] _ (w.heap.size+1) (by simp) 0 s0 rfl
 ·exact news_new _ #[s0,s1] _ (w.heap.size+1) (by simp) 1 s1 rfl
theorem HS.setD {D:Nat} (h:HS N g o n0 n1 n2 n3 k0 k1 k2 k3 s0 s1 w) (h1:N≠D) (h2:N+1≠D) (h3:g≠D) (j:Nat) (v:Value):HS N g o n0 n1 n2 n3 k0 k1 k2 k3 s0 s1 (w.setCell ⟨D,j,none⟩ v):=by
 have a1:∀ i,(w.setCell ⟨D,j,none⟩ v).cell? ⟨N,i,none⟩=w.cell? ⟨N,i,none⟩:=fun i=>World.cell?_of_block (a:=⟨N,i,none⟩) (Below.heap_setCell w ⟨D,j,none⟩ v N h1)
 have a2:∀ i,(w.setCell ⟨D,j,none⟩ v).cell? ⟨N+1,i,none⟩=w.cell? ⟨N+1,i,none⟩:=fun i=>World.cell?_of_block (a:=⟨N+1,i,none⟩) (Below.heap_setCell w ⟨D,j,none⟩ v (N+1) h2)
 have a3:∀ i,(w.setCell ⟨D,j,none⟩ v).cell? ⟨g,i,none⟩=w.cell? ⟨g,i,none⟩:=fun i=>World.cell?_of_block (a:=⟨g,i,none⟩) (Below.heap_setCell w ⟨D,j,none⟩ v g h3)
 unfold HS
 rw [a1,a1,a1,a1,a2,a2,a3,a3,a3,a3]
 exact h
theorem HS.fr {D:Nat} {u u':Value} (h:HS N g o n0 n1 n2 n3 k0 k1 k2 k3 s0 s1 w) (hf:FrU D u u' w w') (b0:Below w0.heap.size w0 w) (b1:Below w0.heap.size w0 w') (hg:g<w0.heap.size) (hN:N≠D) (hN1:N+1≠D) (hu:u.ownBlock≠some N) (hu1:u.ownBlock≠some (N+1)):HS N g o n0 n1 n2 n3 k0 k1 k2 k3 s0 s1 w':=by
 have l1:=World.block_lt_of_cell? w ⟨N,0,none⟩ h.1
 have l2:=World.block_lt_of_cell? w ⟨N+1,0,none⟩ h.2.2.2.2.2.2.2.2.1
 have a1:∀ i,w'.cell? ⟨N,i,none⟩=w.cell? ⟨N,i,none⟩:=fun i=>hf.cell l1 hN hu
 have a2:∀ i,w'.cell? ⟨N+1,i,none⟩=w.cell? ⟨N+1,i,none⟩:=fun i=>hf.cell l2 hN1 hu1
 have a3:∀ i,w'.cell? ⟨g,i,none⟩=w.cell? ⟨g,i,none⟩:=fun i=>(b1.cell (p:=⟨g,i,none⟩) hg).trans (b0.cell (p:=⟨g,i,none⟩) hg).symm
 unfold HS
 rw [a1,a1,a1,a1,a2,a2,a3,a3,a3,a3]
 exact h
end
theorem bits_bI (l:Bool):bits BinOp.and IntKind.i64 (bI l) 1=bI l:=by cases l<;>decide
theorem ints_two (w:World) (l m:Int):IntsIn (w.alloc (.cells #[.int .i64 l,.int .i64 m] 3)) (.slice (some ⟨w.heap.size,0,none⟩) 2 2) [l,m] :=
 ⟨_,_,rfl,by simp,fun _=>⟨_,_,rfl,fun i hi=>by
  have hi2:i<2:=hi
  match i,hi2 with
  | 0,_=>simp
  | 1,_=>simp⟩⟩
theorem ints_three (w:World) (l m n:Int):IntsIn (w.alloc (.cells #[.int .i64 l,.int .i64 m,.int .i64 n] 3)) (.slice (some ⟨w.heap.size,0,none⟩) 3 3) [l,m,n] :=
 ⟨_,_,rfl,by simp,fun _=>⟨_,_,rfl,fun i hi=>by
  have hi2:i<3:=hi
  match i,hi2 with
  | 0,_=>simp
  | 1,_=>simp
  | 2,_=>simp⟩⟩
section
variable {E:Env} {p:Pr} {w0:World} {D Kb kn:Nat} {kf:KF}
set_option maxHeartbeats 4000000 in
theorem oStatLocal (x:ByteArray) (l:Bool) (e:Tree) (hx:ExT e) (hT:∀ L,LabL L→Tab E L kf (vsOf L)):StatC E p w0 D Kb kn kf (.node 7 x (bI l) [e]):=by
 intro ctx deep first L u v w at_ hv hInv hLab h20 hctx hdeep h h0 hm
 have c24:=kc25
 have c2:=kc179
 have c4:Tryz.prog.cellsOf 76=4:=cell4
 have hTab:=hT L hLab
 rw [cntN,cntL_one] at hm
 have hcp:=cntT_pos e
 obtain ⟨g,o,c,rfl,hg,hl,hkid⟩:=lies_kid hv (by simp)
 obtain ⟨kk,xx,mm,aa,na,ca,k0,k1,k2,k3,hle⟩:=hkid 0 (by simp)
 simp only [Nat.zero_mul,Nat.add_zero,List.getElem_cons_zero,List.length_singleton] at k0 k1 k2 k3 hle ⊢
 have HR:=show Hid _ from st_loc p ctx deep at_ hTab hctx hInv x l e
 obtain ⟨R,hR⟩:∃ R,stF E p ctx deep false (.node 7 x (bI l) [e]) L at_=R:=⟨_,rfl⟩
 rw [hR] at HR ⊢
 clear hR hkid hv
 have hub:∀ b,u.ownBlock=some b→b<w.heap.size:=fun b e=>(h.rl.lt _ e).2
 have hd:=h.lt
 have hI0:=(h.alloc (.cells #[.int .i64 7,.string x,.int .i64 (bI l),.slice (some ⟨g,o,none⟩) 1 c] 25)).alloc (.cells #[.int .i64 ctx,.int .i64 (first:Int)] 179)
 have hf0:=((FrU.refl D u w).alloc (.cells #[.int .i64 7,.string x,.int .i64 (bI l),.slice (some ⟨g,o,none⟩) 1 c] 25)).alloc (.cells #[.int .i64 ctx,.int .i64 (first:Int)] 179)
 have hBg:=hI0.begin h0 (by omega)
 have hS0:HS w.heap.size g o (.int .i64 7) (.string x) (.int .i64 (bI l)) (.slice (some ⟨g,o,none⟩) 1 c) (.int .i64 kk) (.string xx) (.int .i64 mm) (.slice aa na ca) (.int .i64 ctx) (.int .i64 (first:Int)) ((w.alloc (.cells #[.int .i64 7,.string x,.int .i64 (bI l),.slice (some ⟨g,o,none⟩) 1 c] 25)).alloc (.cells #[.int .i64 ctx,.int .i64 (first:Int)] 179)) :=
  HS.new hI0.bs hg k0 k1 k2 k3
 have hC:=fun W (hI1:CS w0 W D Kb kn kf (vsOf L) u (at_+1))=>oExpr E L ctx (hTab.agr ctx) (by rw [vsOf_len];omega) e _ W (at_+1) hx hle hI1 (by omega) (by omega)
 have hgD:g≠D:=by have:=h.hD;omega
 clear hle k0 k1 k2 k3 hx hTab hT
 generalize exF E L ctx false e (at_+1)=X at *
 go_enter Tryz.func157,Tryz.ntmps157
 go_wp2_with (go_at_call 81;refine hBg.mono ?_;rintro e w1 ⟨rfl,hw1⟩;have hI1:CS w0 w1 D Kb kn kf (vsOf L) u (at_+1):=by { rw [hw1];exact hI0.setAt _ };have hS1:HS w.heap.size g o (.int .i64 7) (.string x) (.int .i64 (bI l)) (.slice (some ⟨g,o,none⟩) 1 c) (.int .i64 kk) (.string xx) (.int .i64 mm) (.slice aa na ca) (.int .i64 ctx) (.int .i64 (first:Int)) w1:=by { rw [hw1];exact hS0.setD (by omega) (by omega) hgD _ _ };have hf1:FrU D u u w w1:=by { rw [hw1];exact hf0.set _ _ (fun _ e=>e) };clear hw1;obtain ⟨y0,y1,y2,y3,y4,y5,y6,y7,y8,y9⟩:=id hS1)
 clear y0 y1 y2 y3 y4 y5 y6 y7 y8 y9 hI0 hf0 hS0 hBg
 have hS:HS w.heap.size g o (.int .i64 7) (.string x) (.int .i64 (bI l)) (.slice (some ⟨g,o,none⟩) 1 c) (.int .i64 kk) (.string xx) (.int .i64 mm) (.slice aa na ca) (.int .i64 ctx) (.int .i64 (first:Int)) w1.drew:=hS1
 refine wp_region_held_drew (S:=HS w.heap.size g o (.int .i64 7) (.string x) (.int .i64 (bI l)) (.slice (some ⟨g,o,none⟩) 1 c) (.int .i64 kk) (.string xx) (.int .i64 mm) (.slice aa na ca) (.int .i64 ctx) (.int .i64 (first:Int))) (by kernel_rfl) hS (fun hHeld=>?_)
 clear hHeld hS1
 replace hI1:=hI1.drew
 replace hf1:=hf1.drew
 generalize w1.drew=W at *
 refine tkP 0 (.pointer (some ⟨D,0,none⟩)) hS ?_
 simp only [Act.put,jA,jB,jC]
 refine tkP 1 (.pointer (some ⟨w.heap.size,3,none⟩)) hS ?_
 simp only [Act.put,jA,jB,jC]
 refine tkP 2 (.slice (some ⟨g,o,none⟩) 1 c) hS ?_
 simp only [Act.put,jA,jB,jC]
 refine tkP 3 (.pointer (some ⟨g,o,none⟩)) hS ?_
 simp only [Act.put,jA,jB,jC]
 refine tkP 4 (.agg #[.int .i64 kk,.string xx,.int .i64 mm,.slice aa na ca] ) hS ?_
 simp only [Act.put,jA,jB,jC]
 refine tkP 5 (.pointer (some ⟨w.heap.size+1,0,none⟩)) hS ?_
 simp only [Act.put,jA,jB,jC]
 refine tkP 6 (.int .i64 ctx) hS ?_
 simp only [Act.put,jA,jB,jC]
 refine oneH 7 fun K hK=>?_
 go_simp
 go_at_call 159
 refine (hC W hI1).mono ?_
 cases X with
 | bad cc bb =>
  have HB:Hid (R=.bad cc bb):=HR.out
  rintro e w2 ⟨rfl,hb2⟩
  go_wp2
  exact ⟨rfl,SR.mkBad HB.out hb2⟩
 | ok q =>
  obtain ⟨l1,a1⟩:=q
  rintro e w2 ⟨rfl,hI2,hF2⟩
  dsimp only at hI2 HR
  have hS2:=hS.fr (FrU.of hF2 u) hI1.bs hI2.bs hg (by omega) (by omega) (fun e=>by have:=hub _ e;omega) (fun e=>by have:=hub _ e;omega)
  have hf2:=hf1.trans (FrU.of hF2 u)
  clear hF2 hS hI1 hf1 hC
  go_wp2
  refine hK.out _ _ hS2 (fun hHeld=>?_)
  clear hK K hHeld
  refine tkP 8 (.int .i64 l1) hS2 ?_
  simp only [Act.put,jA,jB,jC]
  refine wpAnyH_done (by kernel_rfl) ?_ _
  obtain ⟨y0,y1,y2,y3,y4,y5,y6,y7,y8,y9⟩:=id hS2
  go_wp2_with (go_at_call 132;refine (oLocalOf 7 x (bI l) _ _ _ _).mono ?_;rintro e w3 ⟨rfl,hb3⟩;rw [bits_bI];unfold varV;have hI4:=(hI2.below hb3).alloc (.cells #[.string x,.bool false,.int .i64 (bI l),.int .i64 0] 76);have hf3:=(FrU.below hb3 D u).alloc (.cells #[.string x,.bool false,.int .i64 (bI l),.int .i64 0] 76);have hS4:=hS2.fr hf3 hI2.bs hI4.bs hg (by omega) (by omega) (fun e=>by have:=hub _ e;omega) (fun e=>by have:=hub _ e;omega);obtain ⟨y0,y1,y2,y3,y4,y5,y6,y7,y8,y9⟩:=id hS4)
  have hf4:=hf2.trans hf3
  have hsz3:w.heap.size≤w3.heap.size:=by have:=hf2.size;have:=hb3.size;omega
  have hB4:Boxed4 (w3.alloc (.cells #[.string x,.bool false,.int .i64 (bI l),.int .i64 0] 76)) w3.heap.size ⟨x,false,bI l,0⟩:=Boxed4.new w3 ⟨x,false,bI l,0⟩
  clear hI2 hf2 hf3 hS2 hb3 y0 y1 y2 y3 y4 y5 y6 y7 y8 y9
  refine (oAddLocal ⟨x,false,bI l,0⟩ first at_ hI4 (by rw [vsOf_len];exact hInv.le) (by rw [vsOf_len];exact h20)).mono ?_
  generalize w3.alloc (.cells #[.string x,.bool false,.int .i64 (bI l),.int .i64 0] 76)=W4 at *
  rintro e w5 (⟨h1,rfl,hb⟩|⟨h1,h2,rfl,hb⟩|⟨h1,h2,rfl,⟨u5,hI5,ho5⟩,hs5,hbl5⟩)
  ·have HB:Hid (R=.bad 5 at_):=HR.out.trans (if_pos h1)
   clear h1
   go_wp2
   exact ⟨rfl,SR.mkBad HB.out hb⟩
  ·rw [vsOf_len] at h2
   have HB:Hid (R=.bad 1 at_):=HR.out.trans ((if_neg (by rw [h1];decide)).trans (if_pos h2))
   clear h1
   go_wp2
   exact ⟨rfl,SR.mkBad HB.out hb⟩
  ·rw [vsOf_len] at h2
   have HB:Hid (R=if flows (bI l) [l1,ctx]=false then .bad 7 at_ else .ok (L++[⟨x,bI l,deep⟩],a1)):=HR.out.trans ((if_neg (by rw [h1];decide)).trans (if_neg (by omega)))
   have hf5:FrU D u u5 W4 w5:=⟨hs5,hbl5,ho5⟩
   have hS5:=hS4.fr hf5 hI4.bs hI5.bs hg (by omega) (by omega) (fun e=>by have:=hub _ e;omega) (fun e=>by have:=hub _ e;omega)
   have hB5:Boxed4 w5 w3.heap.size ⟨x,false,bI l,0⟩:=(hf5.block _ hB4.lt (by omega) (fun e=>by have:=hub _ e;omega)).trans hB4
   have hv5:vsOf L++[⟨x,false,bI l,0⟩]=vsOf (L++[⟨x,bI l,deep⟩]):=by unfold vsOf;simp
   rw [hv5] at hI5
   obtain ⟨z0,z1,z2,z3,zf⟩:=hB5.cells
   obtain ⟨y0,y1,y2,y3,y4,y5,y6,y7,y8,y9⟩:=id hS5
   clear h1 HR hS4 hB4 hbl5 ho5 hs5 hv5 zf
   go_wp2_with (fail)
   refine (oFlow at_ (bI l) [l1,ctx] _ _ (ints_two _ _ _)).mono ?_
   rintro e w6 (⟨hfl,rfl,rfl⟩|⟨hfl,rfl,rfl⟩)
   ·have HC:Hid (R=.ok (L++[⟨x,bI l,deep⟩],a1)):=HB.out.trans (if_neg (by rw [hfl];decide))
    clear hfl HB
    go_wp2
    go_end0
    exact SR.mkOk HC.out (hI5.alloc _) ((hf4.trans hf5).alloc _)
   ·have HC:Hid (R=.bad 7 at_):=HB.out.trans (if_pos hfl)
    clear hfl HB
    go_wp2
    exact ⟨rfl,SR.mkBad HC.out (hI5.alloc _).bs⟩
end
theorem plP_at {E:Env} {L:List Loc} {ctx:Int} {kf:ByteArray→Option FV} {vs:List VarD} {k:Int} {x:ByteArray} {m:Int} {ks:List Tree} {a:Int} {q:VarD × Int × Int} (h:plP kf vs k x a (exL E L ctx ks (a+1))=.ok q):q.2.2=a+cntT (.node k x m ks):=by
 rw [cntN]
 cases hX:exL E L ctx ks (a+1) with
 | bad c b=>rw [hX] at h;cases h
 | ok s =>
  have:=(exL_at E L ctx ks _ _ hX).1
  rw [hX] at h
  simp only [plP] at h
  split at h
  ·cases h
  ·split at h
   ·cases h
    show s.2=_
    omega
   ·cases h
theorem FrU.put {D b o:Nat} {u u1:Value} {w w1:World} (h:FrU D u u1 w w1) (hb:w.heap.size≤b) (v:Value):FrU D u u1 w (w1.setCell ⟨b,o,none⟩ v) :=
 ⟨by rw [World.size_setCell];exact h.size,fun j h1 h2 h3=>(Below.heap_setCell w1 ⟨b,o,none⟩ v j (by show j≠b;omega)).trans (h.block j h1 h2 h3),h.own⟩
section
variable {E:Env} {p:Pr} {w0:World} {D Kb kn:Nat} {kf:KF}
set_option maxHeartbeats 4000000 in
theorem oStatSet (k:Int) (x:ByteArray) (m:Int) (ks:List Tree) (e:Tree) (hp:PlT (.node k x m ks)) (hxe:ExT e) (hx:LongN x) (hkids:∀ t∈ks,ExT t) (hT:∀ L,LabL L→Tab E L kf (vsOf L)):StatC E p w0 D Kb kn kf (.node 8 empty 0 [.node k x m ks,e]):=by
 intro ctx deep first L u v w at_ hv hInv hLab h20 hctx hdeep h h0 hm
 have c24:=kc25
 have c2:=kc179
 have c4:Tryz.prog.cellsOf 76=4:=cell4
 have hTab:=hT L hLab
 have hvs:(vsOf L).length≤1000:=by rw [vsOf_len];omega
 rw [cntN] at hm
 have hcl:=cntL_pos [.node k x m ks,e]
 obtain ⟨g,o,c,rfl,hg,hl,hkid⟩:=lies_kid hv (by simp)
 obtain ⟨kk,xx,mm,aa,na,ca,k0,k1,k2,k3,hle⟩:=hkid 0 (by simp)
 obtain ⟨kk2,xx2,mm2,aa2,na2,ca2,j0,j1,j2,j3,hle2⟩:=hkid 1 (by simp)
 simp only [Nat.zero_mul,Nat.one_mul,Nat.add_zero,List.getElem_cons_zero,List.getElem_cons_succ,List.length_cons,List.length_nil] at k0 k1 k2 k3 hle j0 j1 j2 j3 hle2 ⊢
 have HR:=show Hid _ from st_set p ctx deep at_ hTab hctx hp e
 obtain ⟨R,hR⟩:∃ R,stF E p ctx deep false (.node 8 empty 0 [.node k x m ks,e]) L at_=R:=⟨_,rfl⟩
 rw [hR] at HR ⊢
 clear hR hkid hv
 have hub:∀ b,u.ownBlock=some b→b<w.heap.size:=fun b e=>(h.rl.lt _ e).2
 have hd:=h.lt
 have hI0:=(h.alloc (.cells #[.int .i64 8,.string empty,.int .i64 0,.slice (some ⟨g,o,none⟩) 2 c] 25)).alloc (.cells #[.int .i64 ctx,.int .i64 (first:Int)] 179)
 have hf0:=((FrU.refl D u w).alloc (.cells #[.int .i64 8,.string empty,.int .i64 0,.slice (some ⟨g,o,none⟩) 2 c] 25)).alloc (.cells #[.int .i64 ctx,.int .i64 (first:Int)] 179)
 have hBg:=hI0.begin h0 (by omega)
 have hS0:HS w.heap.size g o (.int .i64 8) (.string empty) (.int .i64 0) (.slice (some ⟨g,o,none⟩) 2 c) (.int .i64 kk) (.string xx) (.int .i64 mm) (.slice aa na ca) (.int .i64 ctx) (.int .i64 (first:Int)) ((w.alloc (.cells #[.int .i64 8,.string empty,.int .i64 0,.slice (some ⟨g,o,none⟩) 2 c] 25)).alloc (.cells #[.int .i64 ctx,.int .i64 (first:Int)] 179)) :=
  HS.new hI0.bs hg k0 k1 k2 k3
 have hgD:g≠D:=by have:=h.hD;omega
 have hKb:=h.mp.lt
 have hfm:=h.fm
 have hcp:=cntT_pos (.node k x m ks)
 have hcp2:=cntL_pos ks
 have hcn:=cntN k x m ks
 have hce:=cntT_pos e
 have hcm:cntL [.node k x m ks,e]=cntT (.node k x m ks)+cntT e:=by
  show cntT _+(cntT e+cntL [])=_
  simp [cntL]
 rw [hcm] at hm
 have hC:=fun W (hI1:CS w0 W D Kb kn kf (vsOf L) u (at_+1))=>oPlace E L hvs k x m ks _ W ctx (at_+1) hkids hx hle hI1 (by omega) (by omega) (fun j hj v w a h1 h2 h3 h4 h5=>oExpr E L ctx (hTab.agr ctx) hvs ks[j] v w a h1 h2 h3 h4 h5)
 have HA:Hid (∀ q,plP kf (vsOf L) k x (at_+1) (exL E L ctx ks (at_+1+1))=.ok q→q.2.2=at_+1+cntT (.node k x m ks)):=fun q hq=>plP_at (m:=m) hq
 clear hle k0 k1 k2 k3 hx hkids hcn hcp2
 generalize plP kf (vsOf L) k x (at_+1) (exL E L ctx ks (at_+1+1))=X at *
 go_enter Tryz.func157,Tryz.ntmps157
 go_wp2_with (go_at_call 81;refine hBg.mono ?_;rintro e w1 ⟨rfl,hw1⟩;have hI1:CS w0 w1 D Kb kn kf (vsOf L) u (at_+1):=by { rw [hw1];exact hI0.setAt _ };have hS1:HS w.heap.size g o (.int .i64 8) (.string empty) (.int .i64 0) (.slice (some ⟨g,o,none⟩) 2 c) (.int .i64 kk) (.string xx) (.int .i64 mm) (.slice aa na ca) (.int .i64 ctx) (.int .i64 (first:Int)) w1:=by { rw [hw1];exact hS0.setD (by omega) (by omega) hgD _ _ };have hf1:FrU D u u w w1:=by { rw [hw1];exact hf0.set _ _ (fun _ e=>e) };have hsz1:w.heap.size+2≤w1.heap.size:=by { rw [hw1,World.size_setCell];simp };clear hw1;obtain ⟨y0,y1,y2,y3,y4,y5,y6,y7,y8,y9⟩:=id hS1)
 clear y0 y1 y2 y3 y4 y5 y6 y7 y8 y9 hI0 hf0 hS0 hBg
 have hS:HS w.heap.size g o (.int .i64 8) (.string empty) (.int .i64 0) (.slice (some ⟨g,o,none⟩) 2 c) (.int .i64 kk) (.string xx) (.int .i64 mm) (.slice aa na ca) (.int .i64 ctx) (.int .i64 (first:Int)) w1.drew:=hS1
 refine wp_region_held_drew (S:=HS w.heap.size g o (.int .i64 8) (.string empty) (.int .i64 0) (.slice (some ⟨g,o,none⟩) 2 c) (.int .i64 kk) (.string xx) (.int .i64 mm) (.slice aa na ca) (.int .i64 ctx) (.int .i64 (first:Int))) (by kernel_rfl) hS (fun hHeld=>?_)
 clear hHeld
 replace hI1:=hI1.drew
 replace hf1:=hf1.drew
 replace hsz1:w.heap.size+2≤w1.drew.heap.size:=hsz1
 generalize w1.drew=W at *
 refine tkP 0 (.pointer (some ⟨D,0,none⟩)) hS ?_
 simp only [Act.put,jA,jB,jC]
 refine tkP 1 (.pointer (some ⟨w.heap.size,3,none⟩)) hS ?_
 simp only [Act.put,jA,jB,jC]
 refine tkP 2 (.slice (some ⟨g,o,none⟩) 2 c) hS ?_
 simp only [Act.put,jA,jB,jC]
 refine tkP 3 (.pointer (some ⟨g,o,none⟩)) hS ?_
 simp only [Act.put,jA,jB,jC]
 refine tkP 4 (.agg #[.int .i64 kk,.string xx,.int .i64 mm,.slice aa na ca]) hS ?_
 simp only [Act.put,jA,jB,jC]
 refine tkP 5 (.pointer (some ⟨w.heap.size+1,0,none⟩)) hS ?_
 simp only [Act.put,jA,jB,jC]
 refine tkP 6 (.int .i64 ctx) hS ?_
 simp only [Act.put,jA,jB,jC]
 refine wpAnyH_ready (rs:=[7,11]) (by kernel_rfl) (by simp) ?_
 refine AllReadyH.cons rfl (fun K hK=>?_) ?_
 ·go_simp
  go_at_call 185
  refine (hC W hI1).mono ?_
  cases X with
  | bad cc bb =>
   have HB:Hid (R=.bad cc bb):=HR.out
   rintro e w2 ⟨rfl,hb2⟩
   go_wp2
   exact ⟨rfl,SR.mkBad HB.out hb2⟩
  | ok q =>
   have HAT:=HA.out q rfl
   obtain ⟨vv,ix,a1⟩:=q
   dsimp only at HAT
   subst HAT
   rintro e w2 ⟨rfl,hI2,hF2⟩
   dsimp only at hI2 HR
   unfold varV
   have hS2:=hS.fr (FrU.of hF2 u) hI1.bs hI2.bs hg (by omega) (by omega) (fun e=>by have:=hub _ e;omega) (fun e=>by have:=hub _ e;omega)
   have hf2:=hf1.trans (FrU.of hF2 u)
   have hsz2:w.heap.size+2≤w2.heap.size:=Nat.le_trans hsz1 hF2.size
   clear hF2 hS hI1 hf1 hC hsz1
   go_wp2
   refine hK.out _ _ hS2 (fun hHeld=>?_)
   clear hK K hHeld
   refine tkP 8 (.tuple #[.agg #[.string vv.name,.bool vv.pub,.int .i64 vv.label,.int .i64 vv.size],.int .i64 ix]) hS2 ?_
   simp only [Act.put,jA,jB,jC]
   refine tkP 9 (.agg #[.string vv.name,.bool vv.pub,.int .i64 vv.label,.int .i64 vv.size]) hS2 ?_
   simp only [Act.put,jA,jB,jC]
   refine tkP 10 (.int .i64 ix) hS2 ?_
   simp only [Act.put,jA,jB,jC]
   refine oneH 11 fun K hK=>?_
   go_simp
   have hB3:=Boxed4.new w2 zeroVar
   have hI3:=hI2.alloc (.cells #[.string ⟨#[]⟩,.bool false,.int .i64 0,.int .i64 0] 76)
   have hS3:=hS2.fr ((FrU.refl D u w2).alloc (.cells #[.string ⟨#[]⟩,.bool false,.int .i64 0,.int .i64 0] 76)) hI2.bs hI3.bs hg (by omega) (by omega) (fun e=>by have:=hub _ e;omega) (fun e=>by have:=hub _ e;omega)
   have hf3:=hf2.alloc (.cells #[.string ⟨#[]⟩,.bool false,.int .i64 0,.int .i64 0] 76)
   have hsz3:w.heap.size+2≤(w2.alloc (.cells #[.string ⟨#[]⟩,.bool false,.int .i64 0,.int .i64 0] 76)).heap.size:=by simp;omega
   refine hK.out _ _ hS3 (fun hHeld=>?_)
   clear hK K hHeld hI2 hS2 hf2
   change Boxed4 (w2.alloc (.cells #[.string ⟨#[]⟩,.bool false,.int .i64 0,.int .i64 0] 76)) w2.heap.size zeroVar at hB3
   generalize w2.alloc (.cells #[.string ⟨#[]⟩,.bool false,.int .i64 0,.int .i64 0] 76)=W3 at *
   have hlo:=hsz2
   clear hsz2
   generalize w2.heap.size=B3 at *
   obtain ⟨z0,z1,z2,z3,zf⟩:=hB3.cells
   have zf0:=zf 0
   have zf1:=zf 1
   have zf2:=zf 2
   have zf3:=zf 3
   refine oneH 12 fun K hK=>?_
   go_simp
   have hg3:g≠B3:=by have:=hI3.mM;omega
   have hI5:=hI3.put4 (b:=B3) (by omega) (by omega) (fun e=>by have:=hub _ e;omega) (by omega) (.string vv.name) (.bool vv.pub) (.int .i64 vv.label) (.int .i64 vv.size)
   have hS5:=(((hS3.setD (D:=B3) (by omega) (by omega) hg3 0 (.string vv.name)).setD (D:=B3) (by omega) (by omega) hg3 1 (.bool vv.pub)).setD (D:=B3) (by omega) (by omega) hg3 2 (.int .i64 vv.label)).setD (D:=B3) (by omega) (by omega) hg3 3 (.int .i64 vv.size)
   have hf5:=(((hf3.put (b:=B3) (o:=0) (by omega) (.string vv.name)).put (b:=B3) (o:=1) (by omega) (.bool vv.pub)).put (b:=B3) (o:=2) (by omega) (.int .i64 vv.label)).put (b:=B3) (o:=3) (by omega) (.int .i64 vv.size)
   have hB5:=hB3.put vv
   have hsz5:w.heap.size+2≤((((W3.setCell ⟨B3,0,none⟩ (.string vv.name)).setCell ⟨B3,1,none⟩ (.bool vv.pub)).setCell ⟨B3,2,none⟩ (.int .i64 vv.label)).setCell ⟨B3,3,none⟩ (.int .i64 vv.size)).heap.size:=by simp only [World.size_setCell];exact hsz3
   refine hK.out _ _ hS5 (fun hHeld=>?_)
   clear hK K hHeld z0 z1 z2 z3 zf zf0 zf1 zf2 zf3 hI3 hS3 hf3 hB3 hsz3
   generalize ((((W3.setCell ⟨B3,0,none⟩ (.string vv.name)).setCell ⟨B3,1,none⟩ (.bool vv.pub)).setCell ⟨B3,2,none⟩ (.int .i64 vv.label)).setCell ⟨B3,3,none⟩ (.int .i64 vv.size))=W5 at *
   refine tkP 13 (.int .i64 ix) hS5 ?_
   simp only [Act.put,jA,jB,jC]
   simp only [List.getElem_toArray,List.getElem_cons_succ,List.getElem_cons_zero,List.setIfInBounds_toArray,List.set_cons_zero,List.set_cons_succ]
   refine wpAnyH_done (by kernel_rfl) ?_ _
   obtain ⟨y0,y1,y2,y3,y4,y5,y6,y7,y8,y9⟩:=id hS5
   have hS6:HS w.heap.size g (o+4) (.int .i64 8) (.string empty) (.int .i64 0) (.slice (some ⟨g,o,none⟩) 2 c) (.int .i64 kk2) (.string xx2) (.int .i64 mm2) (.slice aa2 na2 ca2) (.int .i64 ctx) (.int .i64 (first:Int)) W5:=⟨y0,y1,y2,y3,(hI5.bs.cell (p:=⟨g,o+4,none⟩) hg).trans j0,(hI5.bs.cell (p:=⟨g,o+4+1,none⟩) hg).trans j1,(hI5.bs.cell (p:=⟨g,o+4+2,none⟩) hg).trans j2,(hI5.bs.cell (p:=⟨g,o+4+3,none⟩) hg).trans j3,y8,y9⟩
   have hC2:=fun W (hI1:CS w0 W D Kb kn kf (vsOf L) u (at_+1+cntT (.node k x m ks)))=>oExpr E L ctx (hTab.agr ctx) hvs e _ W _ hxe hle2 hI1 (by omega) (by omega)
   clear y0 y1 y2 y3 y4 y5 y6 y7 y8 y9 hS5 j0 j1 j2 j3 HA hTab hT hle2
   generalize at_+1+cntT (.node k x m ks)=a1 at *
   generalize exF E L ctx false e a1=Y at *
   go_wp2
   have hB6:Boxed4 W5.drew B3 vv:=hB5
   have hS:HS w.heap.size g (o+4) (.int .i64 8) (.string empty) (.int .i64 0) (.slice (some ⟨g,o,none⟩) 2 c) (.int .i64 kk2) (.string xx2) (.int .i64 mm2) (.slice aa2 na2 ca2) (.int .i64 ctx) (.int .i64 (first:Int)) W5.drew:=hS6
   refine wp_region_held_drew (S:=HS w.heap.size g (o+4) (.int .i64 8) (.string empty) (.int .i64 0) (.slice (some ⟨g,o,none⟩) 2 c) (.int .i64 kk2) (.string xx2) (.int .i64 mm2) (.slice aa2 na2 ca2) (.int .i64 ctx) (.int .i64 (first:Int))) (by kernel_rfl) hS (fun hHeld=>?_)
   clear hHeld
   replace hI5:=hI5.drew
   replace hf5:=hf5.drew
   replace hsz5:w.heap.size+2≤W5.drew.heap.size:=hsz5
   generalize W5.drew=W at *
   refine tkP 0 (.pointer (some ⟨D,0,none⟩)) hS ?_
   simp only [Act.put,jA,jB,jC]
   refine tkP 1 (.pointer (some ⟨w.heap.size,3,none⟩)) hS ?_
   simp only [Act.put,jA,jB,jC]
   refine tkP 2 (.slice (some ⟨g,o,none⟩) 2 c) hS ?_
   simp only [Act.put,jA,jB,jC]
   refine tkP 3 (.pointer (some ⟨g,(o+4),none⟩)) hS ?_
   simp only [Act.put,jA,jB,jC]
   refine tkP 4 (.agg #[.int .i64 kk2,.string xx2,.int .i64 mm2,.slice aa2 na2 ca2]) hS ?_
   simp only [Act.put,jA,jB,jC]
   refine tkP 5 (.pointer (some ⟨w.heap.size+1,0,none⟩)) hS ?_
   simp only [Act.put,jA,jB,jC]
   refine tkP 6 (.int .i64 ctx) hS ?_
   simp only [Act.put,jA,jB,jC]
   refine oneH 7 fun K hK=>?_
   go_simp
   go_at_call 159
   refine (hC2 W hI5).mono ?_
   cases Y with
   | bad cc bb =>
    have HB:Hid (R=.bad cc bb):=HR.out
    rintro e w7 ⟨rfl,hb7⟩
    go_wp2
    exact ⟨rfl,SR.mkBad HB.out hb7⟩
   | ok q =>
    obtain ⟨l1,a2⟩:=q
    have HB:Hid (R=if flows vv.label [l1,ix,ctx]=false then .bad 7 at_ else .ok (L,a2)):=HR.out
    clear HR
    rintro e w7 ⟨rfl,hI7,hF7⟩
    dsimp only at hI7
    have hS7:=hS.fr (FrU.of hF7 u) hI5.bs hI7.bs hg (by omega) (by omega) (fun e=>by have:=hub _ e;omega) (fun e=>by have:=hub _ e;omega)
    have hf7:=hf5.trans (FrU.of hF7 u)
    have hB7:=hB6.kept hF7 (by simp;omega)
    clear hF7 hS hI5 hf5 hC2 hB6 hB5
    go_wp2
    refine hK.out _ _ hS7 (fun hHeld=>?_)
    clear hK K hHeld
    refine tkP 8 (.int .i64 l1) hS7 ?_
    simp only [Act.put,jA,jB,jC]
    refine wpAnyH_done (by kernel_rfl) ?_ _
    obtain ⟨z0,z1,z2,z3,zf⟩:=hB7.cells
    obtain ⟨y0,y1,y2,y3,y4,y5,y6,y7,y8,y9⟩:=id hS7
    go_wp2_with (fail)
    refine (oFlow at_ vv.label [l1,ix,ctx] _ _ (ints_three _ _ _ _)).mono ?_
    rintro e w8 (⟨hfl,rfl,rfl⟩|⟨hfl,rfl,rfl⟩)
    ·have HC:Hid (R=.ok (L,a2)):=HB.out.trans (if_neg (by rw [hfl];decide))
     clear hfl HB
     go_wp2
     go_end0
     exact SR.mkOk HC.out (hI7.alloc _) (hf7.alloc _)
    ·have HC:Hid (R=.bad 7 at_):=HB.out.trans (if_pos hfl)
     clear hfl HB
     go_wp2
     exact ⟨rfl,SR.mkBad HC.out (hI7.alloc _).bs⟩
 ·refine AllReadyH.cons rfl (fun K hK=>?_) AllReadyH.nil
  go_simp
  have hB2:=Boxed4.new W zeroVar
  have hI2:=hI1.alloc (.cells #[.string ⟨#[]⟩,.bool false,.int .i64 0,.int .i64 0] 76)
  have hS2:=hS.fr ((FrU.refl D u W).alloc (.cells #[.string ⟨#[]⟩,.bool false,.int .i64 0,.int .i64 0] 76)) hI1.bs hI2.bs hg (by omega) (by omega) (fun e=>by have:=hub _ e;omega) (fun e=>by have:=hub _ e;omega)
  have hf2:=hf1.alloc (.cells #[.string ⟨#[]⟩,.bool false,.int .i64 0,.int .i64 0] 76)
  have hsz2:w.heap.size+2≤(W.alloc (.cells #[.string ⟨#[]⟩,.bool false,.int .i64 0,.int .i64 0] 76)).heap.size:=by simp;omega
  refine hK.out _ _ hS2 (fun hHeld=>?_)
  clear hK K hHeld hI1 hS hf1
  change Boxed4 (W.alloc (.cells #[.string ⟨#[]⟩,.bool false,.int .i64 0,.int .i64 0] 76)) W.heap.size zeroVar at hB2
  generalize W.alloc (.cells #[.string ⟨#[]⟩,.bool false,.int .i64 0,.int .i64 0] 76)=W2 at *
  have hlo:=hsz1
  clear hsz1
  generalize W.heap.size=B3 at *
  refine oneH 7 fun K hK=>?_
  go_simp
  go_at_call 185
  refine (hC W2 hI2).mono ?_
  cases X with
  | bad cc bb =>
   have HB:Hid (R=.bad cc bb):=HR.out
   rintro e w3 ⟨rfl,hb3⟩
   go_wp2
   exact ⟨rfl,SR.mkBad HB.out hb3⟩
  | ok q =>
   have HAT:=HA.out q rfl
   obtain ⟨vv,ix,a1⟩:=q
   dsimp only at HAT
   subst HAT
   rintro e W3 ⟨rfl,hI3,hF3⟩
   dsimp only at hI3 HR
   unfold varV
   have hS3:=hS2.fr (FrU.of hF3 u) hI2.bs hI3.bs hg (by omega) (by omega) (fun e=>by have:=hub _ e;omega) (fun e=>by have:=hub _ e;omega)
   have hf3:=hf2.trans (FrU.of hF3 u)
   have hsz3:w.heap.size+2≤W3.heap.size:=Nat.le_trans hsz2 hF3.size
   have hB3:=hB2.kept hF3 (by simp;omega)
   clear hF3 hS2 hI2 hf2 hsz2 hC hB2
   go_wp2
   refine hK.out _ _ hS3 (fun hHeld=>?_)
   clear hK K hHeld
   refine tkP 8 (.tuple #[.agg #[.string vv.name,.bool vv.pub,.int .i64 vv.label,.int .i64 vv.size],.int .i64 ix]) hS3 ?_
   simp only [Act.put,jA,jB,jC]
   refine tkP 9 (.agg #[.string vv.name,.bool vv.pub,.int .i64 vv.label,.int .i64 vv.size]) hS3 ?_
   simp only [Act.put,jA,jB,jC]
   refine tkP 10 (.int .i64 ix) hS3 ?_
   simp only [Act.put,jA,jB,jC]
   obtain ⟨z0,z1,z2,z3,zf⟩:=hB3.cells
   have zf0:=zf 0
   have zf1:=zf 1
   have zf2:=zf 2
   have zf3:=zf 3
   refine oneH 12 fun K hK=>?_
   go_simp
   have hg3:g≠B3:=by have:=hI3.mM;omega
   have hI5:=hI3.put4 (b:=B3) (by omega) (by omega) (fun e=>by have:=hub _ e;omega) (by omega) (.string vv.name) (.bool vv.pub) (.int .i64 vv.label) (.int .i64 vv.size)
   have hS5:=(((hS3.setD (D:=B3) (by omega) (by omega) hg3 0 (.string vv.name)).setD (D:=B3) (by omega) (by omega) hg3 1 (.bool vv.pub)).setD (D:=B3) (by omega) (by omega) hg3 2 (.int .i64 vv.label)).setD (D:=B3) (by omega) (by omega) hg3 3 (.int .i64 vv.size)
   have hf5:=(((hf3.put (b:=B3) (o:=0) (by omega) (.string vv.name)).put (b:=B3) (o:=1) (by omega) (.bool vv.pub)).put (b:=B3) (o:=2) (by omega) (.int .i64 vv.label)).put (b:=B3) (o:=3) (by omega) (.int .i64 vv.size)
   have hB5:=hB3.put vv
   have hsz5:w.heap.size+2≤((((W3.setCell ⟨B3,0,none⟩ (.string vv.name)).setCell ⟨B3,1,none⟩ (.bool vv.pub)).setCell ⟨B3,2,none⟩ (.int .i64 vv.label)).setCell ⟨B3,3,none⟩ (.int .i64 vv.size)).heap.size:=by simp only [World.size_setCell];exact hsz3
   refine hK.out _ _ hS5 (fun hHeld=>?_)
   clear hK K hHeld z0 z1 z2 z3 zf zf0 zf1 zf2 zf3 hI3 hS3 hf3 hB3 hsz3
   generalize ((((W3.setCell ⟨B3,0,none⟩ (.string vv.name)).setCell ⟨B3,1,none⟩ (.bool vv.pub)).setCell ⟨B3,2,none⟩ (.int .i64 vv.label)).setCell ⟨B3,3,none⟩ (.int .i64 vv.size))=W5 at *
   refine tkP 13 (.int .i64 ix) hS5 ?_
   simp only [Act.put,jA,jB,jC]
   simp only [List.getElem_toArray,List.getElem_cons_succ,List.getElem_cons_zero,List.setIfInBounds_toArray,List.set_cons_zero,List.set_cons_succ]
   refine wpAnyH_done (by kernel_rfl) ?_ _
   obtain ⟨y0,y1,y2,y3,y4,y5,y6,y7,y8,y9⟩:=id hS5
   have hS6:HS w.heap.size g (o+4) (.int .i64 8) (.string empty) (.int .i64 0) (.slice (some ⟨g,o,none⟩) 2 c) (.int .i64 kk2) (.string xx2) (.int .i64 mm2) (.slice aa2 na2 ca2) (.int .i64 ctx) (.int .i64 (first:Int)) W5:=⟨y0,y1,y2,y3,(hI5.bs.cell (p:=⟨g,o+4,none⟩) hg).trans j0,(hI5.bs.cell (p:=⟨g,o+4+1,none⟩) hg).trans j1,(hI5.bs.cell (p:=⟨g,o+4+2,none⟩) hg).trans j2,(hI5.bs.cell (p:=⟨g,o+4+3,none⟩) hg).trans j3,y8,y9⟩
   have hC2:=fun W (hI1:CS w0 W D Kb kn kf (vsOf L) u (at_+1+cntT (.node k x m ks)))=>oExpr E L ctx (hTab.agr ctx) hvs e _ W _ hxe hle2 hI1 (by omega) (by omega)
   clear y0 y1 y2 y3 y4 y5 y6 y7 y8 y9 hS5 j0 j1 j2 j3 HA hTab hT hle2
   generalize at_+1+cntT (.node k x m ks)=a1 at *
   generalize exF E L ctx false e a1=Y at *
   go_wp2
   have hB6:Boxed4 W5.drew B3 vv:=hB5
   have hS:HS w.heap.size g (o+4) (.int .i64 8) (.string empty) (.int .i64 0) (.slice (some ⟨g,o,none⟩) 2 c) (.int .i64 kk2) (.string xx2) (.int .i64 mm2) (.slice aa2 na2 ca2) (.int .i64 ctx) (.int .i64 (first:Int)) W5.drew:=hS6
   refine wp_region_held_drew (S:=HS w.heap.size g (o+4) (.int .i64 8) (.string empty) (.int .i64 0) (.slice (some ⟨g,o,none⟩) 2 c) (.int .i64 kk2) (.string xx2) (.int .i64 mm2) (.slice aa2 na2 ca2) (.int .i64 ctx) (.int .i64 (first:Int))) (by kernel_rfl) hS (fun hHeld=>?_)
   clear hHeld
   replace hI5:=hI5.drew
   replace hf5:=hf5.drew
   replace hsz5:w.heap.size+2≤W5.drew.heap.size:=hsz5
   generalize W5.drew=W at *
   refine tkP 0 (.pointer (some ⟨D,0,none⟩)) hS ?_
   simp only [Act.put,jA,jB,jC]
   refine tkP 1 (.pointer (some ⟨w.heap.size,3,none⟩)) hS ?_
   simp only [Act.put,jA,jB,jC]
   refine tkP 2 (.slice (some ⟨g,o,none⟩) 2 c) hS ?_
   simp only [Act.put,jA,jB,jC]
   refine tkP 3 (.pointer (some ⟨g,(o+4),none⟩)) hS ?_
   simp only [Act.put,jA,jB,jC]
   refine tkP 4 (.agg #[.int .i64 kk2,.string xx2,.int .i64 mm2,.slice aa2 na2 ca2]) hS ?_
   simp only [Act.put,jA,jB,jC]
   refine tkP 5 (.pointer (some ⟨w.heap.size+1,0,none⟩)) hS ?_
   simp only [Act.put,jA,jB,jC]
   refine tkP 6 (.int .i64 ctx) hS ?_
   simp only [Act.put,jA,jB,jC]
   refine oneH 7 fun K hK=>?_
   go_simp
   go_at_call 159
   refine (hC2 W hI5).mono ?_
   cases Y with
   | bad cc bb =>
    have HB:Hid (R=.bad cc bb):=HR.out
    rintro e w7 ⟨rfl,hb7⟩
    go_wp2
    exact ⟨rfl,SR.mkBad HB.out hb7⟩
   | ok q =>
    obtain ⟨l1,a2⟩:=q
    have HB:Hid (R=if flows vv.label [l1,ix,ctx]=false then .bad 7 at_ else .ok (L,a2)):=HR.out
    clear HR
    rintro e w7 ⟨rfl,hI7,hF7⟩
    dsimp only at hI7
    have hS7:=hS.fr (FrU.of hF7 u) hI5.bs hI7.bs hg (by omega) (by omega) (fun e=>by have:=hub _ e;omega) (fun e=>by have:=hub _ e;omega)
    have hf7:=hf5.trans (FrU.of hF7 u)
    have hB7:=hB6.kept hF7 (by simp;omega)
    clear hF7 hS hI5 hf5 hC2 hB6 hB5
    go_wp2
    refine hK.out _ _ hS7 (fun hHeld=>?_)
    clear hK K hHeld
    refine tkP 8 (.int .i64 l1) hS7 ?_
    simp only [Act.put,jA,jB,jC]
    refine wpAnyH_done (by kernel_rfl) ?_ _
    obtain ⟨z0,z1,z2,z3,zf⟩:=hB7.cells
    obtain ⟨y0,y1,y2,y3,y4,y5,y6,y7,y8,y9⟩:=id hS7
    go_wp2_with (fail)
    refine (oFlow at_ vv.label [l1,ix,ctx] _ _ (ints_three _ _ _ _)).mono ?_
    rintro e w8 (⟨hfl,rfl,rfl⟩|⟨hfl,rfl,rfl⟩)
    ·have HC:Hid (R=.ok (L,a2)):=HB.out.trans (if_neg (by rw [hfl];decide))
     clear hfl HB
     go_wp2
     go_end0
     exact SR.mkOk HC.out (hI7.alloc _) (hf7.alloc _)
    ·have HC:Hid (R=.bad 7 at_):=HB.out.trans (if_pos hfl)
     clear hfl HB
     go_wp2
     exact ⟨rfl,SR.mkBad HC.out (hI7.alloc _).bs⟩
end
section
variable {E:Env} {p:Pr} {w0:World} {D Kb kn:Nat} {kf:KF}
set_option maxHeartbeats 4000000 in
theorem oStatDo (x:ByteArray) (m:Int) (ks:List Tree) (hx:LongN x) (hkids:∀ t∈ks,ExT t) (hT:∀ L,LabL L→Tab E L kf (vsOf L)):StatC E p w0 D Kb kn kf (.node 9 empty 0 [.node 18 x m ks]):=by
 intro ctx deep first L u v w at_ hv hInv hLab h20 hctx hdeep h h0 hm
 have c24:=kc25
 have c2:=kc179
 have c4:Tryz.prog.cellsOf 76=4:=cell4
 have hTab:=hT L hLab
 have hvs:(vsOf L).length≤1000:=by rw [vsOf_len];omega
 rw [cntN] at hm
 have hcl:=cntL_pos [.node 18 x m ks]
 obtain ⟨g,o,c,rfl,hg,hl,hkid⟩:=lies_kid hv (by simp)
 obtain ⟨kk,xx,mm,aa,na,ca,k0,k1,k2,k3,hle⟩:=hkid 0 (by simp)
 simp only [Nat.zero_mul,Nat.add_zero,List.getElem_cons_zero,List.length_singleton] at k0 k1 k2 k3 hle ⊢
 have HR:=show Hid _ from st_do p ctx deep at_ hTab hx (m:=m) (ks:=ks)
 obtain ⟨R,hR⟩:∃ R,stF E p ctx deep false (.node 9 empty 0 [.node 18 x m ks]) L at_=R:=⟨_,rfl⟩
 rw [hR] at HR ⊢
 clear hR hkid hv
 have hub:∀ b,u.ownBlock=some b→b<w.heap.size:=fun b e=>(h.rl.lt _ e).2
 have hd:=h.lt
 have hI0:=(h.alloc (.cells #[.int .i64 9,.string empty,.int .i64 0,.slice (some ⟨g,o,none⟩) 1 c] 25)).alloc (.cells #[.int .i64 ctx,.int .i64 (first:Int)] 179)
 have hf0:=((FrU.refl D u w).alloc (.cells #[.int .i64 9,.string empty,.int .i64 0,.slice (some ⟨g,o,none⟩) 1 c] 25)).alloc (.cells #[.int .i64 ctx,.int .i64 (first:Int)] 179)
 have hBg:=hI0.begin h0 (by omega)
 have hS0:HS w.heap.size g o (.int .i64 9) (.string empty) (.int .i64 0) (.slice (some ⟨g,o,none⟩) 1 c) (.int .i64 kk) (.string xx) (.int .i64 mm) (.slice aa na ca) (.int .i64 ctx) (.int .i64 (first:Int)) ((w.alloc (.cells #[.int .i64 9,.string empty,.int .i64 0,.slice (some ⟨g,o,none⟩) 1 c] 25)).alloc (.cells #[.int .i64 ctx,.int .i64 (first:Int)] 179)) :=
  HS.new hI0.bs hg k0 k1 k2 k3
 have hgD:g≠D:=by have:=h.hD;omega
 have hKb:=h.mp.lt
 have hfm:=h.fm
 have hcp:=cntL_pos ks
 rw [cntL_one,cntN] at hm
 have hC:=fun W (hI1:CS w0 W D Kb kn kf (vsOf L) u (at_+1))=>oCall E L 18 x m ks _ W ctx (at_+1) true hkids hx hle hI1 (by omega) (by omega) (fun j hj v w a h1 h2 h3 h4 h5=>oExpr E L ctx (hTab.agr ctx) hvs ks[j] v w a h1 h2 h3 h4 h5)
 clear hle k0 k1 k2 k3 hx hTab hT hkids
 generalize clP kf ctx true x (at_+1) (exL E L ctx ks (at_+1+1))=X at *
 go_enter Tryz.func157,Tryz.ntmps157
 go_wp2_with (go_at_call 81;refine hBg.mono ?_;rintro e w1 ⟨rfl,hw1⟩;have hI1:CS w0 w1 D Kb kn kf (vsOf L) u (at_+1):=by { rw [hw1];exact hI0.setAt _ };have hS1:HS w.heap.size g o (.int .i64 9) (.string empty) (.int .i64 0) (.slice (some ⟨g,o,none⟩) 1 c) (.int .i64 kk) (.string xx) (.int .i64 mm) (.slice aa na ca) (.int .i64 ctx) (.int .i64 (first:Int)) w1:=by { rw [hw1];exact hS0.setD (by omega) (by omega) hgD _ _ };have hf1:FrU D u u w w1:=by { rw [hw1];exact hf0.set _ _ (fun _ e=>e) };have hsz1:w.heap.size+2≤w1.heap.size:=by { rw [hw1,World.size_setCell];simp };clear hw1;obtain ⟨y0,y1,y2,y3,y4,y5,y6,y7,y8,y9⟩:=id hS1)
 clear y0 y1 y2 y3 y4 y5 y6 y7 y8 y9 hI0 hf0 hS0 hBg
 have hS:HS w.heap.size g o (.int .i64 9) (.string empty) (.int .i64 0) (.slice (some ⟨g,o,none⟩) 1 c) (.int .i64 kk) (.string xx) (.int .i64 mm) (.slice aa na ca) (.int .i64 ctx) (.int .i64 (first:Int)) w1.drew:=hS1
 refine wp_region_held_drew (S:=HS w.heap.size g o (.int .i64 9) (.string empty) (.int .i64 0) (.slice (some ⟨g,o,none⟩) 1 c) (.int .i64 kk) (.string xx) (.int .i64 mm) (.slice aa na ca) (.int .i64 ctx) (.int .i64 (first:Int))) (by kernel_rfl) hS (fun hHeld=>?_)
 clear hHeld
 replace hI1:=hI1.drew
 replace hf1:=hf1.drew
 replace hsz1:w.heap.size+2≤w1.drew.heap.size:=hsz1
 generalize w1.drew=W at *
 refine tkP 0 (.pointer (some ⟨D,0,none⟩)) hS ?_
 simp only [Act.put,jA,jB,jC]
 refine tkP 1 (.pointer (some ⟨w.heap.size,3,none⟩)) hS ?_
 simp only [Act.put,jA,jB,jC]
 refine tkP 2 (.slice (some ⟨g,o,none⟩) 1 c) hS ?_
 simp only [Act.put,jA,jB,jC]
 refine tkP 3 (.pointer (some ⟨g,o,none⟩)) hS ?_
 simp only [Act.put,jA,jB,jC]
 refine tkP 4 (.agg #[.int .i64 kk,.string xx,.int .i64 mm,.slice aa na ca]) hS ?_
 simp only [Act.put,jA,jB,jC]
 refine tkP 5 (.pointer (some ⟨w.heap.size+1,0,none⟩)) hS ?_
 simp only [Act.put,jA,jB,jC]
 refine tkP 6 (.int .i64 ctx) hS ?_
 simp only [Act.put,jA,jB,jC]
 refine oneH 7 fun K hK=>?_
 go_simp
 go_at_call 186
 refine (hC W hI1).mono ?_
 cases X with
 | bad cc bb =>
  have HB:Hid (R=.bad cc bb):=HR.out
  rintro e w2 ⟨rfl,hb2⟩
  go_wp2
  exact ⟨rfl,SR.mkBad HB.out hb2⟩
 | ok q =>
  obtain ⟨p1,a1⟩:=q
  have HB:Hid (R=.ok (L,a1)):=HR.out
  rintro e w2 ⟨⟨z,rfl⟩,hI2,hF2⟩
  have hS2:=hS.fr (FrU.of hF2 u) hI1.bs hI2.bs hg (by omega) (by omega) (fun e=>by have:=hub _ e;omega) (fun e=>by have:=hub _ e;omega)
  have hf2:=hf1.trans (FrU.of hF2 u)
  have hsz2:w.heap.size+2≤w2.heap.size:=Nat.le_trans hsz1 hF2.size
  clear hF2 hS hI1 hf1 hC hsz1
  go_wp2
  refine hK.out _ _ hS2 (fun hHeld=>?_)
  clear hK K hHeld
  refine wpAnyH_done (by kernel_rfl) ?_ _
  go_wp2
  go_end0
  exact SR.mkOk HB.out hI2 hf2
end
section
variable {E:Env} {p:Pr} {w0:World} {D Kb kn:Nat} {kf:KF}
set_option maxHeartbeats 4000000 in
theorem oStatOut (l:Bool) (e:Tree) (hx:ExT e) (hT:∀ L,LabL L→Tab E L kf (vsOf L)):StatC E p w0 D Kb kn kf (.node 12 empty (bI l) [e]):=by
 intro ctx deep first L u v w at_ hv hInv hLab h20 hctx hdeep h h0 hm
 have c24:=kc25
 have c2:=kc179
 have c4:Tryz.prog.cellsOf 76=4:=cell4
 have hTab:=hT L hLab
 have hvs:(vsOf L).length≤1000:=by rw [vsOf_len];omega
 rw [cntN] at hm
 have hcl:=cntL_pos [e]
 obtain ⟨g,o,c,rfl,hg,hl,hkid⟩:=lies_kid hv (by simp)
 obtain ⟨kk,xx,mm,aa,na,ca,k0,k1,k2,k3,hle⟩:=hkid 0 (by simp)
 simp only [Nat.zero_mul,Nat.add_zero,List.getElem_cons_zero,List.length_singleton] at k0 k1 k2 k3 hle ⊢
 have HR:=show Hid _ from st_out p ctx deep at_ hTab hctx l e
 obtain ⟨R,hR⟩:∃ R,stF E p ctx deep false (.node 12 empty (bI l) [e]) L at_=R:=⟨_,rfl⟩
 rw [hR] at HR ⊢
 clear hR hkid hv
 have hub:∀ b,u.ownBlock=some b→b<w.heap.size:=fun b e=>(h.rl.lt _ e).2
 have hd:=h.lt
 have hI0:=(h.alloc (.cells #[.int .i64 12,.string empty,.int .i64 (bI l),.slice (some ⟨g,o,none⟩) 1 c] 25)).alloc (.cells #[.int .i64 ctx,.int .i64 (first:Int)] 179)
 have hf0:=((FrU.refl D u w).alloc (.cells #[.int .i64 12,.string empty,.int .i64 (bI l),.slice (some ⟨g,o,none⟩) 1 c] 25)).alloc (.cells #[.int .i64 ctx,.int .i64 (first:Int)] 179)
 have hBg:=hI0.begin h0 (by omega)
 have hS0:HS w.heap.size g o (.int .i64 12) (.string empty) (.int .i64 (bI l)) (.slice (some ⟨g,o,none⟩) 1 c) (.int .i64 kk) (.string xx) (.int .i64 mm) (.slice aa na ca) (.int .i64 ctx) (.int .i64 (first:Int)) ((w.alloc (.cells #[.int .i64 12,.string empty,.int .i64 (bI l),.slice (some ⟨g,o,none⟩) 1 c] 25)).alloc (.cells #[.int .i64 ctx,.int .i64 (first:Int)] 179)) :=
  HS.new hI0.bs hg k0 k1 k2 k3
 have hgD:g≠D:=by have:=h.hD;omega
 have hKb:=h.mp.lt
 have hfm:=h.fm
 have hcp:=cntT_pos e
 rw [cntL_one] at hm
 have hC:=fun W (hI1:CS w0 W D Kb kn kf (vsOf L) u (at_+1))=>oExpr E L ctx (hTab.agr ctx) hvs e _ W (at_+1) hx hle hI1 (by omega) (by omega)
 clear hle k0 k1 k2 k3 hx hTab hT
 generalize exF E L ctx false e (at_+1)=X at *
 go_enter Tryz.func157,Tryz.ntmps157
 go_wp2_with (go_at_call 81;refine hBg.mono ?_;rintro e w1 ⟨rfl,hw1⟩;have hI1:CS w0 w1 D Kb kn kf (vsOf L) u (at_+1):=by { rw [hw1];exact hI0.setAt _ };have hS1:HS w.heap.size g o (.int .i64 12) (.string empty) (.int .i64 (bI l)) (.slice (some ⟨g,o,none⟩) 1 c) (.int .i64 kk) (.string xx) (.int .i64 mm) (.slice aa na ca) (.int .i64 ctx) (.int .i64 (first:Int)) w1:=by { rw [hw1];exact hS0.setD (by omega) (by omega) hgD _ _ };have hf1:FrU D u u w w1:=by { rw [hw1];exact hf0.set _ _ (fun _ e=>e) };have hsz1:w.heap.size+2≤w1.heap.size:=by { rw [hw1,World.size_setCell];simp };clear hw1;obtain ⟨y0,y1,y2,y3,y4,y5,y6,y7,y8,y9⟩:=id hS1)
 clear y0 y1 y2 y3 y4 y5 y6 y7 y8 y9 hI0 hf0 hS0 hBg
 have hS:HS w.heap.size g o (.int .i64 12) (.string empty) (.int .i64 (bI l)) (.slice (some ⟨g,o,none⟩) 1 c) (.int .i64 kk) (.string xx) (.int .i64 mm) (.slice aa na ca) (.int .i64 ctx) (.int .i64 (first:Int)) w1.drew:=hS1
 refine wp_region_held_drew (S:=HS w.heap.size g o (.int .i64 12) (.string empty) (.int .i64 (bI l)) (.slice (some ⟨g,o,none⟩) 1 c) (.int .i64 kk) (.string xx) (.int .i64 mm) (.slice aa na ca) (.int .i64 ctx) (.int .i64 (first:Int))) (by kernel_rfl) hS (fun hHeld=>?_)
 clear hHeld
 replace hI1:=hI1.drew
 replace hf1:=hf1.drew
 replace hsz1:w.heap.size+2≤w1.drew.heap.size:=hsz1
 generalize w1.drew=W at *
 refine tkP 0 (.pointer (some ⟨D,0,none⟩)) hS ?_
 simp only [Act.put,jA,jB,jC]
 refine tkP 1 (.pointer (some ⟨w.heap.size,3,none⟩)) hS ?_
 simp only [Act.put,jA,jB,jC]
 refine tkP 2 (.slice (some ⟨g,o,none⟩) 1 c) hS ?_
 simp only [Act.put,jA,jB,jC]
 refine tkP 3 (.pointer (some ⟨g,o,none⟩)) hS ?_
 simp only [Act.put,jA,jB,jC]
 refine tkP 4 (.agg #[.int .i64 kk,.string xx,.int .i64 mm,.slice aa na ca]) hS ?_
 simp only [Act.put,jA,jB,jC]
 refine tkP 5 (.pointer (some ⟨w.heap.size+1,0,none⟩)) hS ?_
 simp only [Act.put,jA,jB,jC]
 refine tkP 6 (.int .i64 ctx) hS ?_
 simp only [Act.put,jA,jB,jC]
 refine oneH 7 fun K hK=>?_
 go_simp
 go_at_call 159
 refine (hC W hI1).mono ?_
 cases X with
 | bad cc bb =>
  have HB:Hid (R=.bad cc bb):=HR.out
  rintro e w2 ⟨rfl,hb2⟩
  go_wp2
  exact ⟨rfl,SR.mkBad HB.out hb2⟩
 | ok q =>
  obtain ⟨l1,a1⟩:=q
  have HB:Hid (R=if flows (bI l) [l1,ctx]=false then .bad 7 at_ else .ok (L,a1)):=HR.out
  clear HR
  rintro e w2 ⟨rfl,hI2,hF2⟩
  dsimp only at hI2
  have hS2:=hS.fr (FrU.of hF2 u) hI1.bs hI2.bs hg (by omega) (by omega) (fun e=>by have:=hub _ e;omega) (fun e=>by have:=hub _ e;omega)
  have hf2:=hf1.trans (FrU.of hF2 u)
  have hsz2:w.heap.size+2≤w2.heap.size:=Nat.le_trans hsz1 hF2.size
  clear hF2 hS hI1 hf1 hC hsz1
  go_wp2
  refine hK.out _ _ hS2 (fun hHeld=>?_)
  clear hK K hHeld
  refine tkP 8 (.int .i64 l1) hS2 ?_
  simp only [Act.put,jA,jB,jC]
  simp only [List.getElem_toArray,List.getElem_cons_succ,List.getElem_cons_zero,List.setIfInBounds_toArray,List.set_cons_zero,List.set_cons_succ]
  refine wpAnyH_done (by kernel_rfl) ?_ _
  have hS:HS w.heap.size g o (.int .i64 12) (.string empty) (.int .i64 (bI l)) (.slice (some ⟨g,o,none⟩) 1 c) (.int .i64 kk) (.string xx) (.int .i64 mm) (.slice aa na ca) (.int .i64 ctx) (.int .i64 (first:Int)) w2.drew:=hS2
  go_wp2
  refine wp_region_held_drew (S:=HS w.heap.size g o (.int .i64 12) (.string empty) (.int .i64 (bI l)) (.slice (some ⟨g,o,none⟩) 1 c) (.int .i64 kk) (.string xx) (.int .i64 mm) (.slice aa na ca) (.int .i64 ctx) (.int .i64 (first:Int))) (by kernel_rfl) hS (fun hHeld=>?_)
  clear hHeld hS2
  replace hI2:=hI2.drew
  replace hf2:=hf2.drew
  replace hsz2:w.heap.size+2≤w2.drew.heap.size:=hsz2
  generalize w2.drew=W2 at *
  refine tkP 0 (.int .i64 at_) hS ?_
  simp only [Act.put,jA,jB,jC]
  refine tkP 1 (.agg #[.int .i64 12,.string empty,.int .i64 (bI l),.slice (some ⟨g,o,none⟩) 1 c]) hS ?_
  simp only [Act.put,jA,jB,jC]
  refine tkP 3 (.int .i64 l1) hS ?_
  simp only [Act.put,jA,jB,jC]
  refine tkP 4 (.pointer (some ⟨w.heap.size+1,0,none⟩)) hS ?_
  simp only [Act.put,jA,jB,jC]
  refine tkP 5 (.int .i64 ctx) hS ?_
  simp only [Act.put,jA,jB,jC]
  refine wpAnyH_ready (rs:=[2,6]) (by kernel_rfl) (by simp) ?_
  refine AllReadyH.cons rfl (fun K hK=>?_) ?_
  ·go_simp
   go_at_call 156
   refine (oLabelOf 12 empty (bI l) _ _ _ W2).mono ?_
   rintro e w3 ⟨rfl,hb3⟩
   rw [bits_bI]
   have hI3:=hI2.below hb3
   have hS3:=hS.fr (FrU.below hb3 D u) hI2.bs hI3.bs hg (by omega) (by omega) (fun e=>by have:=hub _ e;omega) (fun e=>by have:=hub _ e;omega)
   have hf3:=hf2.trans (FrU.below hb3 D u)
   go_wp2
   refine hK.out _ _ hS3 (fun hHeld=>?_)
   clear hK K hHeld hS hI2 hf2
   refine oneH 6 fun K hK=>?_
   go_simp
   have hIn:=ints_two w3 l1 ctx
   have hI4:=hI3.alloc (.cells #[.int .i64 l1,.int .i64 ctx] 3)
   have hS4:=hS3.fr ((FrU.refl D u w3).alloc (.cells #[.int .i64 l1,.int .i64 ctx] 3)) hI3.bs hI4.bs hg (by omega) (by omega) (fun e=>by have:=hub _ e;omega) (fun e=>by have:=hub _ e;omega)
   have hf4:=hf3.alloc (.cells #[.int .i64 l1,.int .i64 ctx] 3)
   refine hK.out _ _ hS4 (fun hHeld=>?_)
   clear hK K hHeld hS3 hI3 hf3
   generalize w3.alloc (.cells #[.int .i64 l1,.int .i64 ctx] 3)=W4 at *
   generalize w3.heap.size=B4 at *
   refine oneH 7 fun K hK=>?_
   go_simp
   go_at_call 158
   refine (oFlow at_ (bI l) [l1,ctx] _ _ hIn).mono ?_
   rintro e w6 (⟨hfl,rfl,rfl⟩|⟨hfl,rfl,rfl⟩)
   ·have HC:Hid (R=.ok (L,a1)):=HB.out.trans (if_neg (by rw [hfl];decide))
    clear hfl HB
    go_wp2
    refine hK.out _ _ hS4 (fun hHeld=>?_)
    clear hK K hHeld
    refine wpAnyH_done (by kernel_rfl) ?_ _
    go_wp2
    go_end0
    exact SR.mkOk HC.out hI4 hf4
   ·have HC:Hid (R=.bad 7 at_):=HB.out.trans (if_pos hfl)
    clear hfl HB
    go_wp2
    exact ⟨rfl,SR.mkBad HC.out hI4.bs⟩
  ·refine AllReadyH.cons rfl (fun K hK=>?_) AllReadyH.nil
   go_simp
   have hIn:=ints_two W2 l1 ctx
   have hI3:=hI2.alloc (.cells #[.int .i64 l1,.int .i64 ctx] 3)
   have hS3:=hS.fr ((FrU.refl D u W2).alloc (.cells #[.int .i64 l1,.int .i64 ctx] 3)) hI2.bs hI3.bs hg (by omega) (by omega) (fun e=>by have:=hub _ e;omega) (fun e=>by have:=hub _ e;omega)
   have hf3:=hf2.alloc (.cells #[.int .i64 l1,.int .i64 ctx] 3)
   refine hK.out _ _ hS3 (fun hHeld=>?_)
   clear hK K hHeld hS hI2 hf2
   generalize W2.alloc (.cells #[.int .i64 l1,.int .i64 ctx] 3)=W3 at *
   generalize W2.heap.size=B4 at *
   refine oneH 2 fun K hK=>?_
   go_simp
   go_at_call 156
   refine (oLabelOf 12 empty (bI l) _ _ _ W3).mono ?_
   rintro e W4 ⟨rfl,hb4⟩
   rw [bits_bI]
   have hI4:=hI3.below hb4
   have hS4:=hS3.fr (FrU.below hb4 D u) hI3.bs hI4.bs hg (by omega) (by omega) (fun e=>by have:=hub _ e;omega) (fun e=>by have:=hub _ e;omega)
   have hf4:=hf3.trans (FrU.below hb4 D u)
   replace hIn:=hIn.below hb4
   go_wp2
   refine hK.out _ _ hS4 (fun hHeld=>?_)
   clear hK K hHeld hS3 hI3 hf3
   refine oneH 7 fun K hK=>?_
   go_simp
   go_at_call 158
   refine (oFlow at_ (bI l) [l1,ctx] _ _ hIn).mono ?_
   rintro e w6 (⟨hfl,rfl,rfl⟩|⟨hfl,rfl,rfl⟩)
   ·have HC:Hid (R=.ok (L,a1)):=HB.out.trans (if_neg (by rw [hfl];decide))
    clear hfl HB
    go_wp2
    refine hK.out _ _ hS4 (fun hHeld=>?_)
    clear hK K hHeld
    refine wpAnyH_done (by kernel_rfl) ?_ _
    go_wp2
    go_end0
    exact SR.mkOk HC.out hI4 hf4
   ·have HC:Hid (R=.bad 7 at_):=HB.out.trans (if_pos hfl)
    clear hfl HB
    go_wp2
    exact ⟨rfl,SR.mkBad HC.out hI4.bs⟩
end
end chk
end Go.Proofs.YtfopddgjdaoidaaGreatDoor
