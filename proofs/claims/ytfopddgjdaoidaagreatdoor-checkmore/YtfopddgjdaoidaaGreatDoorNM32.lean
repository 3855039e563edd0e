/- Statements, each as the program goes over it. No Go in sight. -/
import Derived.Test.YtfopddgjdaoidaaGreatDoorNM31
set_option linter.unusedVariables false
set_option linter.unusedSimpArgs false
set_option maxRecDepth 100000
namespace Go.Proofs.YtfopddgjdaoidaaGreatDoor.chk
open Go.RowKit Go.Shelf
open syn face
structure FrU (D:Nat) (u u':Value) (w w':World):Prop where
  size:w.heap.size≤w'.heap.size
  block:∀ b,b<w.heap.size→b≠D→u.ownBlock≠some b→w'.heap[b]?=w.heap[b]?
  own:∀ b,u'.ownBlock=some b→u.ownBlock=some b∨w.heap.size≤b
section
variable {D:Nat} {u u1 u2:Value} {w w1 w2:World}
theorem FrU.refl (D:Nat) (u:Value) (w:World):FrU D u u w w:=⟨jE _,fun _ _ _ _=>rfl,fun _ e=>.inl e⟩
theorem FrU.trans (h:FrU D u u1 w w1) (g:FrU D u1 u2 w1 w2):FrU D u u2 w w2:=by
  refine ⟨Nat.le_trans h.size g.size,fun b h1 h2 h3=>?_,fun b e=>?_⟩
  · refine (g.block b (Nat.lt_of_lt_of_le h1 h.size) h2 (fun e=>?_)).trans (h.block b h1 h2 h3)
    rcases h.own b e with h4 | h4
    · exact h3 h4
    · omega
  · rcases g.own b e with h4 | h4
    · exact h.own b h4
    · exact .inr (Nat.le_trans h.size h4)
theorem FrU.of (h:Fr D w w1) (u:Value):FrU D u u w w1:=⟨h.size,fun b h1 h2 _=>h.block b h1 (fun e=>h2 (by cases e;rfl)),fun _ e=>.inl e⟩
theorem FrU.below (h:Below w.heap.size w w1) (D:Nat) (u:Value):FrU D u u w w1:=⟨h.size,fun b h1 _ _=>h.block b h1,fun _ e=>.inl e⟩
theorem FrU.alloc (h:FrU D u u1 w w1) (o:Obj):FrU D u u1 w (w1.alloc o):=h.trans (.below ((Below.refl _ _).alloc (jE _) o) D u1)
theorem FrU.drew (h:FrU D u u1 w w1):FrU D u u1 w w1.drew:=h.trans (.below (Below.refl _ _).drew D u1)
theorem FrU.cell {b o:Nat} (h:FrU D u u1 w w1) (h1:b<w.heap.size) (h2:b≠D) (h3:u.ownBlock≠some b):w1.cell? ⟨b,o,none⟩=w.cell? ⟨b,o,none⟩:=World.cell?_of_block (a:=⟨b,o,none⟩) (h.block b h1 h2 h3)
theorem FrU.set (h:FrU D u u1 w w1) (o:Nat) (v:Value) (hs:∀ b,u2.ownBlock=some b→u1.ownBlock=some b):FrU D u u2 w (w1.setCell ⟨D,o,none⟩ v) :=
  h.trans ⟨by rw [World.size_setCell];exact jE _,fun b _ h2 _=>Below.heap_setCell w1 ⟨D,o,none⟩ v b h2,fun b e=>.inl (hs b e)⟩
end
def SR (w0:World) (D Kb kn:Nat) (kf:KF) (u:Value) (w:World) (r:Res (List Loc × Int)) (e:Ending) (w':World):Prop:=match r with
  | .bad c b=>e=.panicked (Thrown c b)∧Below w0.heap.size w0 w'
  | .ok q=>e=.returned (.tuple #[])∧∃ u',CS w0 w' D Kb kn kf (vsOf q.1) u' q.2∧FrU D u u' w w'
section
variable (E:Env) (p:Pr) (w0:World) (D Kb kn:Nat) (kf:KF)
def StatC (t:Tree):Prop:=∀ (ctx deep:Int) (first:Nat) (L:List Loc) (u v:Value) (w:World) (at_:Int),Lies (·<w0.heap.size) w0 t v→InvL L deep first→LabL L→L.length≤20→Lab ctx→1≤deep→CS w0 w D Kb kn kf (vsOf L) u at_→0≤at_→at_+cntT t≤1000000 →
  Calls Tryz.prog 157 #[.pointer (some ⟨D,0,none⟩),v,.agg #[.int .i64 ctx,.int .i64 (first:Int)]] w (SR w0 D Kb kn kf u w (stF E p ctx deep false t L at_))
def StatsC (ks:List Tree):Prop:=∀ (ctx deep:Int) (first:Nat) (L:List Loc) (u:Value) (a:Option Addr) (c:Nat) (w:World) (at_:Int),(ks≠[]→∃ g o,a=some ⟨g,o,none⟩∧g<w0.heap.size∧LiesAt (·<w0.heap.size) w0 ks g o)→InvL L deep first→LabL L→L.length≤20→Lab ctx→1≤deep→CS w0 w D Kb kn kf (vsOf L) u at_→0≤at_→at_+cntL ks≤1000000 →
  Calls Tryz.prog 133 #[.pointer (some ⟨D,0,none⟩),.slice a ks.length c,.agg #[.int .i64 ctx,.int .i64 (first:Int)]] w (SR w0 D Kb kn kf u w (stsN E p ctx deep ks L at_))
def BlockC (t:Tree):Prop:=∀ (ctx deep:Int) (first:Nat) (L:List Loc) (u v:Value) (w:World) (at_:Int),Lies (·<w0.heap.size) w0 t v→InvL L deep first→LabL L→L.length≤20→Lab ctx→1≤deep→CS w0 w D Kb kn kf (vsOf L) u at_→0≤at_→at_+cntT t≤1000000 →
  Calls Tryz.prog 187 #[.pointer (some ⟨D,0,none⟩),v,.int .i64 ctx] w (SR w0 D Kb kn kf u w (blF E p ctx (deep+1) t L at_))
end
section
variable {E:Env} {p:Pr} {w0:World} {D Kb kn:Nat} {kf:KF} {u:Value}
theorem SR.mkBad {w w':World} {r:Res (List Loc × Int)} {c b:Int} (h:r=.bad c b) (hb:Below w0.heap.size w0 w'):SR w0 D Kb kn kf u w r (.panicked (Thrown c b)) w':=by rw [h];exact ⟨rfl,hb⟩
theorem SR.mkOk {w w':World} {r:Res (List Loc × Int)} {L:List Loc} {a:Int} {u':Value} (h:r=.ok (L,a)) (hc:CS w0 w' D Kb kn kf (vsOf L) u' a) (hf:FrU D u u' w w'):SR w0 D Kb kn kf u w r (.returned (.tuple #[])) w':=by rw [h];exact ⟨rfl,u',hc,hf⟩
theorem stsN_step (E:Env) (p:Pr) (ctx deep:Int) (ks:List Tree) (j:Nat) (hj:j<ks.length) (L:List Loc) (a:Int):stsN E p ctx deep (ks.drop j) L a=match stF E p ctx deep false ks[j] L a with
    | .bad c b=>.bad c b
    | .ok q=>stsN E p ctx deep (ks.drop (j+1)) q.1 q.2:=by
  rw [List.drop_eq_getElem_cons hj]
  rfl
set_option maxHeartbeats 2000000 in
theorem oStats (ks:List Tree) (hst:∀ t ∈ ks,StT t) (ih:∀ j (hj:j<ks.length),StatC E p w0 D Kb kn kf ks[j]):StatsC E p w0 D Kb kn kf ks:=by
  intro ctx deep first L u a c w at_ hk hInv hLab h20 hctx hdeep h h0 hm
  have c24:Tryz.prog.cellsOf 25=4:=by kernel_rfl
  have c2:Tryz.prog.cellsOf 179=2:=by kernel_rfl
  have hlen:=len_cnt ks
  obtain ⟨R,hR⟩:∃ R,stsN E p ctx deep ks L at_=R:=⟨_,rfl⟩
  rw [hR]
  have HR:Hid (stsN E p ctx deep ks L at_=R):=hR
  clear hR
  have hub:u.ownBlock≠some w.heap.size:=fun e=>by have:=(h.rl.lt _ e).2;omega
  have hd:=h.lt
  have hI0:=h.alloc (.cells #[.int .i64 ctx,.int .i64 (first:Int)] 179)
  have hf0:=(FrU.refl D u w).alloc (.cells #[.int .i64 ctx,.int .i64 (first:Int)] 179)
  have b0:(w.alloc (.cells #[.int .i64 ctx,.int .i64 (first:Int)] 179)).cell? ⟨w.heap.size,0,none⟩=some (.int .i64 ctx):=by simp
  have b1:(w.alloc (.cells #[.int .i64 ctx,.int .i64 (first:Int)] 179)).cell? ⟨w.heap.size,1,none⟩=some (.int .i64 (first:Int)):=by simp
  have hsz:w.heap.size<(w.alloc (.cells #[.int .i64 ctx,.int .i64 (first:Int)] 179)).heap.size:=by simp
  go_enter Tryz.func133,Tryz.ntmps133
  go_wp2
  generalize w.alloc (.cells #[.int .i64 ctx,.int .i64 (first:Int)] 179)=W1 at *
  go_loopw [10] (fun t wr=>∃ (j:Nat) (L':List Loc) (u':Value),j≤ks.length∧t=.int .i64 j∧Hid (Ext deep L L')∧Hid (L'.length≤20)∧CS w0 wr D Kb kn kf (vsOf L') u' (at_+cntL (ks.take j))∧FrU D u u' W1 wr∧Hid (R=stsN E p ctx deep (ks.drop j) L' (at_+cntL (ks.take j)))) (fun t _=>ks.length - (intOf t).toNat)
  case atStart =>
    refine ⟨0,L,u,Nat.zero_le _,rfl,Ext.refl _ _,h20,by simpa [cntL] using hI0,FrU.refl _ _ _,?_⟩
    show _=_
    rw [← HR.out,List.drop_zero]
    simp only [List.take_zero,cntL,Int.add_zero]
  case round =>
    clear hI0
    obtain ⟨j,L',u',hj,rfl,HE,H20,hI,hFr,HRR⟩:=hrel
    have z0:=(hFr.cell (o:=0) hsz (by omega) hub).trans b0
    have z1:=(hFr.cell (o:=1) hsz (by omega) hub).trans b1
    by_cases hlt:j<ks.length
    · obtain ⟨g,o,rfl,hg,hat⟩:=hk (by intro e;rw [e] at hlt;simp at hlt)
      obtain ⟨v1,⟨x0,x1,x2,x3,rfl,c0,c1',c2',c3⟩,hlk⟩:=hat.get j hlt
      obtain ⟨kk,xx,mm,_,he,aa,na,ca,rfl⟩:=hlk.shape
      injection he with he
      simp only [Array.mk.injEq,List.cons.injEq,and_true] at he
      obtain ⟨rfl,rfl,rfl,rfl⟩:=he
      have k0:=(hI.bs.cell (p:=⟨g,o+j * 4,none⟩) hg).trans c0
      have k1:=(hI.bs.cell (p:=⟨g,o+j * 4+1,none⟩) hg).trans c1'
      have k2:=(hI.bs.cell (p:=⟨g,o+j * 4+2,none⟩) hg).trans c2'
      have k3:=(hI.bs.cell (p:=⟨g,o+j * 4+3,none⟩) hg).trans c3
      have hs1:=cntL_take ks j hlt
      have hs2:=cntL_take_le ks (j+1)
      have hs3:=cntT_pos ks[j]
      have hs4:=cntL_pos (ks.take j)
      have hI1:=hI.alloc (.cells #[.int .i64 kk,.string xx,.int .i64 mm,.slice aa na ca] 25)
      have hFr1:=hFr.alloc (.cells #[.int .i64 kk,.string xx,.int .i64 mm,.slice aa na ca] 25)
      have z0':=(hFr1.cell (o:=0) hsz (by omega) hub).trans b0
      have z1':=(hFr1.cell (o:=1) hsz (by omega) hub).trans b1
      have hC:=ih j hlt ctx deep first L' u' _ _ _ hlk (hInv.ext HE.out) (HE.out.lab hLab) H20.out hctx hdeep hI1 (by omega) (by omega)
      have HP:Hid (R=match stF E p ctx deep false ks[j] L' (at_+cntL (ks.take j)) with
          | .bad c b=>.bad c b
          | .ok q=>stsN E p ctx deep (ks.drop (j+1)) q.1 q.2):=HRR.out.trans (stsN_step E p ctx deep ks j hlt L' _)
      have HA:Hid (∀ q,stF E p ctx deep false ks[j] L' (at_+cntL (ks.take j))=.ok q→Ext deep L' q.1∧q.2=at_+cntL (ks.take (j+1))∧q.1.length≤20):=fun q hq=>by
        obtain ⟨h1,h2,h3⟩:=stF_ok E p _ _ _ _ _ _ _ (hst _ (List.getElem_mem hlt)) hq
        exact ⟨h1,by omega,h3 H20.out⟩
      clear c0 c1' c2' c3 hat hlk hk HRR hs1 hs2 hs3 hs4 ih
      generalize hXX:stF E p ctx deep false ks[j] L' (at_+cntL (ks.take j))=X at *
      have HA2:Hid (∀ q,X=.ok q→Ext deep L' q.1∧q.2=at_+cntL (ks.take (j+1))∧q.1.length≤20):=fun q hq=>HA.out q hq
      clear hXX HA
      cases X with
      | bad cc bb =>
        have HRB:Hid (R=.bad cc bb):=HP.out
        go_wp2_with (go_at_call 157;refine hC.mono ?_;rintro e w2 ⟨rfl,hb2⟩)
        exact ⟨rfl,SR.mkBad HRB.out hb2⟩
      | ok q =>
        have HRO:Hid (R=stsN E p ctx deep (ks.drop (j+1)) q.1 q.2):=HP.out
        obtain ⟨g1,g2,g3⟩:=HA2.out q rfl
        obtain ⟨L2,a2⟩:=q
        dsimp only at g1 g2 g3 hC
        subst g2
        have HE2:Hid (Ext deep L L2):=HE.out.trans g1
        have H202:Hid (L2.length≤20):=g3
        clear g1 g3
        go_wp2_with (go_at_call 157;refine hC.mono ?_;rintro e w2 ⟨rfl,u2,hI2,hf2⟩)
        exact ⟨⟨j+1,L2,u2,by omega,by simp,HE2,H202,hI2,hFr1.trans hf2,HRO.out⟩,by simp [intOf];omega⟩
    · obtain rfl:j=ks.length:=by omega
      have HX:Hid (R=.ok (L',at_+cntL ks)):=by
        show _=_
        rw [HRR.out,List.drop_eq_nil_of_le (by omega),List.take_of_length_le (by omega)]
        rfl
      rw [List.take_of_length_le (by omega)] at hI
      clear ih hk HRR
      go_wp2
      go_end0
      exact SR.mkOk HX.out hI (hf0.trans hFr)
end
theorem vsOf_len (L:List Loc):(vsOf L).length=L.length:=by unfold vsOf;rw [List.length_map]
theorem vsOf_take (L:List Loc) (n:Nat):(vsOf L).take n=vsOf (L.take n):=by unfold vsOf;rw [List.map_take]
theorem own_cap {w:World} {B:Nat} {T:TypeId} {k n c:Nat} {a:Option Addr} {xs:List Value} (h:w.ownsRow B T k (.slice a n c) n xs):n≤c:=by
  rcases h.2 with ⟨e,hn⟩ | ⟨g,cap,cur,e,h3,h4,h5,h6,_⟩
  · omega
  · injection e with _ _ e2;omega
section
variable {E:Env} {p:Pr} {w0:World} {D Kb kn:Nat} {kf:KF}
set_option maxHeartbeats 2000000 in
theorem oBlock (k:Int) (x:ByteArray) (m:Int) (ks:List Tree) (hb:BlT (.node k x m ks)) (hS:StatsC E p w0 D Kb kn kf ks):BlockC E p w0 D Kb kn kf (.node k x m ks):=by
  intro ctx deep first L u v w at_ hv hInv hLab h20 hctx hdeep h h0 hm
  have c24:Tryz.prog.cellsOf 25=4:=by kernel_rfl
  have hst:∀ t ∈ ks,StT t:=by cases hb with | mk h=>exact h
  rw [cntN] at hm
  have hcp:=cntL_pos ks
  unfold Lies at hv
  obtain ⟨a,c,rfl,hl,hk⟩:=hv
  obtain ⟨ua,uc,rfl,hucl,hug⟩:=lexs.own_shape h.rl
  rw [vsOf_len] at h ⊢
  have hub:(Value.slice ua L.length uc).ownBlock≠some w.heap.size:=fun e=>by have:=(h.rl.lt _ e).2;omega
  have hd:=h.lt
  have HR:Hid (blF E p ctx (deep+1) (.node k x m ks) L at_=match stsN E p ctx (deep+1) ks L (at_+1) with
      | .bad c b=>.bad c b
      | .ok q=>.ok (q.1.take L.length,q.2)):=by
    show _=_
    unfold blF
    rw [stsN_in E p ctx (deep+1) (by omega)]
    cases stsN E p ctx (deep+1) ks L (at_+1) <;> rfl
  obtain ⟨R,hR⟩:∃ R,blF E p ctx (deep+1) (.node k x m ks) L at_=R:=⟨_,rfl⟩
  rw [hR] at HR ⊢
  clear hR
  have hI0:=h.alloc (.cells #[.int .i64 k,.string x,.int .i64 m,.slice a ks.length c] 25)
  have hf0:=(FrU.refl D (.slice ua L.length uc) w).alloc (.cells #[.int .i64 k,.string x,.int .i64 m,.slice a ks.length c] 25)
  have hBg:=hI0.begin h0 (by omega)
  have HA:Hid (∀ q,stsN E p ctx (deep+1) ks L (at_+1)=.ok q→Ext (deep+1) L q.1):=fun q hq=>(stsN_ok E p ks _ _ _ _ _ hst hq).1
  have hC:=fun W hI1=>hS ctx (deep+1) L.length L (.slice ua L.length uc) a c W (at_+1) hk hInv.enter hLab h20 hctx (by omega) hI1 (by omega) (by omega)
  generalize stsN E p ctx (deep+1) ks L (at_+1)=X at *
  clear hk hS hst hb
  cases X with
  | bad cc bb =>
    have HB:Hid (R=.bad cc bb):=HR.out
    go_enter Tryz.func187,Tryz.ntmps187
    go_wp2_with first
      | (go_at_call 81;refine hBg.mono ?_;rintro e w1 ⟨rfl,hw1⟩;have hI1:CS w0 w1 D Kb kn kf (vsOf L) (.slice ua L.length uc) (at_+1):=by { rw [hw1];exact hI0.setAt _ };have hQ1:Q4 w.heap.size (.int .i64 k) (.string x) (.int .i64 m) (.slice a ks.length c) w1:=by { rw [hw1];exact Q4.other (by omega) ⟨by simp,by simp,by simp,by simp⟩ _ _ };clear hw1;obtain ⟨q0,q1,q2,q3⟩:=id hQ1;have m6:=hI1.c6)
      | (go_at_call 133;refine (hC _ hI1).mono ?_;rintro e w2 ⟨rfl,hb2⟩)
    exact ⟨rfl,SR.mkBad HB.out hb2⟩
  | ok q =>
    obtain ⟨L2,a2⟩:=q
    have hE:=HA.out _ rfl
    have HB:Hid (R=.ok (L,a2)):=HR.out.trans (by show Res.ok (L2.take L.length,a2)=_;rw [hE.take])
    have hle:=hE.len
    have htk:=hE.take
    go_enter Tryz.func187,Tryz.ntmps187
    go_wp2_with first
      | (go_at_call 81;refine hBg.mono ?_;rintro e w1 ⟨rfl,hw1⟩;have hI1:CS w0 w1 D Kb kn kf (vsOf L) (.slice ua L.length uc) (at_+1):=by { rw [hw1];exact hI0.setAt _ };have hQ1:Q4 w.heap.size (.int .i64 k) (.string x) (.int .i64 m) (.slice a ks.length c) w1:=by { rw [hw1];exact Q4.other (by omega) ⟨by simp,by simp,by simp,by simp⟩ _ _ };have hf1:FrU D (.slice ua L.length uc) (.slice ua L.length uc) w w1:=by { rw [hw1];exact hf0.set _ _ (fun _ e=>e) };clear hw1;obtain ⟨q0,q1,q2,q3⟩:=id hQ1;have m6:=hI1.c6)
      | (go_at_call 133;refine (hC _ hI1).mono ?_;rintro e w2 ⟨rfl,u2,hI2,hf2⟩;obtain ⟨ua2,uc2,rfl,hucl2,hug2⟩:=lexs.own_shape hI2.rl;have hI2':=hI2;rw [vsOf_len] at hI2 hf2 hucl2;have m62:=hI2.c6;have mf2:=hI2.fz 6;have hcap2:L2.length≤uc2:=own_cap (by have:=hI2.rl;rw [vsOf_len] at this;exact this))
    go_end0
    have hcut:=hI2'.cut (n:=L.length) (by rw [vsOf_len];exact hle)
    rw [vsOf_take,htk] at hcut
    exact SR.mkOk HB.out hcut (FrU.set (u1:=.slice ua2 L2.length uc2) (hf1.trans hf2) 6 _ (fun b e=>by cases ua2 <;> exact e))
end
end Go.Proofs.YtfopddgjdaoidaaGreatDoor.chk
namespace Go.Proofs.YtfopddgjdaoidaaGreatDoor.chk
open syn face
structure Tab (E:Env) (L:List Loc) (kf:ByteArray→Option FV) (vs:List VarD):Prop where
  ok:EnvOk E
  lab:LabL L
  hv:∀ x,LongN x→(varP kf vs x).map (fun v=>(v.label,v.size))=varF E L x
  hp:∀ x,LongN x→procP kf x=procF E x
section
variable {E:Env} {L:List Loc} {kf:ByteArray→Option FV} {vs:List VarD}
theorem Tab.lv (h:Tab E L kf vs) {x:ByteArray} {v:VarD} (hx:LongN x) (hv:varP kf vs x=some v):Lab v.label∧0≤v.size:=by
  have:=h.hv x hx
  rw [hv] at this
  exact varF_lab h.ok h.lab this.symm
theorem Tab.lp (h:Tab E L kf vs) {x:ByteArray} {p:ProcD} (hx:LongN x) (hp:procP kf x=some p):(∀ l ∈ p.params,Lab l)∧Lab p.writes∧Lab p.given:=by
  have:=h.hp x hx
  rw [hp] at this
  exact procF_lab h.ok this.symm
theorem Tab.agr (h:Tab E L kf vs) (ctx:Int):Agr E L ctx kf vs :=
  agr_of h.hv h.hp (fun x v hx hv=>h.lv hx hv) (fun x p hx hp=>⟨(h.lp hx hp).1,(h.lp hx hp).2.1⟩)
theorem plF_is (h:Tab E L kf vs) (ctx:Int) {k:Int} {x:ByteArray} {m:Int} {ks:List Tree} (hp:PlT (.node k x m ks)) (a:Int):(plF E L ctx (.node k x m ks) a=match plP kf vs k x a (exL E L ctx ks (a+1)) with
    | .bad c b=>.bad c b
    | .ok q=>.ok (q.1.label,q.2.1,q.2.2))∧∀ q,plP kf vs k x a (exL E L ctx ks (a+1))=.ok q→Lab q.1.label∧Lab q.2.1:=by
  cases hp with
  | nam hx =>
    have e:=h.hv x hx
    have hlv:=fun v=>h.lv (v:=v) hx
    have hX:exL E L ctx [] (a+1)=.ok ([],a+1):=by simp only [exL]
    simp only [plF,plP,hX]
    unfold ownF
    rw [if_pos rfl,← e]
    cases hq:varP kf vs x with
    | none=>exact ⟨rfl,fun q h=>by cases h⟩
    | some v =>
      obtain ⟨h1,h2⟩:=hlv v hq
      dsimp only [Option.map_some]
      by_cases h3:v.size=0
      · rw [if_pos h3,if_pos (by simp [h3])]
        exact ⟨rfl,fun q h=>by cases h;exact ⟨h1,.inl rfl⟩⟩
      · rw [if_neg h3,if_neg (by simp;omega)]
        exact ⟨rfl,fun q h=>by cases h⟩
  | item hx he =>
    rename_i t
    have e:=h.hv x hx
    have hlv:=fun v=>h.lv (v:=v) hx
    have hlt:=fun q=>exF_lab (ctx:=ctx) (alone:=false) (t:=t) (a:=a+1) (q:=q) h.ok h.lab
    simp only [plF,exL_one]
    cases hX:exF E L ctx false t (a+1) with
    | bad c b=>exact ⟨rfl,fun q h=>by cases h⟩
    | ok q =>
      have hl:=hlt q hX
      simp only [plP]
      unfold ownF
      rw [if_neg (by decide),if_pos rfl,← e]
      cases hq:varP kf vs x with
      | none=>exact ⟨rfl,fun q h=>by cases h⟩
      | some v =>
        obtain ⟨h1,h2⟩:=hlv v hq
        dsimp only [Option.map_some]
        by_cases h3:0<v.size
        · rw [if_pos h3,if_pos (by simp [h3])]
          refine ⟨?_,fun q h=>by cases h;exact ⟨h1,hl⟩⟩
          show Res.ok (v.label,jn 0 q.1,q.2)=Res.ok (v.label,q.1,q.2)
          rw [jn0 hl]
        · rw [if_neg h3,if_neg (by simp;omega)]
          exact ⟨rfl,fun q h=>by cases h⟩
section
variable (p:Pr) (ctx deep a:Int)
theorem st_loc (h:Tab E L kf vs) (hc:Lab ctx) {first:Nat} (hI:InvL L deep first) (x:ByteArray) (l:Bool) (e:Tree):stF E p ctx deep false (.node 7 x (bI l) [e]) L a=match exF E L ctx false e (a+1) with
    | .bad c b=>.bad c b
    | .ok q=>if ((vsOf L).drop first).any (fun o=>eqS o.name x)=true then .bad 5 a else if 20≤L.length then .bad 1 a else if flows (bI l) [q.1,ctx]=false then .bad 7 a else .ok (L++[⟨x,bI l,deep⟩],q.2):=by
  unfold stF
  rw [if_neg (by decide)]
  unfold simF
  rw [if_pos rfl,exL_one,hI.any]
  cases hX:exF E L ctx false e (a+1) with
  | bad c b=>rfl
  | ok q =>
    have hl:=exF_lab h.ok h.lab hX
    dsimp only
    rw [show joinL [q.1] 0=q.1 from jn0 hl]
    simp only [flows2 (bI_lab l) hl hc]
theorem st_set (h:Tab E L kf vs) (hc:Lab ctx) {k:Int} {x:ByteArray} {m:Int} {ks:List Tree} (hp:PlT (.node k x m ks)) (e:Tree):stF E p ctx deep false (.node 8 empty 0 [.node k x m ks,e]) L a=match plP kf vs k x (a+1) (exL E L ctx ks (a+1+1)) with
    | .bad c b=>.bad c b
    | .ok q=>match exF E L ctx false e q.2.2 with
      | .bad c b=>.bad c b
      | .ok s=>if flows q.1.label [s.1,q.2.1,ctx]=false then .bad 7 a else .ok (L,s.2):=by
  unfold stF
  rw [if_neg (by decide)]
  unfold simF
  rw [if_neg (by decide),if_pos rfl]
  obtain ⟨h1,h2⟩:=plF_is h ctx hp (a+1)
  dsimp only
  rw [h1]
  cases hX:plP kf vs k x (a+1) (exL E L ctx ks (a+1+1)) with
  | bad c b=>rfl
  | ok q =>
    obtain ⟨l1,l2⟩:=h2 q hX
    dsimp only
    cases hY:exF E L ctx false e q.2.2 with
    | bad c b=>rfl
    | ok s =>
      have hl:=exF_lab h.ok h.lab hY
      dsimp only
      simp only [flows3 l1 hl l2 hc]
theorem st_do (h:Tab E L kf vs) {x:ByteArray} {m:Int} {ks:List Tree} (hx:LongN x):stF E p ctx deep false (.node 9 empty 0 [.node 18 x m ks]) L a=match clP kf ctx true x (a+1) (exL E L ctx ks (a+1+1)) with
    | .bad c b=>.bad c b
    | .ok q=>.ok (L,q.2):=by
  unfold stF
  rw [if_neg (by decide)]
  unfold simF
  rw [if_neg (by decide),if_neg (by decide),if_pos rfl]
  dsimp only
  rw [(h.agr ctx).call hx]
  cases clP kf ctx true x (a+1) (exL E L ctx ks (a+1+1)) <;> rfl
theorem st_out (h:Tab E L kf vs) (hc:Lab ctx) (l:Bool) (e:Tree):stF E p ctx deep false (.node 12 empty (bI l) [e]) L a=match exF E L ctx false e (a+1) with
    | .bad c b=>.bad c b
    | .ok q=>if flows (bI l) [q.1,ctx]=false then .bad 7 a else .ok (L,q.2):=by
  unfold stF
  rw [if_neg (by decide)]
  unfold simF
  rw [if_neg (by decide),if_neg (by decide),if_neg (by decide),if_pos rfl,exL_one]
  cases hX:exF E L ctx false e (a+1) with
  | bad c b=>rfl
  | ok q =>
    have hl:=exF_lab h.ok h.lab hX
    dsimp only
    rw [show joinL [q.1] 0=q.1 from jn0 hl]
    simp only [flows2 (bI_lab l) hl hc]
theorem st_in (h:Tab E L kf vs) (hc:Lab ctx) (l:Bool) {k:Int} {x:ByteArray} {m:Int} {ks:List Tree} (hp:PlT (.node k x m ks)):stF E p ctx deep false (.node 13 empty (bI l) [.node k x m ks]) L a=match plP kf vs k x (a+1) (exL E L ctx ks (a+1+1)) with
    | .bad c b=>.bad c b
    | .ok q=>if flows (bI l) [ctx]=false then .bad 7 a else if flows q.1.label [bI l,q.2.1,ctx]=false then .bad 7 a else .ok (L,q.2.2):=by
  unfold stF
  rw [if_neg (by decide)]
  unfold simF
  rw [if_neg (by decide),if_neg (by decide),if_neg (by decide),if_neg (by decide),if_pos rfl]
  obtain ⟨h1,h2⟩:=plF_is h ctx hp (a+1)
  dsimp only
  rw [h1]
  cases hX:plP kf vs k x (a+1) (exL E L ctx ks (a+1+1)) with
  | bad c b=>rfl
  | ok q =>
    obtain ⟨l1,l2⟩:=h2 q hX
    dsimp only
    simp only [flows1 (bI_lab l) hc,flows3 l1 (bI_lab l) l2 hc]
theorem st_ret (e:Tree):stF E p ctx deep false (.node 14 empty 0 [e]) L a=match exF E L ctx false e (a+1) with
    | .bad c b=>.bad c b
    | .ok q=>.bad 2 a:=by
  unfold stF
  rw [if_neg (by decide)]
  unfold simF
  rw [if_neg (by decide),if_neg (by decide),if_neg (by decide),if_neg (by decide),if_neg (by decide),exL_one]
  cases hX:exF E L ctx false e (a+1) with
  | bad c b=>rfl
  | ok q=>simp
theorem st_last (h:Tab E L kf vs) (hg:p.gives=true) (hl:Lab p.given) (e:Tree):stF E p ctx deep true (.node 14 empty 0 [e]) L a=match exF E L ctx false e (a+1) with
    | .bad c b=>.bad c b
    | .ok q=>if flows p.given [q.1]=false then .bad 7 a else .ok (L,q.2):=by
  unfold stF
  rw [if_neg (by decide)]
  unfold simF
  rw [if_neg (by decide),if_neg (by decide),if_neg (by decide),if_neg (by decide),if_neg (by decide),exL_one,hg]
  cases hX:exF E L ctx false e (a+1) with
  | bad c b=>rfl
  | ok q =>
    have hl2:=exF_lab h.ok h.lab hX
    dsimp only
    rw [show joinL [q.1] 0=q.1 from jn0 hl2,if_neg (by simp)]
    simp only [flows1 hl hl2]
theorem st_if {k:Int} (hk:k=10∨k=11) (x:ByteArray) (m:Int) (e:Tree) (r:List Tree):stF E p ctx deep false (.node k x m (e :: r)) L a=match exF E L ctx false e (a+1) with
    | .bad c b=>.bad c b
    | .ok q=>blsF E p (jn ctx q.1) (deep+1) r L q.2:=by
  unfold stF
  rw [if_pos hk]
  dsimp only
  cases exF E L ctx false e (a+1) <;> rfl
end
end
end Go.Proofs.YtfopddgjdaoidaaGreatDoor.chk
