/- What the program's localOf answers: a contract. -/
import Derived.Test.YtfopddgjdaoidaaGreatDoorNR12
set_option linter.unusedVariables false
set_option linter.unusedSimpArgs false
set_option maxRecDepth 100000
namespace Go.Proofs.YtfopddgjdaoidaaGreatDoor
namespace chk
open Go.RowKit
open syn face
theorem len_cnt:∀ l:List Tree,(l.length:Int)≤cntL l
 | []=>by simp [cntL]
 | t :: r=>by
  have h1:=cntT_pos t
  have h2:=len_cnt r
  show ((r.length+1:Nat):Int)≤cntT t+cntL r
  omega
theorem exF_bad {E:Env} {L:List Loc} {ctx:Int} {alone:Bool} {k:Int} {x:ByteArray} {m:Int} {ks:List Tree} {a c b:Int} (h:exL E L ctx ks (a+1)=.bad c b):exF E L ctx alone (.node k x m ks) a=.bad c b:=by
 simp only [exF,h]
theorem exF_ok {E:Env} {L:List Loc} {ctx:Int} {alone:Bool} {k:Int} {x:ByteArray} {m:Int} {ks:List Tree} {a a':Int} {ls:List Int} (h:exL E L ctx ks (a+1)=.ok (ls,a')):exF E L ctx alone (.node k x m ks) a=match ownF E L ctx alone k x ls a with
  | .bad c b=>.bad c b
  | .ok l=>.ok (l,a'):=by
 simp only [exF,h]
 rfl
theorem own18 (E:Env) (L:List Loc) (ctx:Int) (alone:Bool) (x:ByteArray) (ls:List Int) (a an:Int):(match ownF E L ctx alone 18 x ls a with
  | .bad c b=>Res.bad c b
  | .ok l=>.ok (l,an))=match procF E x with
  | none=>.bad 4 a
  | some p=>if p.params.length≠ls.length then .bad 6 a else if p.gives=false∧alone=false then .bad 3 a else if argsOk p.params ls=false then .bad 7 a else if p.writes≠1∧ctx≠0 then .bad 7 a else .ok (p.given,an):=by
 unfold ownF
 rw [if_neg (by decide),if_neg (by decide),if_pos rfl]
 cases procF E x with
 | none=>rfl
 | some p =>
  dsimp only
  by_cases h1:p.params.length≠ls.length
  ·rw [if_pos h1,if_pos h1]
  ·rw [if_neg h1,if_neg h1]
   by_cases h2:p.gives=false∧alone=false
   ·rw [if_pos h2,if_pos h2]
   ·rw [if_neg h2,if_neg h2]
    by_cases h3:argsOk p.params ls=false
    ·rw [if_pos h3,if_pos h3]
    ·rw [if_neg h3,if_neg h3]
     by_cases h4:p.writes≠1∧ctx≠0
     ·rw [if_pos h4,if_pos h4]
     ·rw [if_neg h4,if_neg h4]
end chk
namespace chk
open Go.RowKit Go.Shelf
open syn face
def plP (kf:ByteArray→Option FV) (vs:List VarD) (k:Int) (x:ByteArray) (a:Int):Res (List Int × Int)→Res (VarD × Int × Int)
 | .bad c b=>.bad c b
 | .ok q=>match varP kf vs x with
  | none=>.bad 4 a
  | some v=>if decide (0<v.size)=(k==17) then .ok (v,q.1.getLast?.getD 0,q.2) else .bad 3 a
def PL (w0:World) (D Kb kn:Nat) (kf:KF) (vs:List VarD) (u:Value) (w:World) (r:Res (VarD × Int × Int)) (e:Ending) (w':World):Prop:=match r with
 | .bad c b=>e=.panicked (Thrown c b)∧Below w0.heap.size w0 w'
 | .ok q=>e=.returned (.tuple #[varV q.1,.int .i64 q.2.1])∧CS w0 w' D Kb kn kf vs u q.2.2∧Fr D w w'
theorem placeRes {W:World} {v:VarD} {a0 a1 a2 a3 a4 a5 ix:Value} (tl:List Value) (B:Nat) (h:Boxed4 W B v):(results Tryz.f185 (List.toArray (a0 :: a1 :: a2 :: a3 :: a4 :: a5 :: .pointer (some ⟨B,0,none⟩) :: ix :: tl))).run Tryz.prog W=.ok (.tuple #[varV v,ix]) W:=by
 obtain ⟨z0,z1,z2,z3,zf⟩:=h.cells
 unfold varV
 simp [results,Tryz.f185,go_sem,z0,z1,z2,z3]
section
variable {w0:World} {D Kb kn:Nat} {kf:KF} {vs:List VarD} {u:Value}
theorem PL.mkBad {w w':World} {r:Res (VarD × Int × Int)} {c b:Int} (h:r=.bad c b) (hb:Below w0.heap.size w0 w'):PL w0 D Kb kn kf vs u w r (.panicked (Thrown c b)) w':=by rw [h];exact ⟨rfl,hb⟩
theorem PL.mkOk {w w':World} {r:Res (VarD × Int × Int)} {v:VarD} {i a:Int} {e:Ending} (h:r=.ok (v,i,a)) (he:e=.returned (.tuple #[varV v,.int .i64 i])) (hc:CS w0 w' D Kb kn kf vs u a) (hf:Fr D w w'):PL w0 D Kb kn kf vs u w r e w':=by rw [h];exact ⟨he,hc,hf⟩
set_option maxHeartbeats 2000000 in
theorem oPlace (E:Env) (L:List Loc) (hvs:vs.length≤1000) (k:Int) (x:ByteArray) (m:Int) (ks:List Tree) (v:Value) (w:World) (ctx at_:Int) (hkids:∀ t∈ks,ExT t) (hx:LongN x) (hv:Lies (·<w0.heap.size) w0 (.node k x m ks) v) (h:CS w0 w D Kb kn kf vs u at_) (h0:0≤at_) (hm:at_+1+cntL ks≤1000000)
  (ih:∀ j (hj:j<ks.length) (v:Value) (w:World) (at_:Int),ExT ks[j]→Lies (·<w0.heap.size) w0 ks[j] v→CS w0 w D Kb kn kf vs u at_→0≤at_→at_+cntT ks[j]≤1000000 →
    Calls Tryz.prog 159 #[.pointer (some ⟨D,0,none⟩),v,.int .i64 ctx] w fun e w'=>EX w0 D Kb kn kf vs u w (exF E L ctx false ks[j] at_) e w') :
  Calls Tryz.prog 185 #[.pointer (some ⟨D,0,none⟩),v,.int .i64 ctx] w fun e w'=>PL w0 D Kb kn kf vs u w (plP kf vs k x at_ (exL E L ctx ks (at_+1))) e w':=by
 have c24:=kc25
 have c4:Tryz.prog.cellsOf 76=4:=cell4
 unfold Lies at hv
 obtain ⟨a,c,rfl,hl,hk⟩:=hv
 have hcp:=cntL_pos ks
 have hd:=h.lt
 have hlen:=len_cnt ks
 obtain ⟨R,hR⟩:∃ R,exL E L ctx ks (at_+1)=R:=⟨_,rfl⟩
 rw [hR]
 have HR:Hid (exL E L ctx ks (at_+1)=R):=hR
 clear hR
 obtain ⟨Z,HZ⟩:∃ Z,Hid (plP kf vs k x at_ R=Z):=⟨_,rfl⟩
 rw [HZ.out]
 have hI0:=(h.alloc (.cells #[.int .i64 k,.string x,.int .i64 m,.slice a ks.length c] 25)).alloc (.cells #[.string ⟨#[]⟩,.bool false,.int .i64 0,.int .i64 0] 76)
 have hBg:=hI0.begin h0 (by omega)
 have hw0:=h.fm
 have hKb:=h.mp.lt
 have hub:∀ b,u.ownBlock=some b→b<w.heap.size:=fun b e=>(h.rl.lt _ e).2
 clear h
 go_enter Tryz.func185,Tryz.ntmps185
 go_wp2_with (go_at_call 81;refine hBg.mono ?_;rintro e w1 ⟨rfl,hw1⟩;have hI1:CS w0 w1 D Kb kn kf vs u (at_+1):=by { rw [hw1];exact hI0.setAt _ };have hQ1:Q4 w.heap.size (.int .i64 k) (.string x) (.int .i64 m) (.slice a ks.length c) w1:=by { rw [hw1];exact Q4.other (by omega) ⟨by simp,by simp,by simp,by simp⟩ _ _ };have hF1:Fr D w w1:=by { rw [hw1];exact (((Fr.refl _ _).alloc _).alloc _).set _ _ };have hZ1:Boxed4 w1 (w.heap.size+1) zeroVar:=by { rw [hw1];have:=Boxed4.new (w.alloc (.cells #[.int .i64 k,.string x,.int .i64 m,.slice a ks.length c] 25)) zeroVar;rw [World.size_alloc] at this;exact (Below.heap_setCell _ ⟨D,7,none⟩ _ _ (by show w.heap.size+1≠D;omega)).trans this };clear hw1;obtain ⟨q0,q1,q2,q3⟩:=id hQ1)
 clear hI0 hBg q0 q1 q2 q3
 go_loopw [7,16] (fun ix t wr=>∃ (j:Nat) (ls:List Int),j≤ks.length∧t=.int .i64 j∧ix=.int .i64 (ls.getLast?.getD 0)∧Fr D w wr∧w.heap.size+1+1≤wr.heap.size∧Q4 w.heap.size (.int .i64 k) (.string x) (.int .i64 m) (.slice a ks.length c) wr∧Boxed4 wr (w.heap.size+1) zeroVar∧CS w0 wr D Kb kn kf vs u (at_+1+cntL (ks.take j))∧Hid (R=preR ls (exL E L ctx (ks.drop j) (at_+1+cntL (ks.take j))))) (fun _ t _=>ks.length - (intOf t).toNat)
 case atStart =>
  have hz:=hZ1.lt
  refine ⟨0,[],Nat.zero_le _,rfl,rfl,hF1,by omega,hQ1,hZ1,by simpa [cntL] using hI1,?_⟩
  show _=_
  rw [← HR.out,List.drop_zero]
  simp only [List.take_zero,cntL,Int.add_zero]
  cases exL E L ctx ks (at_+1) with
  | bad c b=>rfl
  | ok q=>rfl
 case round =>
  clear hI1 hQ1 hF1 hZ1
  obtain ⟨j,ls,hj,rfl,rfl,hFr,hsz,hQ,hZb,hI,HRR⟩:=hrel
  obtain ⟨q0,q1,q2,q3⟩:=id hQ
  by_cases hlt:j<ks.length
  ·obtain ⟨g,o,rfl,hg,hat⟩:=hk (by intro e;rw [e] at hlt;simp at hlt)
   obtain ⟨v1,⟨x0,x1,x2,x3,rfl,c0,c1',c2,c3⟩,hlk⟩:=hat.get j hlt
   obtain ⟨kk,xx,mm,_,he,aa,na,ca,rfl⟩:=hlk.shape
   injection he with he
   simp only [Array.mk.injEq,List.cons.injEq,and_true] at he
   obtain ⟨rfl,rfl,rfl,rfl⟩:=he
   have k0:=(hI.bs.cell (p:=⟨g,o+j*4,none⟩) hg).trans c0
   have k1:=(hI.bs.cell (p:=⟨g,o+j*4+1,none⟩) hg).trans c1'
   have k2:=(hI.bs.cell (p:=⟨g,o+j*4+2,none⟩) hg).trans c2
   have k3:=(hI.bs.cell (p:=⟨g,o+j*4+3,none⟩) hg).trans c3
   have hs1:=cntL_take ks j hlt
   have hs2:=cntL_take_le ks (j+1)
   have hs3:=cntT_pos ks[j]
   have hs4:=cntL_pos (ks.take j)
   have hI1:=hI.alloc (.cells #[.int .i64 kk,.string xx,.int .i64 mm,.slice aa na ca] 25)
   have hFr1:=hFr.alloc (.cells #[.int .i64 kk,.string xx,.int .i64 mm,.slice aa na ca] 25)
   have hQ1:=Q4.alloc hQ (.cells #[.int .i64 kk,.string xx,.int .i64 mm,.slice aa na ca] 25)
   have hZ1:=hZb.alloc (.cells #[.int .i64 kk,.string xx,.int .i64 mm,.slice aa na ca] 25)
   have hC:=ih j hlt _ _ _ (hkids _ (List.getElem_mem hlt)) hlk hI1 (by omega) (by omega)
   have HP:Hid (R=match exF E L ctx false ks[j] (at_+1+cntL (ks.take j)) with
     | .bad c b=>.bad c b
     | .ok q=>preR (ls++[q.1]) (exL E L ctx (ks.drop (j+1)) q.2)):=HRR.out.trans (preR_step E L ctx ks j hlt ls _)
   have HA:Hid (∀ q,exF E L ctx false ks[j] (at_+1+cntL (ks.take j))=.ok q→q.2=at_+1+cntL (ks.take (j+1))):=fun q hq=>by
    have:=exF_at E L ctx _ _ _ _ hq
    omega
   clear c0 c1' c2 c3 hat hlk hk HRR hs1 hs2 hs3 hs4 ih
   generalize hXX:exF E L ctx false ks[j] (at_+1+cntL (ks.take j))=X at *
   have HA2:Hid (∀ q,X=.ok q→q.2=at_+1+cntL (ks.take (j+1))):=fun q hq=>HA.out q hq
   clear hXX HA
   cases X with
   | bad cc bb =>
    have HRB:Hid (Z=.bad cc bb):=by
     show _=_
     rw [← HZ.out,HP.out]
     rfl
    go_wp2_with (go_at_call 159;refine hC.mono ?_;rintro e w2 ⟨rfl,hb2⟩)
    exact ⟨rfl,PL.mkBad HRB.out hb2⟩
   | ok q =>
    have HRO:Hid (R=preR (ls++[q.1]) (exL E L ctx (ks.drop (j+1)) q.2)):=HP.out
    have HA3:=HA2.out q rfl
    obtain ⟨l1,a1⟩:=q
    dsimp only at HA3 hC
    subst HA3
    go_wp2_with (go_at_call 159;refine hC.mono ?_;rintro e w2 ⟨rfl,hI2,hf2⟩)
    have hs9:=hf2.size
    refine ⟨⟨j+1,ls++[l1],by omega,by simp,by simp,hFr1.trans hf2,by simp at hs9;omega,Q4.grown hQ1 hf2 (by simp;omega),hZ1.kept hf2 (by simp;omega),hI2,HRO.out⟩,by simp [intOf];omega⟩
  ·obtain rfl:j=ks.length:=by omega
   have HX:Hid (R=.ok (ls,at_+1+cntL ks)):=by
    show _=_
    rw [HRR.out,List.drop_eq_nil_of_le (by omega),List.take_of_length_le (by omega)]
    simp [exL,preR]
   rw [List.take_of_length_le (by omega)] at hI
   have hVr:=hI.variable hvs hx at_
   have HY:Hid (Z=match varP kf vs x with
     | none=>.bad 4 at_
     | some v=>if decide (0<v.size)=(k==17) then .ok (v,ls.getLast?.getD 0,at_+1+cntL ks) else .bad 3 at_):=by
    show _=_
    rw [← HZ.out,HX.out]
    rfl
   clear HX HRR ih hk hkids
   generalize at_+1+cntL ks=an at *
   generalize ls.getLast?.getD 0=ix at *
   generalize varP kf vs x=V at *
   cases V with
   | none =>
    have HB:Hid (Z=.bad 4 at_):=HY.out
    go_wp2_with (go_at_call 202;refine hVr.mono ?_;rintro e w2 ⟨hb2,he⟩;obtain rfl:e=.panicked (Thrown 4 at_):=he)
    exact ⟨rfl,PL.mkBad HB.out (hI.bs.trans (hb2.mono hI.bs.size))⟩
   | some v =>
    by_cases h17:k=17
    ·by_cases hvz:0<v.size
     ·skip
      have hdz:decide (0<v.size)=true:=by simp [hvz]
      have HB:Hid (Z=.ok (v,ix,an)):=by
       show _=_
       rw [HY.out]
       simp [h17,hdz]
      go_wp2_with first
       | (go_at_call 202;refine hVr.mono ?_;rintro e w2 ⟨hb2,he⟩;obtain rfl:e=.returned (varV v):=he;unfold varV;obtain ⟨q0,q1,q2,q3⟩:=id (Q4.below hQ hb2);obtain ⟨z0,z1,z2,z3,zf⟩:=(hZb.below hb2 hZb.lt).cells;have zf0:=zf 0;have zf1:=zf 1;have zf2:=zf 2;have zf3:=zf 3;clear zf;have hI2:=(hI.below hb2).put4 (b:=w.heap.size+1) (by omega) (by omega) (fun e=>by have:=hub _ e;omega) (by omega) (.string v.name) (.bool v.pub) (.int .i64 v.label) (.int .i64 v.size);have hF2:=fr_put4 (b:=w.heap.size+1) (hFr.trans (Fr.below hb2)) (by omega) (.string v.name) (.bool v.pub) (.int .i64 v.label) (.int .i64 v.size))
       | (go_at_call 131;refine (oRefuseC 3 at_ _).mono ?_;rintro e w3 ⟨rfl,hw3⟩;rw [hw3])
      refine bodyPost_ret (v:=.tuple #[varV v,.int .i64 ix]) (placeRes _ _ (((hZb.below hb2 hZb.lt).put v).put v)) rfl ?_
      exact PL.mkOk HB.out rfl (hI2.put4 (b:=w.heap.size+1) (by omega) (by omega) (fun e=>by have:=hub _ e;omega) (by omega) _ _ _ _) (fr_put4 hF2 (by omega) _ _ _ _)
     ·skip
      have hdz:decide (0<v.size)=false:=by simp [hvz]
      have HB:Hid (Z=.bad 3 at_):=by
       show _=_
       rw [HY.out]
       simp [h17,hdz]
      go_wp2_with first
       | (go_at_call 202;refine hVr.mono ?_;rintro e w2 ⟨hb2,he⟩;obtain rfl:e=.returned (varV v):=he;unfold varV;obtain ⟨q0,q1,q2,q3⟩:=id (Q4.below hQ hb2);obtain ⟨z0,z1,z2,z3,zf⟩:=(hZb.below hb2 hZb.lt).cells;have zf0:=zf 0;have zf1:=zf 1;have zf2:=zf 2;have zf3:=zf 3;clear zf;have hI2:=(hI.below hb2).put4 (b:=w.heap.size+1) (by omega) (by omega) (fun e=>by have:=hub _ e;omega) (by omega) (.string v.name) (.bool v.pub) (.int .i64 v.label) (.int .i64 v.size);have hF2:=fr_put4 (b:=w.heap.size+1) (hFr.trans (Fr.below hb2)) (by omega) (.string v.name) (.bool v.pub) (.int .i64 v.label) (.int .i64 v.size))
       | (go_at_call 131;refine (oRefuseC 3 at_ _).mono ?_;rintro e w3 ⟨rfl,hw3⟩;rw [hw3])
      exact ⟨rfl,PL.mkBad HB.out hI2.bs⟩
    ·by_cases hvz:0<v.size
     ·skip
      have hdz:decide (0<v.size)=true:=by simp [hvz]
      have h17b:(k==17)=false:=by simp [h17]
      have h17c:decide (k=17)=false:=by simp [h17]
      have HB:Hid (Z=.bad 3 at_):=by
       show _=_
       rw [HY.out]
       simp [h17,hdz]
      go_wp2_with first
       | (go_at_call 202;refine hVr.mono ?_;rintro e w2 ⟨hb2,he⟩;obtain rfl:e=.returned (varV v):=he;unfold varV;obtain ⟨q0,q1,q2,q3⟩:=id (Q4.below hQ hb2);obtain ⟨z0,z1,z2,z3,zf⟩:=(hZb.below hb2 hZb.lt).cells;have zf0:=zf 0;have zf1:=zf 1;have zf2:=zf 2;have zf3:=zf 3;clear zf;have hI2:=(hI.below hb2).put4 (b:=w.heap.size+1) (by omega) (by omega) (fun e=>by have:=hub _ e;omega) (by omega) (.string v.name) (.bool v.pub) (.int .i64 v.label) (.int .i64 v.size);have hF2:=fr_put4 (b:=w.heap.size+1) (hFr.trans (Fr.below hb2)) (by omega) (.string v.name) (.bool v.pub) (.int .i64 v.label) (.int .i64 v.size))
       | (go_at_call 131;refine (oRefuseC 3 at_ _).mono ?_;rintro e w3 ⟨rfl,hw3⟩;rw [hw3])
      exact ⟨rfl,PL.mkBad HB.out hI2.bs⟩
     ·skip
      have hdz:decide (0<v.size)=false:=by simp [hvz]
      have h17b:(k==17)=false:=by simp [h17]
      have h17c:decide (k=17)=false:=by simp [h17]
      have HB:Hid (Z=.ok (v,ix,an)):=by
       show _=_
       rw [HY.out]
       simp [h17,hdz]
      go_wp2_with first
       | (go_at_call 202;refine hVr.mono ?_;rintro e w2 ⟨hb2,he⟩;obtain rfl:e=.returned (varV v):=he;unfold varV;obtain ⟨q0,q1,q2,q3⟩:=id (Q4.below hQ hb2);obtain ⟨z0,z1,z2,z3,zf⟩:=(hZb.below hb2 hZb.lt).cells;have zf0:=zf 0;have zf1:=zf 1;have zf2:=zf 2;have zf3:=zf 3;clear zf;have hI2:=(hI.below hb2).put4 (b:=w.heap.size+1) (by omega) (by omega) (fun e=>by have:=hub _ e;omega) (by omega) (.string v.name) (.bool v.pub) (.int .i64 v.label) (.int .i64 v.size);have hF2:=fr_put4 (b:=w.heap.size+1) (hFr.trans (Fr.below hb2)) (by omega) (.string v.name) (.bool v.pub) (.int .i64 v.label) (.int .i64 v.size))
       | (go_at_call 131;refine (oRefuseC 3 at_ _).mono ?_;rintro e w3 ⟨rfl,hw3⟩;rw [hw3])
      refine bodyPost_ret (v:=.tuple #[varV v,.int .i64 ix]) (placeRes _ _ (((hZb.below hb2 hZb.lt).put v).put v)) rfl ?_
      exact PL.mkOk HB.out rfl (hI2.put4 (b:=w.heap.size+1) (by omega) (by omega) (fun e=>by have:=hub _ e;omega) (by omega) _ _ _ _) (fr_put4 hF2 (by omega) _ _ _ _)
end
def argsP:List Int→List Int→Bool
 | p :: r,l :: s=>flows p [l]&&argsP r s
 | _,_=>true
theorem ints_own {w:World} {B:Nat} {y:Value} {ls:List Int} (hl:ls.length≤1000000) (h:w.ownsRow B 3 1 y ls.length (intV ls)):IntsIn w y ls:=by
 obtain ⟨a,cap,rfl,_,hg⟩:=lexs.own_shape h
 refine ⟨a,cap,rfl,by omega,fun hne=>?_⟩
 have hp:0<ls.length:=List.length_pos_iff.2 hne
 obtain ⟨g,rfl⟩:=hg hp
 refine ⟨g,0,rfl,fun i hi=>?_⟩
 rw [Nat.zero_add]
 refine (h.cellAt i (by omega)).trans ?_
 unfold intV
 rw [List.getElem?_map,List.getElem?_eq_getElem hi]
 rfl
theorem ints_one (w:World) (l:Int):IntsIn (w.alloc (.cells #[.int .i64 l] 3)) (.slice (some ⟨w.heap.size,0,none⟩) 1 1) [l] :=
 ⟨_,_,rfl,by simp,fun _=>⟨_,_,rfl,fun i hi=>by obtain rfl:i=0:=by { simp at hi;exact hi };simp⟩⟩
theorem argsP_step {ps ls:List Int} {j:Nat} (h1:j<ps.length) (h2:j<ls.length):argsP (ps.drop j) (ls.drop j)=(flows ps[j] [ls[j]]&&argsP (ps.drop (j+1)) (ls.drop (j+1))):=by
 rw [List.drop_eq_getElem_cons h1,List.drop_eq_getElem_cons h2]
 rfl
def clP (kf:ByteArray→Option FV) (ctx:Int) (alone:Bool) (x:ByteArray) (a:Int):Res (List Int × Int)→Res (ProcD × Int)
 | .bad c b=>.bad c b
 | .ok q=>match procP kf x with
  | none=>.bad 4 a
  | some p=>if q.1.length≠p.params.length then .bad 6 a else if (!p.gives&&!alone)=true then .bad 3 a else if argsP p.params q.1=false then .bad 7 a else if flows p.writes [ctx]=false then .bad 7 a else .ok (p,q.2)
def CL (w0:World) (D Kb kn:Nat) (kf:KF) (vs:List VarD) (u:Value) (w:World) (r:Res (ProcD × Int)) (e:Ending) (w':World):Prop:=match r with
 | .bad c b=>e=.panicked (Thrown c b)∧Below w0.heap.size w0 w'
 | .ok q=>(∃ z,e=.returned (procV q.1 z))∧CS w0 w' D Kb kn kf vs u q.2∧Fr D w w'
section
variable {w0:World} {D Kb kn:Nat} {kf:KF} {vs:List VarD} {u:Value}
theorem CL.mkBad {w w':World} {r:Res (ProcD × Int)} {c b:Int} (h:r=.bad c b) (hb:Below w0.heap.size w0 w'):CL w0 D Kb kn kf vs u w r (.panicked (Thrown c b)) w':=by rw [h];exact ⟨rfl,hb⟩
theorem CL.mkOk {w w':World} {r:Res (ProcD × Int)} {p:ProcD} {z:Value} {a:Int} {e:Ending} (h:r=.ok (p,a)) (he:e=.returned (procV p z)) (hc:CS w0 w' D Kb kn kf vs u a) (hf:Fr D w w'):CL w0 D Kb kn kf vs u w r e w':=by rw [h];exact ⟨⟨z,he⟩,hc,hf⟩
set_option maxHeartbeats 2000000 in
theorem oCall (E:Env) (L:List Loc) (k:Int) (x:ByteArray) (m:Int) (ks:List Tree) (v:Value) (w:World) (ctx at_:Int) (alone:Bool) (hkids:∀ t∈ks,ExT t) (hx:LongN x) (hv:Lies (·<w0.heap.size) w0 (.node k x m ks) v) (h:CS w0 w D Kb kn kf vs u at_) (h0:0≤at_) (hm:at_+1+cntL ks≤1000000)
  (ih:∀ j (hj:j<ks.length) (v:Value) (w:World) (at_:Int),ExT ks[j]→Lies (·<w0.heap.size) w0 ks[j] v→CS w0 w D Kb kn kf vs u at_→0≤at_→at_+cntT ks[j]≤1000000 →
    Calls Tryz.prog 159 #[.pointer (some ⟨D,0,none⟩),v,.int .i64 ctx] w fun e w'=>EX w0 D Kb kn kf vs u w (exF E L ctx false ks[j] at_) e w') :
  Calls Tryz.prog 186 #[.pointer (some ⟨D,0,none⟩),v,.int .i64 ctx,.bool alone] w fun e w'=>CL w0 D Kb kn kf vs u w (clP kf ctx alone x at_ (exL E L ctx ks (at_+1))) e w':=by
 have c24:=kc25
 have c6:Tryz.prog.cellsOf 80=6:=cell6
 have c1:Tryz.prog.cellsOf 3=1:=cell1i
 obtain ⟨i0,hi,hz0,hz1,hz2⟩:=info_parts infoI
 unfold Lies at hv
 obtain ⟨a,c,rfl,hl,hk⟩:=hv
 have hcp:=cntL_pos ks
 have hd:=h.lt
 have hlen:=len_cnt ks
 obtain ⟨R,hR⟩:∃ R,exL E L ctx ks (at_+1)=R:=⟨_,rfl⟩
 rw [hR]
 have HR:Hid (exL E L ctx ks (at_+1)=R):=hR
 clear hR
 obtain ⟨Z,HZ⟩:∃ Z,Hid (clP kf ctx alone x at_ R=Z):=⟨_,rfl⟩
 rw [HZ.out]
 have hI0:=(h.alloc (.cells #[.int .i64 k,.string x,.int .i64 m,.slice a ks.length c] 25)).alloc (.cells #[.string ⟨#[]⟩,.bool false,.slice none 0 0,.int .i64 0,.bool false,.int .i64 0] 80)
 have hBg:=hI0.begin h0 (by omega)
 have hw0:=h.fm
 have hKb:=h.mp.lt
 have hub:∀ b,u.ownBlock=some b→b<w.heap.size:=fun b e=>(h.rl.lt _ e).2
 clear h
 go_enter Tryz.func186,Tryz.ntmps186
 go_wp2_with (go_at_call 81;refine hBg.mono ?_;rintro e w1 ⟨rfl,hw1⟩;have hI1:CS w0 w1 D Kb kn kf vs u (at_+1):=by { rw [hw1];exact hI0.setAt _ };have hQ1:Q4 w.heap.size (.int .i64 k) (.string x) (.int .i64 m) (.slice a ks.length c) w1:=by { rw [hw1];exact Q4.other (by omega) ⟨by simp,by simp,by simp,by simp⟩ _ _ };have hF1:Fr D w w1:=by { rw [hw1];exact (((Fr.refl _ _).alloc _).alloc _).set _ _ };have hZ1:Box6 w1 (w.heap.size+1) (.string ⟨#[]⟩) (.bool false) (.slice none 0 0) (.int .i64 0) (.bool false) (.int .i64 0):=by { rw [hw1];have:=Box6.new (w.alloc (.cells #[.int .i64 k,.string x,.int .i64 m,.slice a ks.length c] 25)) (.string ⟨#[]⟩) (.bool false) (.slice none 0 0) (.int .i64 0) (.bool false) (.int .i64 0) 80;rw [World.size_alloc] at this;exact this.other (by omega) _ };clear hw1;obtain ⟨q0,q1,q2,q3⟩:=id hQ1)
 clear hI0 hBg q0 q1 q2 q3
 go_loopw [10,21] (fun y t wr=>∃ (j:Nat) (ls:List Int),j≤ks.length∧t=.int .i64 j∧ls.length=j∧wr.ownsRow (w.heap.size+1+1) 3 1 y ls.length (intV ls)∧Fr D w wr∧w.heap.size+1+1≤wr.heap.size∧Q4 w.heap.size (.int .i64 k) (.string x) (.int .i64 m) (.slice a ks.length c) wr∧Box6 wr (w.heap.size+1) (.string ⟨#[]⟩) (.bool false) (.slice none 0 0) (.int .i64 0) (.bool false) (.int .i64 0)∧CS w0 wr D Kb kn kf vs u (at_+1+cntL (ks.take j))∧Hid (R=preR ls (exL E L ctx (ks.drop j) (at_+1+cntL (ks.take j))))) (fun _ t _=>ks.length - (intOf t).toNat)
 case atStart =>
  have hz:=hZ1.lt
  refine ⟨0,[],Nat.zero_le _,rfl,rfl,World.ownsRow_nil _ _ _ _,hF1,by omega,hQ1,hZ1,by simpa [cntL] using hI1,?_⟩
  show _=_
  rw [← HR.out,List.drop_zero]
  simp only [List.take_zero,cntL,Int.add_zero]
  cases exL E L ctx ks (at_+1) with
  | bad c b=>rfl
  | ok q=>rfl
 case round =>
  clear hI1 hQ1 hF1 hZ1
  obtain ⟨j,ls,hj,rfl,hlsj,hown,hFr,hsz,hQ,hZb,hI,HRR⟩:=hrel
  obtain ⟨q0,q1,q2,q3⟩:=id hQ
  have HLS:Hid (ls.length=j):=hlsj
  clear hlsj
  by_cases hlt:j<ks.length
  ·obtain ⟨g,o,rfl,hg,hat⟩:=hk (by intro e;rw [e] at hlt;simp at hlt)
   obtain ⟨v1,⟨x0,x1,x2,x3,rfl,c0,c1',c2,c3⟩,hlk⟩:=hat.get j hlt
   obtain ⟨kk,xx,mm,_,he,aa,na,ca,rfl⟩:=hlk.shape
   injection he with he
   simp only [Array.mk.injEq,List.cons.injEq,and_true] at he
   obtain ⟨rfl,rfl,rfl,rfl⟩:=he
   have k0:=(hI.bs.cell (p:=⟨g,o+j*4,none⟩) hg).trans c0
   have k1:=(hI.bs.cell (p:=⟨g,o+j*4+1,none⟩) hg).trans c1'
   have k2:=(hI.bs.cell (p:=⟨g,o+j*4+2,none⟩) hg).trans c2
   have k3:=(hI.bs.cell (p:=⟨g,o+j*4+3,none⟩) hg).trans c3
   have hs1:=cntL_take ks j hlt
   have hs2:=cntL_take_le ks (j+1)
   have hs3:=cntT_pos ks[j]
   have hs4:=cntL_pos (ks.take j)
   have hI1:=hI.alloc (.cells #[.int .i64 kk,.string xx,.int .i64 mm,.slice aa na ca] 25)
   have hFr1:=hFr.alloc (.cells #[.int .i64 kk,.string xx,.int .i64 mm,.slice aa na ca] 25)
   have hQ1:=Q4.alloc hQ (.cells #[.int .i64 kk,.string xx,.int .i64 mm,.slice aa na ca] 25)
   have hZ1:=hZb.alloc (.cells #[.int .i64 kk,.string xx,.int .i64 mm,.slice aa na ca] 25)
   have hC:=ih j hlt _ _ _ (hkids _ (List.getElem_mem hlt)) hlk hI1 (by omega) (by omega)
   have HP:Hid (R=match exF E L ctx false ks[j] (at_+1+cntL (ks.take j)) with
     | .bad c b=>.bad c b
     | .ok q=>preR (ls++[q.1]) (exL E L ctx (ks.drop (j+1)) q.2)):=HRR.out.trans (preR_step E L ctx ks j hlt ls _)
   have HA:Hid (∀ q,exF E L ctx false ks[j] (at_+1+cntL (ks.take j))=.ok q→q.2=at_+1+cntL (ks.take (j+1))):=fun q hq=>by
    have:=exF_at E L ctx _ _ _ _ hq
    omega
   have hls1000:ls.length≤1000000:=by have:=HLS.out;omega
   have hls2:=HLS.out
   obtain ⟨ua,uc,rfl,_,_⟩:=lexs.own_shape hown
   rw [hls2] at hown ⊢
   clear hls2
   clear c0 c1' c2 c3 hat hlk hk HRR hs1 hs2 hs3 hs4 ih
   generalize hXX:exF E L ctx false ks[j] (at_+1+cntL (ks.take j))=X at *
   have HA2:Hid (∀ q,X=.ok q→q.2=at_+1+cntL (ks.take (j+1))):=fun q hq=>HA.out q hq
   clear hXX HA
   cases X with
   | bad cc bb =>
    have HRB:Hid (Z=.bad cc bb):=by
     show _=_
     rw [← HZ.out,HP.out]
     rfl
    go_wp2_with (go_at_call 159;refine hC.mono ?_;rintro e w2 ⟨rfl,hb2⟩)
    exact ⟨rfl,CL.mkBad HRB.out hb2⟩
   | ok q =>
    have HRO:Hid (R=preR (ls++[q.1]) (exL E L ctx (ks.drop (j+1)) q.2)):=HP.out
    have HA3:=HA2.out q rfl
    obtain ⟨l1,a1⟩:=q
    dsimp only at HA3 hC
    subst HA3
    have hown0:=hown.alloc (.cells #[.int .i64 kk,.string xx,.int .i64 mm,.slice aa na ca] 25)
    have hneD:some D≠(Value.slice ua j uc).ownBlock:=fun e=>by have:=(hown.lt _ e.symm).1;omega
    have hneD2:(Value.slice ua j uc).ownBlock=none∨(Value.slice ua j uc).ownBlock≠some D:=by
     cases e:(Value.slice ua j uc).ownBlock with
     | none=>exact .inl rfl
     | some b=>exact .inr (fun e2=>hneD (by rw [e,e2]))
    go_wp2_with first
     | (go_at_call 159;refine hC.mono ?_;rintro e w2 ⟨rfl,hI2,hf2⟩;have hown1:=hown0.kept hf2 hneD2;have hs9:=hf2.size;rw [World.size_alloc] at hs9)
     | (at_builtin;refine wpList_append_own _ rfl (.tmp 25) (.tmp 30) 51 rfl (w.heap.size+1+1) 3 i0 (.int .i64 0) 1 8 Tryz.underlying51 hi hz0 hz1 hz2 rfl (by decide) _ _ _ rfl (hown1.alloc _) ⟨w2.heap.size,0,none⟩ 1 1 [.int .i64 l1] rfl rfl (cell_one _ _ _ (by simp)) (one_int _) (by unfold maxLen;omega) (by omega) (by simp;omega) ?_;intro v5 w5 hown5 hgrow5 hnil5)
     | go_in
    have hlo:∀ b,(Value.slice ua j uc).ownBlock=some b→w.heap.size+1+1≤b:=fun b e=>(hown1.lt _ e).1
    have hs5:=hgrow5.size
    simp only [World.size_alloc] at hs5
    refine ⟨⟨j+1,ls++[l1],by omega,by simp,by simp [HLS.out],?_,?_,by omega,?_,?_,?_,HRO.out⟩,by simp [intOf];omega⟩
    ·rw [List.length_append,intV_snoc,HLS.out];exact hown5
    ·exact World.grownBy.andThen ((hFr1.trans hf2).alloc _) hgrow5 (fun b e=>.inl (by have:=hlo b e;omega))
    ·exact Q4.grown (Q4.alloc (Q4.grown hQ1 hf2 (by simp;omega)) _) hgrow5 (fun e=>by have:=hlo _ e;omega)
    ·exact ((hZ1.grown hf2 (by simp;omega)).alloc _).grown hgrow5 (fun e=>by have:=hlo _ e;omega)
    ·exact (hI2.alloc _).grown hgrow5 (fun b e=>by have:=hlo b e;exact ⟨by omega,by omega,fun e2=>by have:=hub b e2;omega,by omega⟩)
  ·obtain rfl:j=ks.length:=by omega
   have HX:Hid (R=.ok (ls,at_+1+cntL ks)):=by
    show _=_
    rw [HRR.out,List.drop_eq_nil_of_le (by omega),List.take_of_length_le (by omega)]
    simp [exL,preR]
   rw [List.take_of_length_le (by omega)] at hI
   have hPr:=hI.procedure hx at_
   have HY:Hid (Z=match procP kf x with
     | none=>.bad 4 at_
     | some p=>if ls.length≠p.params.length then .bad 6 at_ else if (!p.gives&&!alone)=true then .bad 3 at_ else if argsP p.params ls=false then .bad 7 at_ else if flows p.writes [ctx]=false then .bad 7 at_ else .ok (p,at_+1+cntL ks)):=by
    show _=_
    rw [← HZ.out,HX.out]
    rfl
   have hl9:ls.length≤1000000:=by have:=HLS.out;omega
   clear HX HRR ih hk hkids
   generalize at_+1+cntL ks=an at *
   generalize procP kf x=V at *
   cases V with
   | none =>
    have HB:Hid (Z=.bad 4 at_):=HY.out
    go_wp2_with (go_at_call 203;refine hPr.mono ?_;rintro e w2 ⟨hb2,he⟩;obtain rfl:e=.panicked (Thrown 4 at_):=he)
    exact ⟨rfl,CL.mkBad HB.out (hI.bs.trans (hb2.mono hI.bs.size))⟩
   | some p =>
    have hyi:=ints_own hl9 hown
    obtain ⟨ua,uc,rfl,_,_⟩:=lexs.own_shape hown
    obtain ⟨pn,pb,ps,pw,pg,pv⟩:=p
    dsimp only at HY
    by_cases hne:ls.length=ps.length
    ·cases pg with
     | true =>
      skip
      go_wp2_with first
       | (go_at_call 203;refine hPr.mono ?_;rintro e w2 ⟨hb2,z,rfl,hz⟩;obtain ⟨za,zc,rfl,hzl,hzk⟩:=id hz;unfold procV;have hI2:=(hI.below hb2).alloc (.cells #[.string pn,.bool pb,.slice za ps.length zc,.int .i64 pw,.bool true,.int .i64 pv] 80))
       | fail
      have hb6:=Box6.new w2 (.string pn) (.bool pb) (.slice za ps.length zc) (.int .i64 pw) (.bool true) (.int .i64 pv) 80
      have hBx:Below w2.heap.size w2 (w2.alloc (.cells #[.string pn,.bool pb,.slice za ps.length zc,.int .i64 pw,.bool true,.int .i64 pv] 80)):=bal _
      have hyi3:=(hyi.below hb2).below hBx
      have hzi3:=hz.below hBx
      have hF3:Fr D w (w2.alloc (.cells #[.string pn,.bool pb,.slice za ps.length zc,.int .i64 pw,.bool true,.int .i64 pv] 80)):=(hFr.trans (Fr.below hb2)).alloc _
      have hZ3:=(hZb.below hb2).alloc (.cells #[.string pn,.bool pb,.slice za ps.length zc,.int .i64 pw,.bool true,.int .i64 pv] 80)
      have hN1:w.heap.size+1+1≤w2.heap.size:=Nat.le_trans hsz hb2.size
      clear hBx hb2 hz hzk hyi hFr hZb hown hPr hQ q0 q1 q2 q3 hI
      generalize w2.alloc (.cells #[.string pn,.bool pb,.slice za ps.length zc,.int .i64 pw,.bool true,.int .i64 pv] 80)=W3 at *
      generalize w2.heap.size=N at *
      go_loopw [57] (fun t wr'=>∃ j:Nat,j≤ps.length∧t=.int .i64 j∧Hid (argsP ps ls=argsP (ps.drop j) (ls.drop j))∧Below W3.heap.size W3 wr') (fun t _=>ps.length - (intOf t).toNat)
      case atStart=>exact ⟨0,Nat.zero_le _,rfl,rfl,Below.refl _ _⟩
      case round =>
       obtain ⟨j,hj,rfl,HA,hbr⟩:=hrel
       have hbr2:Hid (Below W3.heap.size W3 wr):=hbr
       have hI4:=hI2.below hbr
       obtain ⟨y0,y1,y2,y3,y4,y5,_,_,_,_,_,_⟩:=hb6.below hbr
       by_cases hlt:j<ps.length
       ·obtain ⟨_,_,ee,_,hyk⟩:=hyi3.below hbr
        injection ee with ee _ ee2
        obtain rfl:=ee
        obtain rfl:=ee2
        obtain ⟨_,_,ee3,_,hzk⟩:=hzi3.below hbr
        injection ee3 with ee3 _ ee4
        obtain rfl:=ee3
        obtain rfl:=ee4
        have hlt2:j<ls.length:=by rw [hne];exact hlt
        obtain ⟨g1,o1,rfl,hc1⟩:=hyk (by intro e;rw [e] at hlt2;simp at hlt2)
        obtain ⟨g2,o2,rfl,hc2⟩:=hzk (by intro e;rw [e] at hlt;simp at hlt)
        have k1:=hc1 j hlt2
        have k2:=hc2 j hlt
        have hfl:=oFlow at_ ps[j] [ls[j]] (.slice (some ⟨wr.heap.size,0,none⟩) 1 1) (wr.alloc (.cells #[.int .i64 ls[j]] 3)) (ints_one _ _)
        have HS:Hid (argsP ps ls=(flows ps[j] [ls[j]]&&argsP (ps.drop (j+1)) (ls.drop (j+1)))):=HA.out.trans (argsP_step hlt hlt2)
        clear hc1 hc2 hyk hzk HA
        generalize ps[j]=pj at *
        generalize ls[j]=lj at *
        cases hf:flows pj [lj]
        ·have HB:Hid (Z=.bad 7 at_):=by
          show _=_
          rw [HY.out]
          have h9:=HS.out
          rw [hf,Bool.false_and] at h9
          simp [hne,h9]
         have hfl2:=hfl.mono (R':=fun e w'=>e=.panicked (Thrown 7 at_)∧w'=wr.alloc (.cells #[.int .i64 lj] 3)) (fun e w' h=>by
          rcases h with ⟨h1,_⟩|⟨_,h2⟩
          ·rw [hf] at h1;cases h1
          ·exact h2)
         clear hfl
         go_wp2_with (go_at_call 158;refine hfl2.mono ?_;rintro e w4 ⟨rfl,hw4⟩;rw [hw4])
         exact ⟨rfl,CL.mkBad HB.out (hI4.alloc _).bs⟩
        ·have HA2:Hid (argsP ps ls=argsP (ps.drop (j+1)) (ls.drop (j+1))):=by
          show _=_
          rw [HS.out,hf,Bool.true_and]
         have hfl2:=hfl.mono (R':=fun e w'=>e=.returned (.tuple #[])∧w'=wr.alloc (.cells #[.int .i64 lj] 3)) (fun e w' h=>by
          rcases h with ⟨_,h2⟩|⟨h1,_⟩
          ·exact h2
          ·rw [hf] at h1;cases h1)
         clear hfl
         go_wp2_with (go_at_call 158;refine hfl2.mono ?_;rintro e w4 ⟨rfl,hw4⟩;rw [hw4])
         exact ⟨⟨j+1,by omega,by simp,HA2,hbr2.out.alloc hbr2.out.size _⟩,by simp [intOf];omega⟩
       ·obtain rfl:j=ps.length:=by omega
        have HA2:Hid (argsP ps ls=true):=by
         show _=_
         rw [HA.out,List.drop_eq_nil_of_le (jE _),List.drop_eq_nil_of_le (by omega)]
         rfl
        have hfl:=oFlow at_ pw [ctx] (.slice (some ⟨wr.heap.size,0,none⟩) 1 1) (wr.alloc (.cells #[.int .i64 ctx] 3)) (ints_one _ _)
        cases hf:flows pw [ctx]
        ·have HB:Hid (Z=.bad 7 at_):=by
          show _=_
          rw [HY.out]
          simp [hne,HA2.out,hf]
         have hfl2:=hfl.mono (R':=fun e w'=>e=.panicked (Thrown 7 at_)∧w'=wr.alloc (.cells #[.int .i64 ctx] 3)) (fun e w' h=>by
          rcases h with ⟨h1,_⟩|⟨_,h2⟩
          ·rw [hf] at h1;cases h1
          ·exact h2)
         clear hfl
         go_wp2_with (go_at_call 158;refine hfl2.mono ?_;rintro e w4 ⟨rfl,hw4⟩;rw [hw4])
         exact ⟨rfl,CL.mkBad HB.out (hI4.alloc _).bs⟩
        ·have HB:Hid (Z=.ok (⟨pn,pb,ps,pw,true,pv⟩,an)):=by
          show _=_
          rw [HY.out]
          simp [hne,HA2.out,hf]
         have hfl2:=hfl.mono (R':=fun e w'=>e=.returned (.tuple #[])∧w'=wr.alloc (.cells #[.int .i64 ctx] 3)) (fun e w' h=>by
          rcases h with ⟨_,h2⟩|⟨h1,_⟩
          ·exact h2
          ·rw [hf] at h1;cases h1)
         clear hfl
         have hA:∀ w4,w4=wr.alloc (.cells #[.int .i64 ctx] 3)→CS w0 w4 D Kb kn kf vs u an∧Fr D w w4∧Box6 w4 N (.string pn) (.bool pb) (.slice za ps.length zc) (.int .i64 pw) (.bool true) (.int .i64 pv)∧Box6 w4 (w.heap.size+1) (.string ⟨#[]⟩) (.bool false) (.slice none 0 0) (.int .i64 0) (.bool false) (.int .i64 0):=fun w4 e=>by
          rw [e]
          exact ⟨hI4.alloc _,(hF3.trans (Fr.below hbr)).alloc _,(hb6.below hbr).alloc _,(hZ3.below hbr).alloc _⟩
         clear y0 y1 y2 y4 y5
         go_wp2_with (go_at_call 158;refine hfl2.mono ?_;rintro e w4 ⟨rfl,hw4⟩;obtain ⟨hI5,hF5,⟨s0,s1,s2,s3,s4,s5,_,_,_,_,_,_⟩,⟨t0,t1,t2,t3,t4,t5,t6,t7,t8,t9,t10,t11⟩⟩:=hA w4 hw4;clear hw4 hA)
         have d1:w.heap.size+1≠D:=by omega
         have d2:w.heap.size+1≠Kb:=by omega
         have d3:u.ownBlock≠some (w.heap.size+1):=fun e=>by have:=hub _ e;omega
         have d4:kf.M≤w.heap.size+1:=by omega
         have d5:w.heap.size≤w.heap.size+1:=by omega
         refine bodyPost_ret (v:=procV ⟨pn,pb,ps,pw,true,pv⟩ (.slice za ps.length zc)) (by simp [results,Tryz.results186,go_sem,t0,t1,t2,t3,t4,t5,procV]) rfl ?_
         exact CL.mkOk HB.out rfl ((((((hI5.other d1 d2 d3 d4 _).other d1 d2 d3 d4 _).other d1 d2 d3 d4 _).other d1 d2 d3 d4 _).other d1 d2 d3 d4 _).other d1 d2 d3 d4 _) (fr_put (fr_put (fr_put (fr_put (fr_put (fr_put hF5 d5 _) d5 _) d5 _) d5 _) d5 _) d5 _)
     | false =>
      cases alone with
      | true =>
       go_wp2_with first
        | (go_at_call 203;refine hPr.mono ?_;rintro e w2 ⟨hb2,z,rfl,hz⟩;obtain ⟨za,zc,rfl,hzl,hzk⟩:=id hz;unfold procV;have hI2:=(hI.below hb2).alloc (.cells #[.string pn,.bool pb,.slice za ps.length zc,.int .i64 pw,.bool false,.int .i64 pv] 80))
        | fail
       have hb6:=Box6.new w2 (.string pn) (.bool pb) (.slice za ps.length zc) (.int .i64 pw) (.bool false) (.int .i64 pv) 80
       have hBx:Below w2.heap.size w2 (w2.alloc (.cells #[.string pn,.bool pb,.slice za ps.length zc,.int .i64 pw,.bool false,.int .i64 pv] 80)):=bal _
       have hyi3:=(hyi.below hb2).below hBx
       have hzi3:=hz.below hBx
       have hF3:Fr D w (w2.alloc (.cells #[.string pn,.bool pb,.slice za ps.length zc,.int .i64 pw,.bool false,.int .i64 pv] 80)):=(hFr.trans (Fr.below hb2)).alloc _
       have hZ3:=(hZb.below hb2).alloc (.cells #[.string pn,.bool pb,.slice za ps.length zc,.int .i64 pw,.bool false,.int .i64 pv] 80)
       have hN1:w.heap.size+1+1≤w2.heap.size:=Nat.le_trans hsz hb2.size
       clear hBx hb2 hz hzk hyi hFr hZb hown hPr hQ q0 q1 q2 q3 hI
       generalize w2.alloc (.cells #[.string pn,.bool pb,.slice za ps.length zc,.int .i64 pw,.bool false,.int .i64 pv] 80)=W3 at *
       generalize w2.heap.size=N at *
       go_loopw [57] (fun t wr'=>∃ j:Nat,j≤ps.length∧t=.int .i64 j∧Hid (argsP ps ls=argsP (ps.drop j) (ls.drop j))∧Below W3.heap.size W3 wr') (fun t _=>ps.length - (intOf t).toNat)
       case atStart=>exact ⟨0,Nat.zero_le _,rfl,rfl,Below.refl _ _⟩
       case round =>
        obtain ⟨j,hj,rfl,HA,hbr⟩:=hrel
        have hbr2:Hid (Below W3.heap.size W3 wr):=hbr
        have hI4:=hI2.below hbr
        obtain ⟨y0,y1,y2,y3,y4,y5,_,_,_,_,_,_⟩:=hb6.below hbr
        by_cases hlt:j<ps.length
        ·obtain ⟨_,_,ee,_,hyk⟩:=hyi3.below hbr
         injection ee with ee _ ee2
         obtain rfl:=ee
         obtain rfl:=ee2
         obtain ⟨_,_,ee3,_,hzk⟩:=hzi3.below hbr
         injection ee3 with ee3 _ ee4
         obtain rfl:=ee3
         obtain rfl:=ee4
         have hlt2:j<ls.length:=by rw [hne];exact hlt
         obtain ⟨g1,o1,rfl,hc1⟩:=hyk (by intro e;rw [e] at hlt2;simp at hlt2)
         obtain ⟨g2,o2,rfl,hc2⟩:=hzk (by intro e;rw [e] at hlt;simp at hlt)
         have k1:=hc1 j hlt2
         have k2:=hc2 j hlt
         have hfl:=oFlow at_ ps[j] [ls[j]] (.slice (some ⟨wr.heap.size,0,none⟩) 1 1) (wr.alloc (.cells #[.int .i64 ls[j]] 3)) (ints_one _ _)
         have HS:Hid (argsP ps ls=(flows ps[j] [ls[j]]&&argsP (ps.drop (j+1)) (ls.drop (j+1)))):=HA.out.trans (argsP_step hlt hlt2)
         clear hc1 hc2 hyk hzk HA
         generalize ps[j]=pj at *
         generalize ls[j]=lj at *
         cases hf:flows pj [lj]
         ·have HB:Hid (Z=.bad 7 at_):=by
           show _=_
           rw [HY.out]
           have h9:=HS.out
           rw [hf,Bool.false_and] at h9
           simp [hne,h9]
          have hfl2:=hfl.mono (R':=fun e w'=>e=.panicked (Thrown 7 at_)∧w'=wr.alloc (.cells #[.int .i64 lj] 3)) (fun e w' h=>by
           rcases h with ⟨h1,_⟩|⟨_,h2⟩
           ·rw [hf] at h1;cases h1
           ·exact h2)
          clear hfl
          go_wp2_with (go_at_call 158;refine hfl2.mono ?_;rintro e w4 ⟨rfl,hw4⟩;rw [hw4])
          exact ⟨rfl,CL.mkBad HB.out (hI4.alloc _).bs⟩
         ·have HA2:Hid (argsP ps ls=argsP (ps.drop (j+1)) (ls.drop (j+1))):=by
           show _=_
           rw [HS.out,hf,Bool.true_and]
          have hfl2:=hfl.mono (R':=fun e w'=>e=.returned (.tuple #[])∧w'=wr.alloc (.cells #[.int .i64 lj] 3)) (fun e w' h=>by
           rcases h with ⟨_,h2⟩|⟨h1,_⟩
           ·exact h2
           ·rw [hf] at h1;cases h1)
          clear hfl
          go_wp2_with (go_at_call 158;refine hfl2.mono ?_;rintro e w4 ⟨rfl,hw4⟩;rw [hw4])
          exact ⟨⟨j+1,by omega,by simp,HA2,hbr2.out.alloc hbr2.out.size _⟩,by simp [intOf];omega⟩
        ·obtain rfl:j=ps.length:=by omega
         have HA2:Hid (argsP ps ls=true):=by
          show _=_
          rw [HA.out,List.drop_eq_nil_of_le (jE _),List.drop_eq_nil_of_le (by omega)]
          rfl
         have hfl:=oFlow at_ pw [ctx] (.slice (some ⟨wr.heap.size,0,none⟩) 1 1) (wr.alloc (.cells #[.int .i64 ctx] 3)) (ints_one _ _)
         cases hf:flows pw [ctx]
         ·have HB:Hid (Z=.bad 7 at_):=by
           show _=_
           rw [HY.out]
           simp [hne,HA2.out,hf]
          have hfl2:=hfl.mono (R':=fun e w'=>e=.panicked (Thrown 7 at_)∧w'=wr.alloc (.cells #[.int .i64 ctx] 3)) (fun e w' h=>by
           rcases h with ⟨h1,_⟩|⟨_,h2⟩
           ·rw [hf] at h1;cases h1
           ·exact h2)
          clear hfl
          go_wp2_with (go_at_call 158;refine hfl2.mono ?_;rintro e w4 ⟨rfl,hw4⟩;rw [hw4])
          exact ⟨rfl,CL.mkBad HB.out (hI4.alloc _).bs⟩
         ·have HB:Hid (Z=.ok (⟨pn,pb,ps,pw,false,pv⟩,an)):=by
           show _=_
           rw [HY.out]
           simp [hne,HA2.out,hf]
          have hfl2:=hfl.mono (R':=fun e w'=>e=.returned (.tuple #[])∧w'=wr.alloc (.cells #[.int .i64 ctx] 3)) (fun e w' h=>by
           rcases h with ⟨_,h2⟩|⟨h1,_⟩
           ·exact h2
           ·rw [hf] at h1;cases h1)
          clear hfl
          have hA:∀ w4,w4=wr.alloc (.cells #[.int .i64 ctx] 3)→CS w0 w4 D Kb kn kf vs u an∧Fr D w w4∧Box6 w4 N (.string pn) (.bool pb) (.slice za ps.length zc) (.int .i64 pw) (.bool false) (.int .i64 pv)∧Box6 w4 (w.heap.size+1) (.string ⟨#[]⟩) (.bool false) (.slice none 0 0) (.int .i64 0) (.bool false) (.int .i64 0):=fun w4 e=>by
           rw [e]
           exact ⟨hI4.alloc _,(hF3.trans (Fr.below hbr)).alloc _,(hb6.below hbr).alloc _,(hZ3.below hbr).alloc _⟩
          clear y0 y1 y2 y4 y5
          go_wp2_with (go_at_call 158;refine hfl2.mono ?_;rintro e w4 ⟨rfl,hw4⟩;obtain ⟨hI5,hF5,⟨s0,s1,s2,s3,s4,s5,_,_,_,_,_,_⟩,⟨t0,t1,t2,t3,t4,t5,t6,t7,t8,t9,t10,t11⟩⟩:=hA w4 hw4;clear hw4 hA)
          have d1:w.heap.size+1≠D:=by omega
          have d2:w.heap.size+1≠Kb:=by omega
          have d3:u.ownBlock≠some (w.heap.size+1):=fun e=>by have:=hub _ e;omega
          have d4:kf.M≤w.heap.size+1:=by omega
          have d5:w.heap.size≤w.heap.size+1:=by omega
          refine bodyPost_ret (v:=procV ⟨pn,pb,ps,pw,false,pv⟩ (.slice za ps.length zc)) (by simp [results,Tryz.results186,go_sem,t0,t1,t2,t3,t4,t5,procV]) rfl ?_
          exact CL.mkOk HB.out rfl ((((((hI5.other d1 d2 d3 d4 _).other d1 d2 d3 d4 _).other d1 d2 d3 d4 _).other d1 d2 d3 d4 _).other d1 d2 d3 d4 _).other d1 d2 d3 d4 _) (fr_put (fr_put (fr_put (fr_put (fr_put (fr_put hF5 d5 _) d5 _) d5 _) d5 _) d5 _) d5 _)
      | false =>
       have HB:Hid (Z=.bad 3 at_):=by
        show _=_
        rw [HY.out]
        simp [hne]
       go_wp2_with first
        | (go_at_call 203;refine hPr.mono ?_;rintro e w2 ⟨hb2,z,rfl,hz⟩;obtain ⟨za,zc,rfl,hzl,hzk⟩:=id hz;unfold procV;have hI2:=(hI.below hb2).alloc (.cells #[.string pn,.bool pb,.slice za ps.length zc,.int .i64 pw,.bool false,.int .i64 pv] 80))
        | (go_at_call 131;refine (oRefuseC 3 at_ _).mono ?_;rintro e w3 ⟨rfl,hw3⟩;rw [hw3])
       exact ⟨rfl,CL.mkBad HB.out hI2.bs⟩
    ·have HB:Hid (Z=.bad 6 at_):=by
      show _=_
      rw [HY.out]
      simp [hne]
     have hne2:¬ ((ls.length:Int)=(ps.length:Int)):=by omega
     go_wp2_with first
      | (go_at_call 203;refine hPr.mono ?_;rintro e w2 ⟨hb2,z,rfl,hz⟩;obtain ⟨za,zc,rfl,hzl,hzk⟩:=id hz;unfold procV;have hI2:=(hI.below hb2).alloc (.cells #[.string pn,.bool pb,.slice za ps.length zc,.int .i64 pw,.bool pg,.int .i64 pv] 80))
      | (go_at_call 131;refine (oRefuseC 6 at_ _).mono ?_;rintro e w3 ⟨rfl,hw3⟩;rw [hw3])
     exact ⟨rfl,CL.mkBad HB.out hI2.bs⟩
end
structure Agr (E:Env) (L:List Loc) (ctx:Int) (kf:ByteArray→Option FV) (vs:List VarD):Prop where
 pl:∀ (k:Int) (x:ByteArray) (a a':Int) (ls:List Int),(k=16∧ls=[]∨k=17∧∃ l,ls=[l])→LongN x→(match plP kf vs k x a (.ok (ls,a')) with
  | .bad c b=>Res.bad c b
  | .ok q=>.ok (jn q.1.label q.2.1,q.2.2))=match ownF E L ctx false k x ls a with
  | .bad c b=>.bad c b
  | .ok l=>.ok (l,a')
 cl:∀ (alone:Bool) (x:ByteArray) (a a':Int) (ls:List Int),LongN x→(match clP kf ctx alone x a (.ok (ls,a')) with
  | .bad c b=>Res.bad c b
  | .ok q=>.ok (q.1.given,q.2))=match ownF E L ctx alone 18 x ls a with
  | .bad c b=>.bad c b
  | .ok l=>.ok (l,a')
theorem exL_len (E:Env) (L:List Loc) (ctx:Int):∀ (ks:List Tree) (a:Int) (q:List Int × Int),exL E L ctx ks a=.ok q→q.1.length=ks.length
 | [],a,q,h=>by
  simp only [exL,Res.ok.injEq] at h
  rw [← h]
  rfl
 | t :: r,a,q,h=>by
  unfold exL at h
  cases h1:exF E L ctx false t a with
  | bad c b=>rw [h1] at h;cases h
  | ok s =>
   rw [h1] at h
   dsimp only at h
   cases h2:exL E L ctx r s.2 with
   | bad c b=>rw [h2] at h;cases h
   | ok s2 =>
    rw [h2] at h
    simp only [Res.ok.injEq] at h
    rw [← h]
    simp [exL_len E L ctx r _ _ h2]
theorem Agr.place {E:Env} {L:List Loc} {ctx:Int} {kf:ByteArray→Option FV} {vs:List VarD} (h:Agr E L ctx kf vs) {k:Int} {x:ByteArray} {m:Int} {ks:List Tree} {a:Int} (hk:k=16∨k=17) (hex:ExT (.node k x m ks)) :
  exF E L ctx false (.node k x m ks) a=match plP kf vs k x a (exL E L ctx ks (a+1)) with
   | .bad c b=>Res.bad c b
   | .ok q=>.ok (jn q.1.label q.2.1,q.2.2):=by
 have hx:=hex.kids.2.1 (by rcases hk with h | h<;>simp [h])
 cases hR:exL E L ctx ks (a+1) with
 | bad c b=>rw [exF_bad hR];rfl
 | ok q =>
  obtain ⟨ls,a'⟩:=q
  rw [exF_ok hR]
  have hl:=exL_len E L ctx ks _ _ hR
  refine (h.pl k x a a' ls ?_ hx).symm
  cases hex with
  | num n=>omega
  | nam _=>exact .inl ⟨rfl,List.eq_nil_of_length_eq_zero hl⟩
  | item _ e=>exact .inr ⟨rfl,List.length_eq_one_iff.1 hl⟩
  | call _ _=>omega
  | op _ _=>omega
  | neg _=>omega
  | nott _=>omega
theorem Agr.call {E:Env} {L:List Loc} {ctx:Int} {kf:ByteArray→Option FV} {vs:List VarD} (h:Agr E L ctx kf vs) {alone:Bool} {x:ByteArray} {m:Int} {ks:List Tree} {a:Int} (hx:LongN x) :
  exF E L ctx alone (.node 18 x m ks) a=match clP kf ctx alone x a (exL E L ctx ks (a+1)) with
   | .bad c b=>Res.bad c b
   | .ok q=>.ok (q.1.given,q.2):=by
 cases hR:exL E L ctx ks (a+1) with
 | bad c b=>rw [exF_bad hR];rfl
 | ok q =>
  obtain ⟨ls,a'⟩:=q
  rw [exF_ok hR]
  exact (h.cl alone x a a' ls hx).symm
theorem own_else (E:Env) (L:List Loc) (ctx:Int) (k:Int) (x:ByteArray) (ls:List Int) (a:Int) (h1:k≠16) (h2:k≠17) (h3:k≠18):ownF E L ctx false k x ls a=.ok (joinL ls 0):=by
 unfold ownF
 rw [if_neg h1,if_neg h2,if_neg h3]
theorem field6 (a b c d e f:Value) (w:World):(Instr.field 80 (.agg #[a,b,c,d,e,f]) 5).run Tryz.prog w=.ok f w:=by kernel_rfl
section
variable {w0:World} {D Kb kn:Nat} {kf:KF} {vs:List VarD} {u:Value}
theorem EX.mkBad {w w':World} {r:Res (Int × Int)} {c b:Int} (h:r=.bad c b) (hb:Below w0.heap.size w0 w'):EX w0 D Kb kn kf vs u w r (.panicked (Thrown c b)) w':=by rw [h];exact ⟨rfl,hb⟩
theorem EX.mkOk {w w':World} {r:Res (Int × Int)} {l a:Int} {e:Ending} (h:r=.ok (l,a)) (he:e=.returned (.int .i64 l)) (hc:CS w0 w' D Kb kn kf vs u a) (hf:Fr D w w'):EX w0 D Kb kn kf vs u w r e w':=by rw [h];exact ⟨he,hc,hf⟩
set_option maxHeartbeats 2000000 in
theorem oExpr (E:Env) (L:List Loc) (ctx:Int) (hA:Agr E L ctx kf vs) (hvs:vs.length≤1000) (t:Tree) (v:Value) (w:World) (at_:Int) (hex:ExT t) (hv:Lies (·<w0.heap.size) w0 t v) (h:CS w0 w D Kb kn kf vs u at_) (h0:0≤at_) (hm:at_+cntT t≤1000000) :
  Calls Tryz.prog 159 #[.pointer (some ⟨D,0,none⟩),v,.int .i64 ctx] w fun e w'=>EX w0 D Kb kn kf vs u w (exF E L ctx false t at_) e w':=by
 match t with
 | .node k x m ks =>
  have ih:∀ j (hj:j<ks.length) (v:Value) (w:World) (at_:Int),ExT ks[j]→Lies (·<w0.heap.size) w0 ks[j] v→CS w0 w D Kb kn kf vs u at_→0≤at_→at_+cntT ks[j]≤1000000 →
    Calls Tryz.prog 159 #[.pointer (some ⟨D,0,none⟩),v,.int .i64 ctx] w fun e w'=>EX w0 D Kb kn kf vs u w (exF E L ctx false ks[j] at_) e w':=fun j hj v w at_ h1 h2 h3 h4 h5=>oExpr E L ctx hA hvs ks[j] v w at_ h1 h2 h3 h4 h5
  obtain ⟨hkids,hlong,hkind⟩:=hex.kids
  have c24:=kc25
  have c4:Tryz.prog.cellsOf 76=4:=cell4
  have hcT:cntT (.node k x m ks)=1+cntL ks:=by unfold cntT;omega
  rw [hcT] at hm
  have hv0:=hv
  unfold Lies at hv
  obtain ⟨a,c,rfl,hl,hk⟩:=hv
  have hB0:Below w.heap.size w (w.alloc (.cells #[.int .i64 k,.string x,.int .i64 m,.slice a ks.length c] 25)):=bal _
  have hI0:=h.alloc (.cells #[.int .i64 k,.string x,.int .i64 m,.slice a ks.length c] 25)
  have hF0:Fr D w (w.alloc (.cells #[.int .i64 k,.string x,.int .i64 m,.slice a ks.length c] 25)):=(Fr.refl _ _).alloc _
  obtain ⟨Z,hZ⟩:∃ Z,exF E L ctx false (.node k x m ks) at_=Z:=⟨_,rfl⟩
  rw [hZ]
  have HZ:Hid (exF E L ctx false (.node k x m ks) at_=Z):=hZ
  clear hZ
  by_cases h1617:k=16∨k=17
  ·have hx:=hlong (by rcases h1617 with h | h<;>simp [h])
   have hP:=oPlace E L hvs k x m ks _ _ ctx at_ hkids hx hv0 hI0 h0 (by omega) ih
   have HZ2:Hid (Z=match plP kf vs k x at_ (exL E L ctx ks (at_+1)) with
     | .bad c b=>Res.bad c b
     | .ok q=>.ok (jn q.1.label q.2.1,q.2.2)):=by
    show _=_
    rw [← HZ.out]
    exact hA.place h1617 hex
   clear HZ ih hk hv0 hex
   generalize plP kf vs k x at_ (exL E L ctx ks (at_+1))=Y at *
   cases Y with
   | bad cc bb =>
    have HB:Hid (Z=.bad cc bb):=HZ2.out
    rcases h1617 with rfl | rfl
    ·go_enter Tryz.func159,Tryz.ntmps159
     go_wp2_with (go_at_call 185;refine hP.mono ?_;rintro e w2 ⟨rfl,hb2⟩)
     exact ⟨rfl,EX.mkBad HB.out hb2⟩
    ·go_enter Tryz.func159,Tryz.ntmps159
     go_wp2_with (go_at_call 185;refine hP.mono ?_;rintro e w2 ⟨rfl,hb2⟩)
     exact ⟨rfl,EX.mkBad HB.out hb2⟩
   | ok q =>
    obtain ⟨vv,ix,a2⟩:=q
    have HB:Hid (Z=.ok (jn vv.label ix,a2)):=HZ2.out
    rcases h1617 with rfl | rfl
    ·go_enter Tryz.func159,Tryz.ntmps159
     go_wp2_with first
      | (go_at_call 185;refine hP.mono ?_;rintro e w2 ⟨rfl,hI2,hf2⟩;unfold varV)
      | (go_at_call 188;refine (oJoin _ _ _).mono ?_;rintro e w6 ⟨rfl,hw6⟩;rw [hw6])
     go_ret
     exact EX.mkOk HB.out rfl (hI2.alloc _) ((hF0.trans hf2).alloc _)
    ·go_enter Tryz.func159,Tryz.ntmps159
     go_wp2_with first
      | (go_at_call 185;refine hP.mono ?_;rintro e w2 ⟨rfl,hI2,hf2⟩;unfold varV)
      | (go_at_call 188;refine (oJoin _ _ _).mono ?_;rintro e w6 ⟨rfl,hw6⟩;rw [hw6])
     go_ret
     exact EX.mkOk HB.out rfl (hI2.alloc _) ((hF0.trans hf2).alloc _)
  ·have hn16:k≠16:=fun e=>h1617 (.inl e)
   have hn17:k≠17:=fun e=>h1617 (.inr e)
   by_cases h18:k=18
   ·subst h18
    have hx:=hlong (by simp)
    have hP:=oCall E L 18 x m ks _ _ ctx at_ false hkids hx hv0 hI0 h0 (by omega) ih
    have HZ2:Hid (Z=match clP kf ctx false x at_ (exL E L ctx ks (at_+1)) with
      | .bad c b=>Res.bad c b
      | .ok q=>.ok (q.1.given,q.2)):=by
     show _=_
     rw [← HZ.out]
     exact hA.call hx
    clear HZ ih hk hv0 hex
    generalize clP kf ctx false x at_ (exL E L ctx ks (at_+1))=Y at *
    cases Y with
    | bad cc bb =>
     have HB:Hid (Z=.bad cc bb):=HZ2.out
     go_enter Tryz.func159,Tryz.ntmps159
     go_wp2_with (go_at_call 186;refine hP.mono ?_;rintro e w2 ⟨rfl,hb2⟩)
     exact ⟨rfl,EX.mkBad HB.out hb2⟩
    | ok q =>
     obtain ⟨p,a2⟩:=q
     have HB:Hid (Z=.ok (p.given,a2)):=HZ2.out
     go_enter Tryz.func159,Tryz.ntmps159
     go_wp2_with (go_at_call 186;refine hP.mono ?_;rintro e w2 ⟨⟨z,rfl⟩,hI2,hf2⟩;unfold procV;have hf6:=field6 (.string p.name) (.bool p.pub) z (.int .i64 p.writes) (.bool p.gives) (.int .i64 p.given) w2)
     go_ret
     exact EX.mkOk HB.out rfl hI2 (hF0.trans hf2)
   ·have hcp:=cntL_pos ks
    have hBg:=hI0.begin h0 (by omega)
    have hd:=h.lt
    have hlen:=len_cnt ks
    obtain ⟨R,hR⟩:∃ R,exL E L ctx ks (at_+1)=R:=⟨_,rfl⟩
    have HR:Hid (exL E L ctx ks (at_+1)=R):=hR
    clear hR
    go_enter Tryz.func159,Tryz.ntmps159
    go_wp2_with (go_at_call 81;refine hBg.mono ?_;rintro e w1 ⟨rfl,hw1⟩;have hI1:CS w0 w1 D Kb kn kf vs u (at_+1):=by { rw [hw1];exact hI0.setAt _ };have hQ1:Q4 w.heap.size (.int .i64 k) (.string x) (.int .i64 m) (.slice a ks.length c) w1:=by { rw [hw1];exact Q4.other (by omega) ⟨by simp,by simp,by simp,by simp⟩ _ _ };have hF1:Fr D w w1:=by { rw [hw1];exact ((Fr.refl _ _).alloc _).set _ _ };clear hw1;obtain ⟨q0,q1,q2,q3⟩:=id hQ1)
    clear hI0 hBg q0 q1 q2 q3 h hB0 hF0
    go_loopw [9,40] (fun lb t wr=>∃ (j:Nat) (ls:List Int),j≤ks.length∧t=.int .i64 j∧lb=.int .i64 (joinL ls 0)∧Fr D w wr∧w.heap.size+1≤wr.heap.size∧Q4 w.heap.size (.int .i64 k) (.string x) (.int .i64 m) (.slice a ks.length c) wr∧CS w0 wr D Kb kn kf vs u (at_+1+cntL (ks.take j))∧Hid (R=preR ls (exL E L ctx (ks.drop j) (at_+1+cntL (ks.take j))))) (fun _ t _=>ks.length - (intOf t).toNat)
    case atStart =>
     have hz:=World.block_lt_of_cell? w1 ⟨w.heap.size,0,none⟩ hQ1.1
     refine ⟨0,[],Nat.zero_le _,rfl,rfl,hF1,hz,hQ1,by simpa [cntL] using hI1,?_⟩
     show _=_
     rw [← HR.out,List.drop_zero]
     simp only [List.take_zero,cntL,Int.add_zero]
     cases exL E L ctx ks (at_+1) with
     | bad c b=>rfl
     | ok q=>rfl
    case round =>
     clear hI1 hQ1 hF1
     obtain ⟨j,ls,hj,rfl,rfl,hFr,hsz,hQ,hI,HRR⟩:=hrel
     obtain ⟨q0,q1,q2,q3⟩:=id hQ
     by_cases hlt:j<ks.length
     ·obtain ⟨g,o,rfl,hg,hat⟩:=hk (by intro e;rw [e] at hlt;simp at hlt)
      obtain ⟨v1,⟨x0,x1,x2,x3,rfl,c0,c1',c2,c3⟩,hlk⟩:=hat.get j hlt
      obtain ⟨kk,xx,mm,_,he,aa,na,ca,rfl⟩:=hlk.shape
      injection he with he
      simp only [Array.mk.injEq,List.cons.injEq,and_true] at he
      obtain ⟨rfl,rfl,rfl,rfl⟩:=he
      have k0:=(hI.bs.cell (p:=⟨g,o+j*4,none⟩) hg).trans c0
      have k1:=(hI.bs.cell (p:=⟨g,o+j*4+1,none⟩) hg).trans c1'
      have k2:=(hI.bs.cell (p:=⟨g,o+j*4+2,none⟩) hg).trans c2
      have k3:=(hI.bs.cell (p:=⟨g,o+j*4+3,none⟩) hg).trans c3
      have hs1:=cntL_take ks j hlt
      have hs2:=cntL_take_le ks (j+1)
      have hs3:=cntT_pos ks[j]
      have hs4:=cntL_pos (ks.take j)
      have hI1:=hI.alloc (.cells #[.int .i64 kk,.string xx,.int .i64 mm,.slice aa na ca] 25)
      have hFr1:=hFr.alloc (.cells #[.int .i64 kk,.string xx,.int .i64 mm,.slice aa na ca] 25)
      have hQ1:=Q4.alloc hQ (.cells #[.int .i64 kk,.string xx,.int .i64 mm,.slice aa na ca] 25)
      have hC:=ih j hlt _ _ _ (hkids _ (List.getElem_mem hlt)) hlk hI1 (by omega) (by omega)
      have HP:Hid (R=match exF E L ctx false ks[j] (at_+1+cntL (ks.take j)) with
        | .bad c b=>.bad c b
        | .ok q=>preR (ls++[q.1]) (exL E L ctx (ks.drop (j+1)) q.2)):=HRR.out.trans (preR_step E L ctx ks j hlt ls _)
      have HA:Hid (∀ q,exF E L ctx false ks[j] (at_+1+cntL (ks.take j))=.ok q→q.2=at_+1+cntL (ks.take (j+1))):=fun q hq=>by
       have:=exF_at E L ctx _ _ _ _ hq
       omega
      clear c0 c1' c2 c3 hat hlk hk HRR hs1 hs2 hs3 hs4 ih
      generalize hXX:exF E L ctx false ks[j] (at_+1+cntL (ks.take j))=X at *
      have HA2:Hid (∀ q,X=.ok q→q.2=at_+1+cntL (ks.take (j+1))):=fun q hq=>HA.out q hq
      clear hXX HA
      cases X with
      | bad cc bb =>
       have HRB:Hid (Z=.bad cc bb):=by
        show _=_
        rw [← HZ.out]
        exact exF_bad (HR.out.trans HP.out)
       go_wp2_with (go_at_call 159;refine hC.mono ?_;rintro e w2 ⟨rfl,hb2⟩)
       exact ⟨rfl,EX.mkBad HRB.out hb2⟩
      | ok q =>
       have HRO:Hid (R=preR (ls++[q.1]) (exL E L ctx (ks.drop (j+1)) q.2)):=HP.out
       have HA3:=HA2.out q rfl
       obtain ⟨l1,a1⟩:=q
       dsimp only at HA3 hC
       subst HA3
       go_wp2_with first
        | (go_at_call 159;refine hC.mono ?_;rintro e w2 ⟨rfl,hI2,hf2⟩)
        | (go_at_call 188;refine (oJoin _ _ _).mono ?_;rintro e w6 ⟨rfl,hw6⟩;rw [hw6])
       have hs9:=hf2.size
       rw [World.size_alloc] at hs9
       exact ⟨⟨j+1,ls++[l1],by omega,by simp,by rw [joinL_snoc],hFr1.trans hf2,by omega,Q4.grown hQ1 hf2 (by simp;omega),hI2,HRO.out⟩,by simp [intOf];omega⟩
     ·obtain rfl:j=ks.length:=by omega
      have HX:Hid (Z=.ok (joinL ls 0,at_+1+cntL ks)):=by
       show _=_
       have h9:exL E L ctx ks (at_+1)=.ok (ls,at_+1+cntL ks):=by
        rw [HR.out,HRR.out,List.drop_eq_nil_of_le (by omega),List.take_of_length_le (by omega)]
        simp [exL,preR]
       rw [← HZ.out,exF_ok h9,own_else E L ctx k x ls at_ hn16 hn17 h18]
      rw [List.take_of_length_le (by omega)] at hI
      clear ih hk HRR HZ
      go_wp2
      go_ret
      exact EX.mkOk HX.out rfl hI hFr
termination_by SizeOf.sizeOf t
decreasing_by exact kid_lt hj
end
theorem localRes {W:World} {v:VarD} {a0 a1:Value} (tl:List Value) (B:Nat) (h:Boxed4 W B v):(results Tryz.f132 (List.toArray (a0 :: a1 :: .pointer (some ⟨B,0,none⟩) :: tl))).run Tryz.prog W=.ok (varV v) W:=by
 obtain ⟨z0,z1,z2,z3,zf⟩:=h.cells
 unfold varV
 simp [results,Tryz.f132,go_sem,z0,z1,z2,z3]
set_option maxHeartbeats 2000000 in
theorem oLocalOf (k:Int) (x:ByteArray) (m:Int) (a:Option Addr) (n c:Nat) (w:World) :
  Calls Tryz.prog 132 #[.agg #[.int .i64 k,.string x,.int .i64 m,.slice a n c]] w fun e w'=>e=.returned (varV ⟨x,false,bits BinOp.and IntKind.i64 m 1,0⟩)∧Below w.heap.size w w':=by
 have c24:=kc25
 have c4:Tryz.prog.cellsOf 76=4:=cell4
 have hL:=fun W=>oLabelOf k x m a n c W
 generalize bits BinOp.and IntKind.i64 m 1=lb at *
 go_enter Tryz.func132,Tryz.ntmps132
 have hq:Q4 w.heap.size (.int .i64 k) (.string x) (.int .i64 m) (.slice a n c) ((w.alloc (.cells #[.int .i64 k,.string x,.int .i64 m,.slice a n c] 25)).alloc (.cells #[.string ⟨#[]⟩,.bool false,.int .i64 0,.int .i64 0] 76)):=⟨by simp,by simp,by simp,by simp⟩
 have hZ:Boxed4 ((w.alloc (.cells #[.int .i64 k,.string x,.int .i64 m,.slice a n c] 25)).alloc (.cells #[.string ⟨#[]⟩,.bool false,.int .i64 0,.int .i64 0] 76)) (w.heap.size+1) zeroVar:=by
  have:=Boxed4.new (w.alloc (.cells #[.int .i64 k,.string x,.int .i64 m,.slice a n c] 25)) zeroVar
  rw [World.size_alloc] at this
  exact this
 have hB:Below w.heap.size w ((w.alloc (.cells #[.int .i64 k,.string x,.int .i64 m,.slice a n c] 25)).alloc (.cells #[.string ⟨#[]⟩,.bool false,.int .i64 0,.int .i64 0] 76)):=((Below.refl _ w).alloc (jE _) _).alloc (by simp) _
 go_wp2
 generalize ((w.alloc (.cells #[.int .i64 k,.string x,.int .i64 m,.slice a n c] 25)).alloc (.cells #[.string ⟨#[]⟩,.bool false,.int .i64 0,.int .i64 0] 76))=W at *
 obtain ⟨q0,q1,q2,q3⟩:=id hq
 obtain ⟨z0,z1,z2,z3,zf⟩:=hZ.cells
 go_region_with (go_at_call 156;refine (hL _).mono ?_;rintro e w2 ⟨rfl,hb2⟩;have hbd:Below W.heap.size W w2:=Below.trans (Below.drew (Below.refl _ _)) hb2;obtain ⟨q0,q1,q2,q3⟩:=id (Q4.below hq hbd);obtain ⟨z0,z1,z2,z3,zf⟩:=(hZ.below hbd hZ.lt).cells;have zf0:=zf 0;have zf1:=zf 1;have zf2:=zf 2;have zf3:=zf 3)
 all_goals
  have hP:=(hZ.below hbd hZ.lt).put ⟨x,false,lb,0⟩
  have hB2:=below_set4 (M:=w.heap.size+1) (hB.trans (hbd.mono hB.size)) (by omega) (.string x) (.bool false) (.int .i64 lb) (.int .i64 0)
  go_wp2
  refine bodyPost_ret (v:=varV ⟨x,false,lb,0⟩) (localRes _ _ hP) rfl ?_
  exact ⟨rfl,hB2⟩
end chk
end Go.Proofs.YtfopddgjdaoidaaGreatDoor
