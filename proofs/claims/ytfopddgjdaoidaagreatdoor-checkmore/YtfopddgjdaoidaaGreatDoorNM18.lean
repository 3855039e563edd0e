/- What the node of a module looks like: its names are names. No Go in sight. -/
import Derived.Test.YtfopddgjdaoidaaGreatDoorNM17
set_option linter.unusedVariables false
set_option linter.unusedSimpArgs false
set_option maxRecDepth 100000
namespace Go.Proofs.YtfopddgjdaoidaaGreatDoor.syn
open Go.RowKit
open lexs (Tok Fine own_shape HasErr)
def PsOut (w:World) (o:Out) (e:Ending) (w':World):Prop :=
  ∃ v,e=.returned (.tuple #[v,.agg #[.int .i64 o.code,.int .i64 o.place]])∧Lies (fun b=>w.heap.size≤b∧b<w'.heap.size) w' o.tree v∧Below w.heap.size w w'
def Parses (H:World→Prop) (F:Nat) (x:ByteArray):Prop:=∀ w:World,H w→Calls Tryz.prog F #[.string x] w (PsOut w (parse x))
def HasBoth (w:World):Prop:=HasErr w∧HasOps w
structure Box2 (w:World) (N:Nat) (x0 x1:Value):Prop where
  c0:w.cell? ⟨N,0,none⟩=some x0
  c1:w.cell? ⟨N,1,none⟩=some x1
  f0:w.frozen? ⟨N,0,none⟩=false
  f1:w.frozen? ⟨N,1,none⟩=false
theorem Box2.new (w:World) (x0 x1:Value) (T:TypeId):Box2 (w.alloc (.cells #[x0,x1] T)) w.heap.size x0 x1:=by constructor <;> simp
theorem Box2.lt {w:World} {N:Nat} {x0 x1:Value} (h:Box2 w N x0 x1):N<w.heap.size:=World.block_lt_of_cell? w ⟨N,0,none⟩ h.c0
theorem Box2.fr {w w':World} {r N:Nat} {x0 x1:Value} (h:Box2 w N x0 x1) (hF:Fr r w w') (hN:N≠r):Box2 w' N x0 x1:=by
  have hb:=hF.block N h.lt (by simpa using hN)
  exact ⟨(World.cell?_of_block (a:=⟨N,0,none⟩) hb).trans h.c0,(World.cell?_of_block (a:=⟨N,1,none⟩) hb).trans h.c1,(World.frozen?_of_block (a:=⟨N,0,none⟩) hb).trans h.f0,(World.frozen?_of_block (a:=⟨N,1,none⟩) hb).trans h.f1⟩
theorem Box2.below {w w':World} {N:Nat} {x0 x1:Value} (h:Box2 w N x0 x1) (hb:Below w.heap.size w w'):Box2 w' N x0 x1:=h.fr (r:=N+1) (Fr.below hb) (by omega)
theorem Box2.alloc {w:World} {N:Nat} {x0 x1:Value} (h:Box2 w N x0 x1) (o:Obj):Box2 (w.alloc o) N x0 x1:=h.below ((Below.refl _ _).alloc (jE _) o)
theorem Box4.below {w w':World} {N:Nat} {x0 x1 x2 x3:Value} (h:Box4 w N x0 x1 x2 x3) (hb:Below w.heap.size w w'):Box4 w' N x0 x1 x2 x3:=h.fr (r:=N+1) (Fr.below hb) (by omega)
theorem PsOut.none {w w':World} {c p:Int} (hb:Below w.heap.size w w'):PsOut w ⟨none0,c,p⟩ (.returned (.tuple #[.agg #[.int .i64 0,.string empty,.int .i64 0,.slice none 0 0],.agg #[.int .i64 c,.int .i64 p]])) w' :=
  ⟨_,rfl,Lies.leaf _ _ _ _ _,hb⟩
theorem below6 {w w1:World} (h:Below w.heap.size w w1) (a0 a1 a2 a3 a4 a5:Value):Below w.heap.size w ((((((w1.setCell ⟨w.heap.size,0,none⟩ a0).setCell ⟨w.heap.size,1,none⟩ a1).setCell ⟨w.heap.size,2,none⟩ a2).setCell ⟨w.heap.size,3,none⟩ a3).setCell ⟨w.heap.size+1,0,none⟩ a4).setCell ⟨w.heap.size+1,1,none⟩ a5) :=
  (((((h.setCell (jE _) _).setCell (jE _) _).setCell (jE _) _).setCell (jE _) _).setCell (Nat.le_succ _) _).setCell (Nat.le_succ _) _
set_option maxHeartbeats 4000000 in
theorem oparse (x:ByteArray):Parses HasBoth 12 x:=by
  intro w ⟨hE,hO⟩
  have c24:Tryz.prog.cellsOf 25=4:=by kernel_rfl
  have c27:Tryz.prog.cellsOf 28=2:=by kernel_rfl
  have hbel:Below w.heap.size w ((w.alloc (.cells #[.int .i64 0,.string empty,.int .i64 0,.slice none 0 0] 25)).alloc (.cells #[.int .i64 0,.int .i64 0] 28)):=((Below.refl _ _).alloc (jE _) _).alloc (by simp) _
  have hS:=lexs.scan_own x _ (lexs.hasErr_below hE hbel)
  have hb1:=(Box4.new w (.int .i64 0) (.string empty) (.int .i64 0) (.slice none 0 0) 25).alloc (.cells #[.int .i64 0,.int .i64 0] 28)
  have hb2:=Box2.new (w.alloc (.cells #[.int .i64 0,.string empty,.int .i64 0,.slice none 0 0] 25)) (.int .i64 0) (.int .i64 0) 28
  rw [World.size_alloc] at hb2
  unfold parse
  cases hsc:lexs.scan x.data.toList with
  | err c p =>
    rw [hsc] at hS
    have hc:=lexs.scan_err hsc
    have hcb:(c != 0)=true:=by simpa using hc
    simp only [lexs.Res.code,lexs.Res.place,lexs.Res.toks] at hS
    go_enter Tryz.func12,Tryz.ntmps12
    go_wp2_with (fail)
    refine hS.mono ?_
    rintro e w1 ⟨v,rfl,hown,hbe⟩
    have hB1:=hb1.below hbe
    have hB2:=hb2.below hbe
    obtain ⟨q0,q1,q2,q3,t0,t1,t2,t3⟩:=id hB1
    obtain ⟨r0,r1,u0,u1⟩:=id hB2
    have z1:w.heap.size+1<w1.heap.size:=hB2.lt
    have z0:w.heap.size<w1.heap.size:=hB1.lt
    have hbw:Below w.heap.size w w1:=hbel.trans (hbe.mono (by simp;omega))
    go_wp2
    go_region
    all_goals
      go_wp2
      refine bodyPost_ret (v:=.tuple #[.agg #[.int .i64 0,.string empty,.int .i64 0,.slice none 0 0],.agg #[.int .i64 c,.int .i64 p]]) (by simp [results,Tryz.results12,go_sem,q0,q1,q2,q3,r0,r1,z0,z1,empty]) rfl (PsOut.none ?_)
      exact below_drewN ((below6 hbw _ _ _ _ _ _).alloc (by simp;omega) _) 1
  | ok ts =>
    rw [hsc] at hS
    simp only [lexs.Res.code,lexs.Res.place,lexs.Res.toks] at hS
    obtain ⟨pp,dd,_,_,hmod⟩:=moduleF_has (lexs.scan_len hsc)
    simp only [hmod]
    have hfine:=lexs.scan_fine hsc
    have hlen:=lexs.scan_len hsc
    generalize (Tree.node 1 (headX ts) 0 dd.1,dd.2)=q at *
    go_enter Tryz.func12,Tryz.ntmps12
    go_wp2_with (fail)
    refine hS.mono ?_
    rintro e w1 ⟨v,rfl,hown,hbe⟩
    have hB1:=hb1.below hbe
    have hB2:=hb2.below hbe
    have z1:w.heap.size+1<w1.heap.size:=hB2.lt
    have z0:w.heap.size<w1.heap.size:=hB1.lt
    have hbw1:Below w.heap.size w w1:=hbel.trans (hbe.mono (by simp;omega))
    have hbx:=Box2.new w1 (.int .i64 0) (.int .i64 0) 28
    have hR:=oread (n:=x.size) (hown.alloc (.cells #[.int .i64 0,.int .i64 0] 28)) hlen hfine (hasOps_below hO (hbw1.alloc (by omega) (.cells #[.int .i64 0,.int .i64 0] 28))) hmod
    unfold judge
    cases hbad:q.2.bad
    case true =>
      go_wp2_with (fail)
      refine hR.mono ?_
      rintro e w2 ⟨v2,rfl,hl2,hbe2⟩
      rw [hbad] at hl2 ⊢
      simp only [if_true] at hl2 ⊢
      obtain ⟨kc,yc,mc,_,rfl,ac,nc,cc,rfl⟩:=hl2.shape
      have hB12:=(hB1.alloc (.cells #[.int .i64 0,.int .i64 0] 28)).below hbe2
      have hB22:=(hB2.alloc (.cells #[.int .i64 0,.int .i64 0] 28)).below hbe2
      have hB52:=hbx.below hbe2
      obtain ⟨q0,q1,q2,q3,t0,t1,t2,t3⟩:=id hB12
      obtain ⟨r0,r1,u0,u1⟩:=id hB22
      obtain ⟨s0,s1,y0,y1⟩:=id hB52
      have y1':w.heap.size+1<w2.heap.size:=hB22.lt
      have y0':w.heap.size<w2.heap.size:=hB12.lt
      have y5':w1.heap.size<w2.heap.size:=hB52.lt
      have hbw:Below w.heap.size w w2:=(hbw1.alloc (by omega) _).trans (hbe2.mono (by simp;omega))
      go_wp2
      go_region
      all_goals
        go_wp2
        refine bodyPost_ret (v:=.tuple #[.agg #[.int .i64 0,.string empty,.int .i64 0,.slice none 0 0],.agg #[.int .i64 2,.int .i64 (failAt ts x.size q.2)]]) (by simp [results,Tryz.results12,go_sem,q0,q1,q2,q3,r0,r1,y0',y1',y5',empty]) rfl ?_
        have ej:judge ts x.size q=⟨none0,2,failAt ts x.size q.2⟩:=by unfold judge;rw [hbad];rfl
        rw [ej]
        refine PsOut.none ?_
        have hbz:Below w.heap.size w ((w2.setCell ⟨w1.heap.size,0,none⟩ (.int .i64 2)).setCell ⟨w1.heap.size,1,none⟩ (.int .i64 (failAt ts x.size q.2))):=(hbw.setCell (by simp;omega) _).setCell (by simp;omega) _
        exact below_drewN ((below6 hbz _ _ _ _ _ _).alloc (by simp;omega) _) 1
    case false =>
      go_wp2_with (fail)
      refine hR.mono ?_
      rintro e w2 ⟨v2,rfl,hl2,hbe2⟩
      rw [hbad] at hl2 ⊢
      simp only [Bool.false_eq_true,if_false] at hl2 ⊢
      obtain ⟨kc,yc,mc,_,rfl,ac,nc,cc,rfl⟩:=hl2.shape
      have hB12:=(hB1.alloc (.cells #[.int .i64 0,.int .i64 0] 28)).below hbe2
      have hB22:=(hB2.alloc (.cells #[.int .i64 0,.int .i64 0] 28)).below hbe2
      have hB52:=hbx.below hbe2
      obtain ⟨s0,s1,y0,y1⟩:=id hB52
      have y1':w.heap.size+1<w2.heap.size:=hB22.lt
      have y0':w.heap.size<w2.heap.size:=hB12.lt
      have y5':w1.heap.size<w2.heap.size:=hB52.lt
      have hbw:Below w.heap.size w w2:=(hbw1.alloc (by omega) _).trans (hbe2.mono (by simp;omega))
      have hbz:Below w.heap.size w ((w2.setCell ⟨w1.heap.size,0,none⟩ (.int .i64 0)).setCell ⟨w1.heap.size,1,none⟩ (.int .i64 0)):=(hbw.setCell (by simp;omega) _).setCell (by simp;omega) _
      have hFz:Fr w1.heap.size w2 ((w2.setCell ⟨w1.heap.size,0,none⟩ (.int .i64 0)).setCell ⟨w1.heap.size,1,none⟩ (.int .i64 0)):=((Fr.refl _ _).set _ _).set _ _
      have hlz:=hl2.frP (x:=w1.heap.size) hFz (Q:=fun b=>w1.heap.size<b∧b<w2.heap.size) (fun b hb=>⟨hb.2,by have:=hb.1;rw [World.size_alloc] at this;omega⟩) (fun b hb=>⟨by have:=hb.1;rw [World.size_alloc] at this;omega,hb.2⟩)
      have hB1z:=hB12.fr hFz (by omega)
      have hB2z:=hB22.fr hFz (by omega)
      have hsz:((w2.setCell ⟨w1.heap.size,0,none⟩ (.int .i64 0)).setCell ⟨w1.heap.size,1,none⟩ (.int .i64 0)).heap.size=w2.heap.size:=by simp
      go_wp2_with (fail)
      generalize (w2.setCell ⟨w1.heap.size,0,none⟩ (.int .i64 0)).setCell ⟨w1.heap.size,1,none⟩ (.int .i64 0)=wz at *
      have hly:=hlz.frP (x:=wz.heap.size) (Fr.al wz (.cells #[.int .i64 kc,.string yc,.int .i64 mc,.slice ac nc cc] 25)) (Q:=fun b=>w1.heap.size<b∧b<(wz.alloc (.cells #[.int .i64 kc,.string yc,.int .i64 mc,.slice ac nc cc] 25)).heap.size) (fun b hb=>⟨by omega,by omega⟩) (fun b hb=>⟨hb.1,by rw [World.size_alloc];omega⟩)
      have hbn:=Box4.new wz (.int .i64 kc) (.string yc) (.int .i64 mc) (.slice ac nc cc) 25
      refine (osmall q.1 _ _ (hly.to (fun b hb=>hb.2) (fun _ _ _=>rfl))).mono ?_
      rintro e w3 ⟨rfl,hb3⟩
      have hbw3:Below w.heap.size w w3:=(hbz.alloc (by omega) _).trans (hb3.mono (by simp;omega))
      obtain ⟨q0,q1,q2,q3,t0,t1,t2,t3⟩:=(hB1z.alloc (.cells #[.int .i64 kc,.string yc,.int .i64 mc,.slice ac nc cc] 25)).below hb3
      obtain ⟨r0,r1,u0,u1⟩:=(hB2z.alloc (.cells #[.int .i64 kc,.string yc,.int .i64 mc,.slice ac nc cc] 25)).below hb3
      obtain ⟨n0,n1,n2,n3,_,_,_,_⟩:=hbn.below hb3
      rw [hsz] at n0 n1 n2 n3
      have hl3:=hly.frP (x:=w.heap.size) (Fr.below hb3) (Q:=fun b=>w1.heap.size<b∧b<w3.heap.size) (fun b hb=>⟨hb.2,by omega⟩) (fun b hb=>⟨hb.1,Nat.lt_of_lt_of_le hb.2 hb3.size⟩)
      cases hfit:fitsT q.1
      case true =>
        go_wp2
        refine bodyPost_ret (v:=.tuple #[.agg #[.int .i64 kc,.string yc,.int .i64 mc,.slice ac nc cc],.agg #[.int .i64 0,.int .i64 0]]) (by simp [results,Tryz.results12,go_sem,q0,q1,q2,q3,r0,r1]) rfl ?_
        have ej:judge ts x.size q=⟨q.1,0,0⟩:=by unfold judge;rw [hbad,hfit];rfl
        rw [ej]
        refine ⟨_,rfl,?_,below6 hbw3 _ _ _ _ _ _⟩
        exact (hl3.frP (x:=w.heap.size) (Fr.put _ _ _ _ _ _) (fun b hb=>⟨hb.2,by omega⟩) (fun b hb=>hb)).frP (x:=w.heap.size+1) (((Fr.refl _ _).set 0 _).set 1 _) (fun b hb=>⟨by simpa using hb.2,by omega⟩) (fun b hb=>⟨by omega,by simpa using hb.2⟩)
      case false =>
        go_wp2
        refine bodyPost_ret (v:=.tuple #[.agg #[.int .i64 0,.string empty,.int .i64 0,.slice none 0 0],.agg #[.int .i64 1,.int .i64 0]]) (by simp [results,Tryz.results12,go_sem,q0,q1,q2,q3,r0,r1,empty]) rfl ?_
        have ej:judge ts x.size q=⟨none0,1,0⟩:=by unfold judge;rw [hbad,hfit];rfl
        rw [ej]
        exact PsOut.none (below6 hbw3 _ _ _ _ _ _)
end Go.Proofs.YtfopddgjdaoidaaGreatDoor.syn
namespace Go.Proofs.YtfopddgjdaoidaaGreatDoor.face
open lexs (Tok scan)
open syn
mutual
def InT:Tree→Prop
  | .node k _ _ ks=>(k=0∨6≤k)∧InL ks
def InL:List Tree→Prop
  | []=>True
  | t :: r=>InT t∧InL r
end
theorem InL.snoc {t:Tree} (ht:InT t):∀ {ks:List Tree},InL ks→InL (ks++[t])
  | [],_=>by show InT t∧InL [];exact ⟨ht,by unfold InL;trivial⟩
  | a :: r,h=>by
    unfold InL at h
    show InT a∧InL (r++[t])
    exact ⟨h.1,InL.snoc ht h.2⟩
theorem inT_leaf {k m:Int} {x:ByteArray} (h:k=0∨6≤k):InT (.node k x m []):=by unfold InT;exact ⟨h,by unfold InL;trivial⟩
theorem inT_one {k m:Int} {x:ByteArray} {t:Tree} (h:k=0∨6≤k) (ht:InT t):InT (.node k x m [t]):=by
  unfold InT InL InL;exact ⟨h,ht,trivial⟩
theorem inT_two {k m:Int} {x:ByteArray} {t u:Tree} (h:k=0∨6≤k) (ht:InT t) (hu:InT u):InT (.node k x m [t,u]):=by
  unfold InT InL InL InL;exact ⟨h,ht,hu,trivial⟩
theorem inT_three {k m:Int} {x:ByteArray} {t u v:Tree} (h:k=0∨6≤k) (ht:InT t) (hu:InT u) (hv:InT v):InT (.node k x m [t,u,v]):=by
  unfold InT InL InL InL InL;exact ⟨h,ht,hu,hv,trivial⟩
section
variable (ts:List Tok)
structure InE (f:Nat):Prop where
  ex:∀ s q,exprF ts f s=some q→InT q.1
  bo:∀ l s q,boundF ts f l s=some q→InT q.1
  bl:∀ l n s q,InT n→boundL ts f l n s=some q→InT q.1
  un:∀ s q,unaryF ts f s=some q→InT q.1
  ak:∀ s q,askedF ts f s=some q→InT q.1
  pl:∀ x s q,placeF ts f x s=some q→InT q.1
  ca:∀ x s q,callF ts f x s=some q→InT q.1
  cl:∀ x ks s on q,InL ks→callL ts f x ks s on=some q→InT q.1
theorem number_in (s:St):InT (number ts s).1:=by
  unfold number
  split
  · exact inT_leaf (.inr (by omega))
  · split <;> exact inT_leaf (.inr (by omega))
theorem inE:∀ f,InE ts f
  | 0=>by
    constructor
    · intro s q h;unfold exprF at h;cases h
    · intro l s q h;unfold boundF at h;cases h
    · intro l n s q hn h;unfold boundL at h;cases h
    · intro s q h;unfold unaryF at h;cases h
    · intro s q h;unfold askedF at h;cases h
    · intro x s q h;unfold placeF at h;cases h
    · intro x s q h;unfold callF at h;cases h
    · intro x ks s on q hk h;unfold callL at h;cases h
  | f+1=>by
    have ih:=inE f
    constructor
    · intro s q h
      unfold exprF at h
      split at h
      · cases h;exact inT_leaf (.inl rfl)
      · exact ih.bo _ _ _ h
    · intro l s q h
      unfold boundF at h
      split at h
      · exact ih.un _ _ h
      · obtain ⟨p,hp,h⟩:=Option.bind_eq_some_iff.1 h
        exact ih.bl _ _ _ _ (ih.bo _ _ _ hp) h
    · intro l n s q hn h
      unfold boundL at h
      split at h
      · cases h;exact hn
      · split at h
        · cases h;exact hn
        · obtain ⟨p,hp,h⟩:=Option.bind_eq_some_iff.1 h
          have h2:=ih.bo _ _ _ hp
          split at h
          · cases h;exact inT_two (.inr (by omega)) hn h2
          · exact ih.bl _ _ _ _ (inT_two (.inr (by omega)) hn h2) h
    · intro s q h
      unfold unaryF at h
      split at h
      · obtain ⟨p,hp,h⟩:=Option.bind_eq_some_iff.1 h
        cases h;exact inT_one (.inr (by omega)) (ih.un _ _ hp)
      · split at h
        · obtain ⟨p,hp,h⟩:=Option.bind_eq_some_iff.1 h
          cases h;exact inT_one (.inr (by omega)) (ih.un _ _ hp)
        · split at h
          · exact ih.ak _ _ h
          · split at h
            · cases h;exact number_in ts s
            · split at h
              · exact ih.ca _ _ _ h
              · exact ih.pl _ _ _ h
    · intro s q h
      unfold askedF at h
      obtain ⟨p,hp,h⟩:=Option.bind_eq_some_iff.1 h
      cases h
      show InT p.1
      exact ih.ex _ _ hp
    · intro x s q h
      unfold placeF at h
      split at h
      · obtain ⟨p,hp,h⟩:=Option.bind_eq_some_iff.1 h
        cases h;exact inT_one (.inr (by omega)) (ih.ex _ _ hp)
      · cases h;exact inT_leaf (.inr (by omega))
    · intro x s q h
      unfold callF at h
      split at h
      · cases h;exact inT_leaf (.inr (by omega))
      · exact ih.cl _ _ _ _ _ (by unfold InL;trivial) h
    · intro x ks s on q hk h
      unfold callL at h
      split at h
      · obtain ⟨p,hp,h⟩:=Option.bind_eq_some_iff.1 h
        exact ih.cl _ _ _ _ _ (InL.snoc (ih.ex _ _ hp) hk) h
      · cases h
        show InT (.node 18 x 0 ks)
        unfold InT
        exact ⟨.inr (by omega),hk⟩
structure InS (f:Nat):Prop where
  bl:∀ s q,blockF ts f s=some q→InT q.1
  li:∀ ks s q,InL ks→blockL ts f ks s=some q→InT q.1
  st:∀ s q,statF ts f s=some q→InT q.1
theorem inS:∀ f,InS ts f
  | 0=>by
    constructor
    · intro s q h;unfold blockF at h;cases h
    · intro ks s q hk h;unfold blockL at h;cases h
    · intro s q h;unfold statF at h;cases h
  | f+1=>by
    have ih:=inS f
    have ie:=inE ts f
    constructor
    · intro s q h
      unfold blockF at h
      exact ih.li _ _ _ (by unfold InL;trivial) h
    · intro ks s q hk h
      unfold blockL at h
      have hn:InT (.node 6 empty 0 ks):=by unfold InT;exact ⟨.inr (by omega),hk⟩
      split at h
      · cases h;exact hn
      · split at h
        · cases h;exact hn
        · obtain ⟨p,hp,h⟩:=Option.bind_eq_some_iff.1 h
          exact ih.li _ _ _ (InL.snoc (ih.st _ _ hp) hk) h
    · intro s q h
      unfold statF at h
      split at h
      · obtain ⟨x,hx,h⟩:=Option.bind_eq_some_iff.1 h
        obtain ⟨b,hb,h⟩:=Option.bind_eq_some_iff.1 h
        split at h
        · obtain ⟨c,hc,h⟩:=Option.bind_eq_some_iff.1 h
          cases h;exact inT_three (.inr (by omega)) (ie.ak _ _ hx) (ih.bl _ _ hb) (ih.bl _ _ hc)
        · cases h;exact inT_two (.inr (by omega)) (ie.ak _ _ hx) (ih.bl _ _ hb)
      · split at h
        · obtain ⟨x,hx,h⟩:=Option.bind_eq_some_iff.1 h
          obtain ⟨b,hb,h⟩:=Option.bind_eq_some_iff.1 h
          cases h;exact inT_two (.inr (by omega)) (ie.ak _ _ hx) (ih.bl _ _ hb)
        · split at h
          · obtain ⟨x,hx,h⟩:=Option.bind_eq_some_iff.1 h
            cases h;exact inT_one (.inr (by omega)) (ie.ex _ _ hx)
          · split at h
            · obtain ⟨x,hx,h⟩:=Option.bind_eq_some_iff.1 h
              cases h;exact inT_one (.inr (by omega)) (ie.ca _ _ _ hx)
            · split at h
              · obtain ⟨x,hx,h⟩:=Option.bind_eq_some_iff.1 h
                cases h;exact inT_one (.inr (by omega)) (ie.ex _ _ hx)
              · split at h
                · obtain ⟨x,hx,h⟩:=Option.bind_eq_some_iff.1 h
                  cases h;exact inT_one (.inr (by omega)) (ie.pl _ _ _ hx)
                · split at h
                  · obtain ⟨x,hx,h⟩:=Option.bind_eq_some_iff.1 h
                    cases h;exact inT_one (.inr (by omega)) (ie.ex _ _ hx)
                  · obtain ⟨x,hx,h⟩:=Option.bind_eq_some_iff.1 h
                    obtain ⟨y,hy,h⟩:=Option.bind_eq_some_iff.1 h
                    cases h;exact inT_two (.inr (by omega)) (ie.pl _ _ _ hx) (ie.ex _ _ hy)
end
/-! declarations -/
def bI (b:Bool):Int:=if b then 1 else 0
inductive Kid where
  | imp (x:ByteArray)
  | var (x:ByteArray) (p l:Bool) (n:Option Int)
  | proc (x:ByteArray) (p l:Bool) (g:Option Bool) (ps:List (ByteArray × Bool)) (b:Tree)
def gI:Option Bool→Int
  | none=>0
  | some b=>4+4 * bI b
def parT (q:ByteArray × Bool):Tree:=.node 5 q.1 (bI q.2) []
def Kid.tree:Kid→Tree
  | .imp x=>.node 2 x 0 []
  | .var x p l none=>.node 3 x (2 * bI p+bI l) []
  | .var x p l (some n)=>.node 3 x (2 * bI p+bI l) [.node 15 empty n []]
  | .proc x p l g ps b=>.node 4 x (2 * bI p+bI l+gI g) (ps.map parT++[b])
section
variable (ts:List Tok)
theorem label_is (s:St):∃ l:Bool,(label ts s).1=bI l:=by
  unfold label
  split
  · exact ⟨true,rfl⟩
  · exact ⟨false,rfl⟩
theorem pub_is (s:St):∃ p:Bool,pubN ts s=2 * bI p:=by
  unfold pubN
  split
  · exact ⟨true,rfl⟩
  · exact ⟨false,rfl⟩
theorem gives_is (p:Bool) (s:St):∃ (l:Bool) (g:Option Bool),givesN ts (2 * bI p) s=2 * bI p+bI l+gI g:=by
  obtain ⟨l,hl⟩:=label_is ts s
  unfold givesN
  split
  · obtain ⟨m,hm⟩:=label_is ts (label ts s).2.next
    refine ⟨l,some m,?_⟩
    rw [hl,hm]
    show _=2 * bI p+bI l+(4+4 * bI m)
    omega
  · exact ⟨l,none,by rw [hl];show _=2 * bI p+bI l+0;omega⟩
theorem number_is (s:St):∃ n,(number ts s).1=.node 15 empty n []:=by
  unfold number
  split
  · exact ⟨_,rfl⟩
  · split <;> exact ⟨_,rfl⟩
end
end Go.Proofs.YtfopddgjdaoidaaGreatDoor.face
namespace Go.Proofs.YtfopddgjdaoidaaGreatDoor.face
open syn
def Kid.good:Kid→Prop
  | .imp x=>x.size≤16
  | .var x _ _ _=>x.size≤16
  | .proc x _ _ _ ps b=>x.size≤16∧(∀ q ∈ ps,q.1.size≤16)∧InT b
end Go.Proofs.YtfopddgjdaoidaaGreatDoor.face
namespace Go.Proofs.YtfopddgjdaoidaaGreatDoor.face
open lexs (Tok scan scan_len)
open syn
section
variable (ts:List Tok)
theorem name_size (s:St):(name ts s).1.size≤16:=by
  unfold name
  split
  · rename_i h
    unfold isName at h
    simp only [Bool.and_eq_true,decide_eq_true_eq] at h
    exact h.1.1.1.2
  · exact Nat.zero_le _
end
def Kid.named:Kid→Prop
  | .imp x=>isName x=true
  | .var x _ _ _=>isName x=true
  | .proc x _ _ _ ps _=>isName x=true∧∀ q ∈ ps,isName q.1=true
theorem name_short {x:ByteArray} (h:isName x=true):x.size≤16:=by
  unfold isName at h
  simp only [Bool.and_eq_true,decide_eq_true_eq] at h
  exact h.1.1.1.2
section
variable (ts:List Tok)
theorem ok_of {s t:St} (hst:s.bad=true→t=s) (h:t.bad=false):s.bad=false:=by
  cases hs:s.bad
  · rfl
  · rw [hst hs,hs] at h;cases h
theorem name_named {s:St} (h:(name ts s).2.bad=false):isName (name ts s).1=true∧s.bad=false:=by
  refine ⟨?_,ok_of (fun hs=>name_st hs) h⟩
  unfold name at h ⊢
  split
  · assumption
  · rename_i hn
    rw [if_neg hn] at h
    simp [St.fail] at h
theorem paramsL_st:∀ (f:Nat) (ks:List Tree) (s:St) (q:List Tree × St),s.bad=true→paramsL ts f ks s=some q→q.2=s
  | 0,ks,s,q,hb,h=>by unfold paramsL at h;cases h
  | f+1,ks,s,q,hb,h=>by
    unfold paramsL at h
    rw [label_st hb,name_st hb,eqS_bad (by decide) hb,if_neg (by decide)] at h
    cases h
    rfl
theorem params_st (f:Nat) (s:St) (q:List Tree × St) (hb:s.bad=true) (h:params ts f s=some q):q.2=s:=by
  unfold params at h
  rw [eqS_bad (by decide) hb,if_neg (by decide)] at h
  exact paramsL_st ts f [] s q hb h
theorem paramsL_is3:∀ (f:Nat) (ps:List (ByteArray × Bool)) (s:St) (q:List Tree × St),(∀ q ∈ ps,isName q.1=true)→paramsL ts f (ps.map parT) s=some q→q.2.bad=false→∃ ps':List (ByteArray × Bool),q.1=ps'.map parT∧∀ q ∈ ps',isName q.1=true
  | 0,ps,s,q,hs,h,hb=>by unfold paramsL at h;cases h
  | f+1,ps,s,q,hs,h,hb=>by
    unfold paramsL at h
    obtain ⟨l,hl⟩:=label_is ts s
    have e:ps.map parT++[.node 5 (name ts (label ts s).2).1 (label ts s).1 []]=(ps++[((name ts (label ts s).2).1,l)]).map parT:=by
      rw [List.map_append,hl];rfl
    rw [e] at h
    have key:(name ts (label ts s).2).2.bad=false→∀ q ∈ ps++[((name ts (label ts s).2).1,l)],isName q.1=true:=by
      intro hn q hq
      rw [List.mem_append] at hq
      rcases hq with hq | hq
      · exact hs q hq
      · simp only [List.mem_singleton] at hq;subst hq;exact (name_named ts hn).1
    split at h
    · have h1:(name ts (label ts s).2).2.next.bad=false:=ok_of (fun hx=>paramsL_st ts f _ _ _ hx h) hb
      exact paramsL_is3 f _ _ _ (key h1) h hb
    · cases h;exact ⟨_,rfl,key hb⟩
theorem givesS_st {s:St} (h:s.bad=true):givesS ts s=s:=by
  unfold givesS
  rw [label_st h,eqS_bad (by decide) h,if_neg (by decide)]
theorem varS_st {s:St} (h:s.bad=true):(varS ts s).2=s:=by
  unfold varS
  rw [eqS_bad (by decide) h,if_neg (by decide)]
theorem pubS_st {s:St} (h:s.bad=true):pubS ts s=s:=by
  unfold pubS
  rw [eqS_bad (by decide) h,if_neg (by decide)]
theorem importsL_st (f:Nat) (ks:List Tree) (s:St) (q:List Tree × St) (hb:s.bad=true) (h:importsL ts f ks s=some q):q.2=s:=by
  cases f with
  | zero=>unfold importsL at h;cases h
  | succ f =>
    unfold importsL at h
    rw [eqS_bad (by decide) hb,if_neg (by decide)] at h
    cases h
    rfl
theorem declsL_st (f:Nat) (ks:List Tree) (s:St) (q:List Tree × St) (hb:s.bad=true) (h:declsL ts f ks s=some q):q.2=s:=by
  cases f with
  | zero=>unfold declsL at h;cases h
  | succ f =>
    unfold declsL at h
    rw [hb,Bool.true_or,if_pos rfl] at h
    cases h
    rfl
end
end Go.Proofs.YtfopddgjdaoidaaGreatDoor.face
