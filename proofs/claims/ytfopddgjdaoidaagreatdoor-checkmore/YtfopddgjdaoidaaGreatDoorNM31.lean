/- Statements: what they leave, how far they reach, and labels. No Go in sight. -/
import Derived.Test.YtfopddgjdaoidaaGreatDoorNM30
set_option linter.unusedVariables false
set_option linter.unusedSimpArgs false
namespace Go.Proofs.YtfopddgjdaoidaaGreatDoor.chk
open Go.RowKit Go.Shelf
open syn face
theorem varCells_len:∀ l:List VarD,(varCells l).length=l.length * 4
  | []=>rfl
  | v :: r=>by
    show (Value.string v.name :: .bool v.pub :: .int .i64 v.label :: .int .i64 v.size :: varCells r).length=_
    simp only [List.length_cons,varCells_len r]
    omega
theorem varCells_take:∀ (l:List VarD) (n:Nat),(varCells l).take (n * 4)=varCells (l.take n)
  | [],n=>by simp [varCells]
  | v :: r,0=>by simp [varCells]
  | v :: r,n+1=>by
    show (Value.string v.name :: .bool v.pub :: .int .i64 v.label :: .int .i64 v.size :: varCells r).take ((n+1) * 4)=Value.string v.name :: .bool v.pub :: .int .i64 v.label :: .int .i64 v.size :: varCells (r.take n)
    rw [show (n+1) * 4=n * 4+1+1+1+1 by omega]
    simp only [List.take_succ_cons,varCells_take r n]
theorem own_cut {w:World} {B:Nat} {ua:Option Addr} {uc:Nat} {vs:List VarD} (h:w.ownsRow B 76 4 (.slice ua vs.length uc) vs.length (varCells vs)) {n:Nat} (hn:n≤vs.length):w.ownsRow B 76 4 (.slice ua n uc) (vs.take n).length (varCells (vs.take n)):=by
  have hl:(vs.take n).length=n:=by rw [List.length_take];omega
  refine ⟨by rw [varCells_len],?_⟩
  rw [hl]
  rcases h.2 with ⟨e,h0⟩ | ⟨g,cap,cur,e,h1,h2,h3,h4,h5,h6⟩
  · injection e with e1 _ e2
    exact .inl ⟨by rw [e1,e2,show n=0 by omega],by omega⟩
  · injection e with e1 _ e2
    refine .inr ⟨g,cap,cur,by rw [e1,e2],h1,h2,by omega,h4,h5,?_⟩
    rw [← varCells_take,← h6,List.take_take,Nat.min_eq_left (by omega)]
section
variable {w0 w w':World} {D Kb kn:Nat} {kf:KF} {vs:List VarD} {ua:Option Addr} {uc:Nat} {a:Int}
theorem CS.cut (h:CS w0 w D Kb kn kf vs (.slice ua vs.length uc) a) {n:Nat} (hn:n≤vs.length):CS w0 (w.setCell ⟨D,6,none⟩ (.slice ua n uc)) D Kb kn kf (vs.take n) (.slice ua n uc) a:=by
  have hob:(Value.slice ua n uc).ownBlock=(Value.slice ua vs.length uc).ownBlock:=by cases ua <;> rfl
  refine ⟨h.bs.setCell h.hD _,h.hD,?_,?_,?_,?_,fun k=>?_,h.mp.setCell h.nk _,h.fi,fun p x hc=>⟨(h.fw p x hc).1,(h.fw p x hc).2.1,(World.cell?_of_block (a:=p) (Below.heap_setCell w ⟨D,6,none⟩ _ p.block (h.fw p x hc).1)).trans (h.fw p x hc).2.2⟩,by rw [World.size_setCell];exact h.fm,h.mM,fun b e=>h.fu b (by rw [← hob];exact e),?_,h.nk,h.mx,?_⟩
  · rw [jD _ _ _ _ (by simp)];exact h.c4
  · rw [jD _ _ _ _ (by simp)];exact h.c5
  · exact World.cell?_setCell_same' _ _ _ (by rw [h.c6];rfl)
  · rw [jD _ _ _ _ (by simp)];exact h.c7
  · rw [World.frozen?_setCell];exact h.fz k
  · refine ownsRow_setCell_other (own_cut h.rl hn) (fun e=>?_) _
    rw [hob] at e
    have h2:D+1≤D:=(h.rl.lt _ e).1
    omega
  · rw [hob];exact h.nu
end
end Go.Proofs.YtfopddgjdaoidaaGreatDoor.chk
namespace Go.Proofs.YtfopddgjdaoidaaGreatDoor.chk
open syn face
def Lab (l:Int):Prop:=l=0∨l=1
theorem jn_zero {l:Int} (h:Lab l):jn l 0=l:=by
  unfold jn
  rcases h with rfl | rfl <;> decide
theorem jn_swap (l v:Int):jn v l=jn (jn 0 l) v:=by
  unfold jn
  by_cases h1:v=0 <;> by_cases h2:l=0 <;> simp [h1,h2]
theorem flows_one {p:Int} (l:Int) (h:Lab p):flows p [l]=(p==1 || l==0):=by
  unfold flows jn
  rcases h with rfl | rfl
  · by_cases h2:l=0 <;> simp [h2]
  · simp
theorem argsP_is:∀ (ps ls:List Int),(∀ p ∈ ps,Lab p)→argsP ps ls=argsOk ps ls
  | [],ls,h=>by
    cases ls <;> rfl
  | p :: r,[],h=>rfl
  | p :: r,l :: s,h=>by
    show (flows p [l] && argsP r s)=((p==1 || l==0) && argsOk r s)
    rw [flows_one l (h p (List.mem_cons_self ..)),argsP_is r s (fun q hq=>h q (List.mem_cons_of_mem _ hq))]
theorem agr_of {E:Env} {L:List Loc} {ctx:Int} {kf:ByteArray→Option FV} {vs:List VarD}
    (hv:∀ x,LongN x→(varP kf vs x).map (fun v=>(v.label,v.size))=varF E L x) (hp:∀ x,LongN x→procP kf x=procF E x)
    (hlv:∀ x v,LongN x→varP kf vs x=some v→Lab v.label∧0≤v.size) (hlp:∀ x p,LongN x→procP kf x=some p→(∀ l ∈ p.params,Lab l)∧Lab p.writes):Agr E L ctx kf vs where
  pl:=fun k x a a' ls hk hx=>by
    have e:=hv x hx
    rcases hk with ⟨rfl,rfl⟩ | ⟨rfl,l,rfl⟩
    · unfold plP ownF
      rw [if_pos rfl,← e]
      cases hq:varP kf vs x with
      | none=>rfl
      | some v =>
        obtain ⟨h1,h2⟩:=hlv x v hx hq
        dsimp only [Option.map_some]
        by_cases h3:v.size=0
        · rw [if_pos (by simp [h3]),if_pos h3]
          show Res.ok (jn v.label 0,a')=_
          rw [jn_zero h1]
        · rw [if_neg (by simp;omega),if_neg h3]
    · unfold plP ownF
      rw [if_neg (by decide),if_pos rfl,← e]
      cases hq:varP kf vs x with
      | none=>rfl
      | some v =>
        dsimp only [Option.map_some]
        by_cases h3:0<v.size
        · rw [if_pos (by simp [h3]),if_pos h3]
          show Res.ok (jn v.label l,a')=Res.ok (jn (jn 0 l) v.label,a')
          rw [jn_swap]
        · rw [if_neg (by simp;omega),if_neg h3]
  cl:=fun alone x a a' ls hx=>by
    refine Eq.trans ?_ (own18 E L ctx alone x ls a a').symm
    rw [← hp x hx]
    unfold clP
    cases hq:procP kf x with
    | none=>rfl
    | some p =>
      obtain ⟨h1,h2⟩:=hlp x p hx hq
      dsimp only
      rw [argsP_is _ _ h1,flows_one ctx h2]
      by_cases g1:ls.length=p.params.length
      · have n1:¬ (ls.length≠p.params.length):=fun e=>e g1
        have n2:¬ (p.params.length≠ls.length):=fun e=>e g1.symm
        rw [if_neg n1,if_neg n2]
        by_cases g2:p.gives=false∧alone=false
        · have m1:(!p.gives && !alone)=true:=by simp [g2.1,g2.2]
          rw [if_pos m1,if_pos g2]
        · have m1:¬ ((!p.gives && !alone)=true):=fun e=>g2 (by simpa using e)
          rw [if_neg m1,if_neg g2]
          by_cases g3:argsOk p.params ls=false
          · rw [if_pos g3,if_pos g3]
          · rw [if_neg g3,if_neg g3]
            by_cases g4:p.writes≠1∧ctx≠0
            · have m2:(p.writes==1 || ctx==0)=false:=by simp [g4.1,g4.2]
              rw [if_pos m2,if_pos g4]
            · have m2:¬ ((p.writes==1 || ctx==0)=false):=fun e=>g4 (by simpa using e)
              rw [if_neg m2,if_neg g4]
      · have n2:p.params.length≠ls.length:=fun e=>g1 e.symm
        rw [if_pos g1,if_pos n2]
def vsOf (L:List Loc):List VarD:=L.map fun l=>⟨l.name,false,l.label,0⟩
def FaceOk (f:FaceD):Prop:=(∀ v ∈ f.vars,Lab v.label∧0≤v.size)∧∀ p ∈ f.procs,(∀ l ∈ p.params,Lab l)∧Lab p.writes∧Lab p.given
def EnvOk (E:Env):Prop:=FaceOk E.own∧∀ f ∈ E.faces,FaceOk f
def LabL (L:List Loc):Prop:=∀ l ∈ L,Lab l.label
theorem jn_lab (a b:Int):Lab (jn a b):=by
  unfold jn Lab
  split <;> simp
theorem joinL_lab:∀ (ls:List Int) (l:Int),Lab l→Lab (joinL ls l)
  | [],l,h=>h
  | x :: r,l,h=>joinL_lab r _ (jn_lab l x)
theorem faceOf_ok {E:Env} {x:ByteArray} {f:FaceD} (h:EnvOk E) (hf:faceOf E x=some f):FaceOk f:=by
  unfold faceOf at hf
  split at hf
  · cases hf;exact h.1
  · exact h.2 f (List.mem_of_find?_eq_some hf)
theorem varF_lab {E:Env} {L:List Loc} {x:ByteArray} {v:Int × Int} (h:EnvOk E) (hL:LabL L) (hv:varF E L x=some v):Lab v.1∧0≤v.2:=by
  unfold varF at hv
  split at hv
  · rename_i l hl
    cases hv
    exact ⟨hL l (List.mem_reverse.1 (List.mem_of_find?_eq_some hl)),Int.le_refl _⟩
  · split at hv
    · cases hv
    · rename_i f hf
      cases hq:varIn f.vars (ownOf x) with
      | none=>rw [hq] at hv;cases hv
      | some y =>
        rw [hq] at hv
        simp only [Option.map_some,Option.some.injEq] at hv
        rw [← hv]
        exact (faceOf_ok h hf).1 y (List.mem_of_find?_eq_some hq)
theorem procF_lab {E:Env} {x:ByteArray} {p:ProcD} (h:EnvOk E) (hp:procF E x=some p):(∀ l ∈ p.params,Lab l)∧Lab p.writes∧Lab p.given:=by
  unfold procF at hp
  split at hp
  · cases hp
  · rename_i f hf
    exact (faceOf_ok h hf).2 p (List.mem_of_find?_eq_some hp)
theorem ownF_lab {E:Env} {L:List Loc} {ctx:Int} {alone:Bool} {k:Int} {x:ByteArray} {ls:List Int} {a l:Int} (h:EnvOk E) (hL:LabL L) (ho:ownF E L ctx alone k x ls a=.ok l):Lab l:=by
  unfold ownF at ho
  split at ho
  · split at ho
    · cases ho
    · rename_i v hv
      split at ho
      · cases ho;exact (varF_lab h hL hv).1
      · cases ho
  · split at ho
    · split at ho
      · cases ho
      · split at ho
        · cases ho;exact jn_lab _ _
        · cases ho
    · split at ho
      · split at ho
        · cases ho
        · rename_i p hp
          split at ho
          · cases ho
          · split at ho
            · cases ho
            · split at ho
              · cases ho
              · split at ho
                · cases ho
                · cases ho;exact (procF_lab h hp).2.2
      · cases ho;exact joinL_lab _ _ (.inl rfl)
theorem exF_lab {E:Env} {L:List Loc} {ctx:Int} {alone:Bool} {t:Tree} {a:Int} {q:Int × Int} (h:EnvOk E) (hL:LabL L) (ht:exF E L ctx alone t a=.ok q):Lab q.1:=by
  obtain ⟨k,x,m,ks⟩:=t
  unfold exF at ht
  split at ht
  · cases ht
  · split at ht
    · cases ht
    · rename_i l hl
      cases ht
      exact ownF_lab h hL hl
theorem jn0 {l:Int} (h:Lab l):jn 0 l=l:=by
  rcases h with rfl | rfl <;> decide
theorem exL_one (E:Env) (L:List Loc) (ctx:Int) (t:Tree) (a:Int):exL E L ctx [t] a=match exF E L ctx false t a with
    | .bad c b=>.bad c b
    | .ok q=>.ok ([q.1],q.2):=by
  simp only [exL]
  cases exF E L ctx false t a <;> rfl
theorem flows2 {to v c:Int} (h1:Lab to) (h2:Lab v) (h3:Lab c):(flows to [v,c]=false)=(to≠1∧hi v c 0=true):=by
  rcases h1 with rfl | rfl <;> rcases h2 with rfl | rfl <;> rcases h3 with rfl | rfl <;> decide
theorem flows3 {to v i c:Int} (h1:Lab to) (h2:Lab v) (h3:Lab i) (h4:Lab c):(flows to [v,i,c]=false)=(to≠1∧hi v i c=true):=by
  rcases h1 with rfl | rfl <;> rcases h2 with rfl | rfl <;> rcases h3 with rfl | rfl <;> rcases h4 with rfl | rfl <;> decide
theorem flows1 {to c:Int} (h1:Lab to) (h2:Lab c):(flows to [c]=false)=(to≠1∧c≠0):=by
  rcases h1 with rfl | rfl <;> rcases h2 with rfl | rfl <;> decide
theorem plF_at {E:Env} {L:List Loc} {ctx:Int} {t:Tree} {a:Int} {q:Int × Int × Int} (h:plF E L ctx t a=.ok q):q.2.2=a+cntT t:=by
  obtain ⟨k,x,m,ks⟩:=t
  simp only [plF] at h
  split at h
  · cases h
  · rename_i s hs
    split at h
    · cases h
    · cases h
      have:=exL_at E L ctx ks _ _ hs
      show s.2=_
      rw [show cntT (.node k x m ks)=cntL ks+1 by unfold cntT;rfl]
      omega
def Ext (deep:Int) (L L':List Loc):Prop:=∃ M,L'=L++M∧∀ m ∈ M,m.deep=deep∧Lab m.label
theorem Ext.refl (deep:Int) (L:List Loc):Ext deep L L:=⟨[],by simp,fun m hm=>by cases hm⟩
theorem Ext.trans {deep:Int} {L L1 L2:List Loc} (h1:Ext deep L L1) (h2:Ext deep L1 L2):Ext deep L L2:=by
  obtain ⟨M1,rfl,g1⟩:=h1
  obtain ⟨M2,rfl,g2⟩:=h2
  refine ⟨M1++M2,by simp,fun m hm=>?_⟩
  rcases List.mem_append.1 hm with h | h
  · exact g1 m h
  · exact g2 m h
theorem Ext.lab {deep:Int} {L L':List Loc} (h:Ext deep L L') (hL:LabL L):LabL L':=by
  obtain ⟨M,rfl,g⟩:=h
  intro l hl
  rcases List.mem_append.1 hl with h | h
  · exact hL l h
  · exact (g l h).2
theorem Ext.take {deep:Int} {L L':List Loc} (h:Ext deep L L'):L'.take L.length=L:=by
  obtain ⟨M,rfl,g⟩:=h
  simp
theorem Ext.len {deep:Int} {L L':List Loc} (h:Ext deep L L'):L.length≤L'.length:=by
  obtain ⟨M,rfl,g⟩:=h
  simp
theorem bI_lab (l:Bool):Lab (bI l):=by
  cases l
  · exact .inl rfl
  · exact .inr rfl
theorem cntN (k:Int) (x:ByteArray) (m:Int) (ks:List Tree):cntT (.node k x m ks)=cntL ks+1:=by
  unfold cntT
  rfl
theorem cntL_one (t:Tree):cntL [t]=cntT t:=by
  show cntT t+cntL []=_
  simp [cntL]
section
variable (E:Env) (p:Pr)
theorem simF_ok {L:List Loc} {ctx deep:Int} {last:Bool} {k:Int} {x:ByteArray} {m:Int} {ks:List Tree} {a:Int} {q:List Loc × Int} (hs:StT (.node k x m ks)) (hk:¬ (k=10∨k=11)) (h:simF E p L ctx deep last k x m ks a=.ok q):Ext deep L q.1∧q.2=a+cntT (.node k x m ks)∧(L.length≤20→q.1.length≤20):=by
  rw [cntN]
  unfold simF at h
  cases hs with
  | loc l hx he =>
    rw [if_pos rfl] at h
    split at h
    · cases h
    · rename_i s hq
      have:=(exL_at E L ctx _ _ _ hq).1
      split at h
      · cases h
      · split at h
        · cases h
        · split at h
          · cases h
          · cases h
            refine ⟨⟨_,rfl,fun m hm=>?_⟩,by show s.2=_;omega,fun _=>by simp;omega⟩
            simp only [List.mem_singleton] at hm
            subst hm
            exact ⟨rfl,bI_lab l⟩
  | set hp he =>
    rw [if_neg (by decide),if_pos rfl] at h
    dsimp only at h
    split at h
    · cases h
    · rename_i s hq
      have h1:=plF_at hq
      split at h
      · cases h
      · rename_i s2 hq2
        have h2:=exF_at E L ctx _ _ _ _ hq2
        split at h
        · cases h
        · cases h
          refine ⟨Ext.refl _ _,?_,id⟩
          show s2.2=_
          show _=a+(cntT _+(cntT _+cntL [])+1)
          simp only [cntL]
          omega
  | dd hc =>
    rw [if_neg (by decide),if_neg (by decide),if_pos rfl] at h
    dsimp only at h
    split at h
    · cases h
    · rename_i s hq
      have h1:=exF_at E L ctx _ _ _ _ hq
      cases h
      refine ⟨Ext.refl _ _,?_,id⟩
      show s.2=_
      rw [cntL_one]
      omega
  | ift _ _=>exact absurd (.inl rfl) hk
  | ife _ _ _=>exact absurd (.inl rfl) hk
  | whi _ _=>exact absurd (.inr rfl) hk
  | out l he =>
    rw [if_neg (by decide),if_neg (by decide),if_neg (by decide),if_pos rfl] at h
    split at h
    · cases h
    · rename_i s hq
      have:=(exL_at E L ctx _ _ _ hq).1
      split at h
      · cases h
      · cases h
        exact ⟨Ext.refl _ _,by show s.2=_;omega,id⟩
  | inn l hp =>
    rw [if_neg (by decide),if_neg (by decide),if_neg (by decide),if_neg (by decide),if_pos rfl] at h
    dsimp only at h
    split at h
    · cases h
    · rename_i s hq
      have h1:=plF_at hq
      split at h
      · cases h
      · split at h
        · cases h
        · cases h
          refine ⟨Ext.refl _ _,?_,id⟩
          show s.2.2=_
          rw [cntL_one]
          omega
  | ret he =>
    rw [if_neg (by decide),if_neg (by decide),if_neg (by decide),if_neg (by decide),if_neg (by decide)] at h
    split at h
    · cases h
    · rename_i s hq
      have:=(exL_at E L ctx _ _ _ hq).1
      split at h
      · cases h
      · split at h
        · cases h
        · cases h
          exact ⟨Ext.refl _ _,by show s.2=_;omega,id⟩
theorem StT.blocks {k:Int} {x:ByteArray} {m:Int} {e:Tree} {r:List Tree} (h:StT (.node k x m (e :: r))) (hk:k=10∨k=11):ExT e∧∀ t ∈ r,BlT t:=by
  cases h with
  | loc l hx he=>omega
  | set hp he=>omega
  | dd hc=>omega
  | ift he hb=>exact ⟨he,fun t ht=>by simp only [List.mem_singleton] at ht;subst ht;exact hb⟩
  | ife he hb hc=>exact ⟨he,fun t ht=>by
      simp only [List.mem_cons,List.not_mem_nil,or_false] at ht
      rcases ht with rfl | rfl
      · exact hb
      · exact hc⟩
  | whi he hb=>exact ⟨he,fun t ht=>by simp only [List.mem_singleton] at ht;subst ht;exact hb⟩
  | out l he=>omega
  | inn l hp=>omega
  | ret he=>omega
theorem StT.some_kid {k:Int} {x:ByteArray} {m:Int} (h:StT (.node k x m [])):False:=by cases h
mutual
theorem stF_ok:∀ (t:Tree) (ctx deep:Int) (last:Bool) (L:List Loc) (a:Int) (q:List Loc × Int),StT t→stF E p ctx deep last t L a=.ok q→Ext deep L q.1∧q.2=a+cntT t∧(L.length≤20→q.1.length≤20)
  | .node k x m [],ctx,deep,last,L,a,q,hs,h=>hs.some_kid.elim
  | .node k x m (e :: r),ctx,deep,last,L,a,q,hs,h=>by
    unfold stF at h
    split at h
    · rename_i hk
      dsimp only at h
      split at h
      · cases h
      · rename_i s hq
        have h1:=exF_at E L ctx _ _ _ _ hq
        have h2:=blsF_ok r _ _ _ _ _ (hs.blocks hk).2 h
        rw [h2.1,h2.2,cntN]
        refine ⟨Ext.refl _ _,?_,id⟩
        show _=a+(cntT e+cntL r+1)
        omega
    · rename_i hk
      exact simF_ok E p hs hk h
theorem blsF_ok:∀ (ks:List Tree) (ctx deep:Int) (L:List Loc) (a:Int) (q:List Loc × Int),(∀ t ∈ ks,BlT t)→blsF E p ctx deep ks L a=.ok q→q.1=L∧q.2=a+cntL ks
  | [],ctx,deep,L,a,q,hs,h=>by
    simp only [blsF,Res.ok.injEq] at h
    rw [← h]
    exact ⟨rfl,by simp [cntL]⟩
  | t :: r,ctx,deep,L,a,q,hs,h=>by
    unfold blsF at h
    split at h
    · cases h
    · rename_i s hq
      have h1:=blF_ok t _ _ _ _ _ (hs t (List.mem_cons_self ..)) hq
      have h2:=blsF_ok r _ _ _ _ _ (fun t ht=>hs t (List.mem_cons_of_mem _ ht)) h
      rw [h2.1,h2.2,h1.1,h1.2]
      refine ⟨rfl,?_⟩
      show _=a+(cntT t+cntL r)
      omega
theorem blF_ok:∀ (t:Tree) (ctx deep:Int) (L:List Loc) (a:Int) (q:List Loc × Int),BlT t→blF E p ctx deep t L a=.ok q→q.1=L∧q.2=a+cntT t
  | .node k x m ks,ctx,deep,L,a,q,hs,h=>by
    unfold blF at h
    split at h
    · cases h
    · rename_i s hq
      have h1:=stsF_ok ks _ _ _ _ _ (by cases hs with | mk h=>exact h) hq
      cases h
      refine ⟨h1.1.take,?_⟩
      show s.2=_
      rw [h1.2.1,cntN]
      omega
theorem stsF_ok:∀ (ks:List Tree) (ctx deep:Int) (L:List Loc) (a:Int) (q:List Loc × Int),(∀ t ∈ ks,StT t)→stsF E p ctx deep ks L a=.ok q→Ext deep L q.1∧q.2=a+cntL ks∧(L.length≤20→q.1.length≤20)
  | [],ctx,deep,L,a,q,hs,h=>by
    simp only [stsF,Res.ok.injEq] at h
    rw [← h]
    exact ⟨Ext.refl _ _,by simp [cntL],id⟩
  | t :: r,ctx,deep,L,a,q,hs,h=>by
    unfold stsF at h
    split at h
    · cases h
    · rename_i s hq
      have h1:=stF_ok t _ _ _ _ _ _ (hs t (List.mem_cons_self ..)) hq
      have h2:=stsF_ok r _ _ _ _ _ (fun t ht=>hs t (List.mem_cons_of_mem _ ht)) h
      refine ⟨h1.1.trans h2.1,?_,fun h=>h2.2.2 (h1.2.2 h)⟩
      rw [h2.2.1,h1.2.1]
      show _=a+(cntT t+cntL r)
      omega
end
def stsN (ctx deep:Int):List Tree→List Loc→Int→Res (List Loc × Int)
  | [],L,a=>.ok (L,a)
  | t :: r,L,a=>match stF E p ctx deep false t L a with
    | .bad c b=>.bad c b
    | .ok q=>stsN ctx deep r q.1 q.2
theorem stsN_in (ctx deep:Int) (hd:deep≠1):∀ (ks:List Tree) (L:List Loc) (a:Int),stsF E p ctx deep ks L a=stsN E p ctx deep ks L a
  | [],L,a=>by simp only [stsF,stsN]
  | t :: r,L,a=>by
    unfold stsF stsN
    rw [show (decide (deep=1) && r.isEmpty)=false by simp [hd]]
    split
    · rename_i h;rw [h]
    · rename_i q h;rw [h];exact stsN_in ctx deep hd r _ _
theorem stF_last (ctx deep:Int) (last:Bool) (k:Int) (x:ByteArray) (m:Int) (ks:List Tree) (L:List Loc) (a:Int) (hs:StT (.node k x m ks)) (h:p.gives=false∨k≠14):stF E p ctx deep last (.node k x m ks) L a=stF E p ctx deep false (.node k x m ks) L a:=by
  unfold stF
  split
  · rfl
  · rename_i hk
    unfold simF
    cases hs with
    | ift _ _=>exact absurd (.inl rfl) hk
    | ife _ _ _=>exact absurd (.inl rfl) hk
    | whi _ _=>exact absurd (.inr rfl) hk
    | ret he =>
      have hg:p.gives=false:=by
        rcases h with h | h
        · exact h
        · exact absurd rfl h
      rw [hg]
      simp
    | _=>rfl
theorem stsN_none (ctx:Int) (hg:p.gives=false):∀ (ks:List Tree) (L:List Loc) (a:Int),(∀ t ∈ ks,StT t)→stsF E p ctx 1 ks L a=stsN E p ctx 1 ks L a
  | [],L,a,_=>by simp only [stsF,stsN]
  | .node k x m ks :: r,L,a,hs=>by
    unfold stsF stsN
    rw [stF_last E p ctx 1 _ k x m ks L a (hs _ (List.mem_cons_self ..)) (.inl hg)]
    split
    · rename_i h;rw [h]
    · rename_i q h;rw [h];exact stsN_none ctx hg r _ _ (fun t ht=>hs t (List.mem_cons_of_mem _ ht))
def retL:List Tree→Bool
  | []=>false
  | [.node k _ _ _]=>k==14
  | _ :: t :: r=>retL (t :: r)
theorem stsN_noret (ctx:Int):∀ (ks:List Tree) (L:List Loc) (a:Int),(∀ t ∈ ks,StT t)→retL ks=false→stsF E p ctx 1 ks L a=stsN E p ctx 1 ks L a
  | [],L,a,_,_=>by simp only [stsF,stsN]
  | [.node k x m ks],L,a,hs,hr=>by
    have hk:k≠14:=by
      intro e
      subst e
      simp [retL] at hr
    unfold stsF stsN
    rw [stF_last E p ctx 1 _ k x m ks L a (hs _ (List.mem_cons_self ..)) (.inr hk)]
    split
    · rename_i h;rw [h]
    · rename_i q h;rw [h];simp only [stsF,stsN]
  | t :: t2 :: r,L,a,hs,hr=>by
    unfold stsF stsN
    rw [show (decide ((1:Int)=1) && (t2 :: r).isEmpty)=false by simp]
    split
    · rename_i h;rw [h]
    · rename_i q h;rw [h];exact stsN_noret ctx (t2 :: r) _ _ (fun t ht=>hs t (List.mem_cons_of_mem _ ht)) (by simpa [retL] using hr)
theorem stsN_ret (ctx:Int) (z:Tree):∀ (ks:List Tree) (L:List Loc) (a:Int),stsF E p ctx 1 (ks++[z]) L a=match stsN E p ctx 1 ks L a with
    | .bad c b=>.bad c b
    | .ok q=>stF E p ctx 1 true z q.1 q.2
  | [],L,a=>by
    show stsF E p ctx 1 [z] L a=_
    unfold stsF stsN
    rw [show (decide ((1:Int)=1) && ([]:List Tree).isEmpty)=true by simp]
    dsimp only
    cases hX:stF E p ctx 1 true z L a with
    | bad c b=>rfl
    | ok q=>simp only [stsF]
  | t :: r,L,a=>by
    show stsF E p ctx 1 (t :: (r++[z])) L a=_
    unfold stsF stsN
    rw [show (decide ((1:Int)=1) && (r++[z]).isEmpty)=false by simp]
    cases stF E p ctx 1 false t L a with
    | bad c b=>rfl
    | ok q=>exact stsN_ret ctx z r _ _
theorem stsN_ok:∀ (ks:List Tree) (ctx deep:Int) (L:List Loc) (a:Int) (q:List Loc × Int),(∀ t ∈ ks,StT t)→stsN E p ctx deep ks L a=.ok q→Ext deep L q.1∧q.2=a+cntL ks∧(L.length≤20→q.1.length≤20)
  | [],ctx,deep,L,a,q,hs,h=>by
    simp only [stsN,Res.ok.injEq] at h
    rw [← h]
    exact ⟨Ext.refl _ _,by simp [cntL],id⟩
  | t :: r,ctx,deep,L,a,q,hs,h=>by
    unfold stsN at h
    split at h
    · cases h
    · rename_i s hq
      have h1:=stF_ok E p t _ _ _ _ _ _ (hs t (List.mem_cons_self ..)) hq
      have h2:=stsN_ok r _ _ _ _ _ (fun t ht=>hs t (List.mem_cons_of_mem _ ht)) h
      refine ⟨h1.1.trans h2.1,?_,fun h=>h2.2.2 (h1.2.2 h)⟩
      rw [h2.2.1,h1.2.1]
      show _=a+(cntT t+cntL r)
      omega
end
structure InvL (L:List Loc) (deep:Int) (first:Nat):Prop where
  le:first≤L.length
  out:∀ l ∈ L.take first,l.deep<deep
  inn:∀ l ∈ L.drop first,l.deep=deep
theorem InvL.any {L:List Loc} {deep:Int} {first:Nat} (h:InvL L deep first) (x:ByteArray):L.any (fun l=>l.deep==deep && eqS l.name x)=((vsOf L).drop first).any (fun o=>eqS o.name x):=by
  have h1:L.any (fun l=>l.deep==deep && eqS l.name x)=(L.take first++L.drop first).any (fun l=>l.deep==deep && eqS l.name x):=by rw [List.take_append_drop]
  rw [h1,List.any_append]
  have h2:(L.take first).any (fun l=>l.deep==deep && eqS l.name x)=false:=by
    rw [List.any_eq_false]
    intro l hl
    have:=h.out l hl
    have h3:(l.deep==deep)=false:=by simp;omega
    simp [h3]
  rw [h2,Bool.false_or]
  unfold vsOf
  rw [← List.map_drop,List.any_map]
  have h4:∀ l ∈ L.drop first,(l.deep==deep && eqS l.name x)=eqS l.name x:=fun l hl=>by simp [h.inn l hl]
  generalize L.drop first=M at h4
  clear h1 h2 h
  induction M with
  | nil=>rfl
  | cons y r ih =>
    rw [List.any_cons,List.any_cons,ih (fun l hl=>h4 l (List.mem_cons_of_mem _ hl)),h4 y (List.mem_cons_self ..)]
    rfl
theorem InvL.ext {L L':List Loc} {deep:Int} {first:Nat} (h:InvL L deep first) (he:Ext deep L L'):InvL L' deep first:=by
  obtain ⟨M,rfl,g⟩:=he
  refine ⟨by have:=h.le;simp;omega,?_,?_⟩
  · rw [List.take_append_of_le_length h.le];exact h.out
  · rw [List.drop_append_of_le_length h.le]
    intro l hl
    rcases List.mem_append.1 hl with h1 | h1
    · exact h.inn l h1
    · exact (g l h1).1
theorem InvL.enter {L:List Loc} {deep:Int} {first:Nat} (h:InvL L deep first):InvL L (deep+1) L.length:=by
  refine ⟨jE _,?_,?_⟩
  · intro l hl
    rw [List.take_length] at hl
    rw [← List.take_append_drop first L] at hl
    rcases List.mem_append.1 hl with h1 | h1
    · have:=h.out l h1;omega
    · have:=h.inn l h1;omega
  · intro l hl
    rw [List.drop_length] at hl
    cases hl
end Go.Proofs.YtfopddgjdaoidaaGreatDoor.chk
