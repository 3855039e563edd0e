/- What the law's high answers: a contract. -/
import Derived.Test.YthdgbmjcacephaaGreatDoorNP46
import Derived.Test.YthdgbmjcacephaaGreatDoorNP47
import Derived.Test.YthdgbmjcacephaaGreatDoorNPq
namespace Go.Proofs.YthdgbmjcacephaaGreatDoor.chk
open Go.RowKit Go.Shelf Go.Maps
open Go.Proofs.YthdgbmjcacephaaGreatDoor.syn Go.Proofs.YthdgbmjcacephaaGreatDoor.face
set_option linter.unusedVariables false
set_option linter.unusedSimpArgs false
def badF:List FaceD→List FaceD→Bool
  | _,[]=>false
  | seen,f :: r=>(seen.any (fun q=>eqS q.module f.module) || !mayB f) || badF (seen++[f]) r
def nz (q:Int × Int):Int × Int:=if q.1=0 then (0,0) else q
def ckF (x:ByteArray) (fs:List FaceD) (m:ByteArray) (K:List Kid):Int × Int :=
  if badF [] fs=true then (2,0) else if (parse x).code≠0 then ((parse x).code,(parse x).place) else
    match lookK m K [] [] 1 with
    | some q=>q
    | none=>nz ((moF (faceK true m K) fs K [] 1).getD (0,0))
def gfOf (l:List FV) (z:ByteArray):Option FV:=l.find? fun q=>eqS q.1.module z
theorem gfOf_fst (l:List FV) (z:ByteArray):(gfOf l z).map (·.1)=(l.map (·.1)).find? (fun f=>eqS f.module z):=by
  unfold gfOf
  rw [List.find?_map]
  rfl
theorem gfOf_snoc (l:List FV) (q:FV) (h:(l.map (·.1)).any (fun p=>eqS p.module q.1.module)=false):(fun z=>if eqS z q.1.module then some (fvV q) else fvO (gfOf l z))=fun z=>fvO (gfOf (l++[q]) z):=by
  funext z
  unfold gfOf
  rw [List.find?_append]
  cases he:eqS z q.1.module with
  | true =>
    obtain rfl:=eqS_list.1 he
    have hn:l.find? (fun p=>eqS p.1.module q.1.module)=none:=by
      rw [List.find?_eq_none]
      intro p hp
      rw [List.any_eq_false] at h
      exact h p.1 (List.mem_map.2 ⟨p,hp,rfl⟩)
    rw [hn,if_pos rfl]
    simp [List.find?,eqS_list.2 rfl,fvO]
  | false =>
    have hn:eqS q.1.module z=false:=by
      cases h3:eqS q.1.module z with
      | false=>rfl
      | true=>rw [eqS_list.1 h3,eqS_list.2 rfl] at he;cases he
    rw [if_neg (by decide)]
    congr 1
    simp [List.find?,hn]
theorem gfOf_none (l:List FV) (z:ByteArray):(gfOf l z).isSome=(l.map (·.1)).any (fun p=>eqS p.module z):=by
  unfold gfOf
  rw [List.any_map,List.isSome_find?]
  rfl
def FacesIn (w:World) (v:Value) (qs:List FV):Prop:=∃ a c,v=.slice a qs.length c∧qs.length≤1000000000∧(qs≠[]→∃ g o,a=some ⟨g,o,none⟩∧∀ i (h:i<qs.length),w.cell? ⟨g,o+i * 3,none⟩=some (.string qs[i].1.module)∧w.cell? ⟨g,o+i * 3+1,none⟩=some qs[i].2.1∧w.cell? ⟨g,o+i * 3+2,none⟩=some qs[i].2.2∧FaceIn w (fvV qs[i]) qs[i].1∧qs[i].1.module.size≤maxLen)
theorem mayB_ok {f:FaceD} (h:mayB f=true):FaceOk f:=by
  unfold mayB at h
  simp only [Bool.and_eq_true] at h
  obtain ⟨_,_,hv,hp,_⟩:=h
  refine ⟨fun v hm=>?_,fun p hm=>?_⟩
  · have:=List.all_eq_true.1 hv v hm
    unfold mayVarB labelB at this
    simp only [Bool.and_eq_true,Bool.or_eq_true,beq_iff_eq,decide_eq_true_eq] at this
    exact ⟨this.2.2.1,this.2.2.2.1⟩
  · have:=List.all_eq_true.1 hp p hm
    unfold mayProcB labelB at this
    simp only [Bool.and_eq_true,Bool.or_eq_true,beq_iff_eq,decide_eq_true_eq,List.all_eq_true] at this
    obtain ⟨_,_,_,h1,h2,h3,_⟩:=this
    exact ⟨fun l hl=>h1 l hl,h2,h3⟩
theorem badF_may:∀ (fs seen:List FaceD),badF seen fs=false→∀ f ∈ fs,mayB f=true
  | [],_,_,f,hf=>by cases hf
  | a :: r,seen,h,f,hf=>by
    unfold badF at h
    simp only [Bool.or_eq_false_iff,Bool.not_eq_false'] at h
    rcases List.mem_cons.1 hf with rfl | hf
    · exact h.1.2
    · exact badF_may r _ h.2 f hf
theorem badF_step (fs:List FaceD) (j:Nat) (hj:j<fs.length):badF (fs.take j) (fs.drop j)=(((fs.take j).any (fun q=>eqS q.module fs[j].module) || !mayB fs[j]) || badF (fs.take (j+1)) (fs.drop (j+1))):=by
  rw [List.drop_eq_getElem_cons hj,List.take_succ_eq_append_getElem hj]
  rfl
theorem rangeF_ok {n:Option Int} {a:Int} (h:rangeF n a=none):0≤n.getD 0:=by
  cases n with
  | none=>simp
  | some k =>
    simp only [rangeF] at h
    split at h
    · cases h
    · simp only [Option.getD_some]
      omega
theorem lookK_kids (m:ByteArray):∀ (K:List Kid) (is ns:List ByteArray) (a:Int),lookK m K is ns a=none→∀ k ∈ K,match k with
    | .imp _=>True
    | .var _ _ _ n=>0≤n.getD 0
    | .proc _ _ _ _ ps _=>ps.length≤5
  | [],_,_,_,_,k,hk=>by cases hk
  | .imp x :: r,is,ns,a,h,k,hk=>by
    unfold lookK at h
    split at h
    · cases h
    · split at h
      · cases h
      · rcases List.mem_cons.1 hk with rfl | hk
        · trivial
        · exact lookK_kids m r _ _ _ h k hk
  | .var x p l n :: r,is,ns,a,h,k,hk=>by
    unfold lookK at h
    split at h
    · cases h
    · split at h
      · cases h
      · split at h
        · cases h
        · rename_i hr
          rcases List.mem_cons.1 hk with rfl | hk
          · exact rangeF_ok hr
          · exact lookK_kids m r _ _ _ h k hk
  | .proc x p l g ps b :: r,is,ns,a,h,k,hk=>by
    unfold lookK at h
    split at h
    · cases h
    · split at h
      · cases h
      · split at h
        · cases h
        · rename_i h5
          split at h
          · cases h
          · rcases List.mem_cons.1 hk with rfl | hk
            · show ps.length≤5
              omega
            · exact lookK_kids m r _ _ _ h k hk
theorem parF_code:∀ (ps:List (ByteArray × Bool)) (seen:List ByteArray) (a:Int) (q:Int × Int),parF seen ps a=some q→q.1=5
  | [],_,_,_,h=>by cases h
  | x :: r,seen,a,q,h=>by
    unfold parF at h
    split at h
    · cases h;rfl
    · exact parF_code r _ _ q h
theorem lookK_code (m:ByteArray):∀ (K:List Kid) (is ns:List ByteArray) (a:Int) (q:Int × Int),lookK m K is ns a=some q→q.1=5∨q.1=1∨q.1=6
  | [],_,_,_,_,h=>by cases h
  | .imp x :: r,is,ns,a,q,h=>by
    unfold lookK at h
    split at h
    · cases h;exact .inl rfl
    · split at h
      · cases h;exact .inr (.inl rfl)
      · exact lookK_code m r _ _ _ q h
  | .var x p l n :: r,is,ns,a,q,h=>by
    unfold lookK at h
    split at h
    · cases h;exact .inl rfl
    · split at h
      · cases h;exact .inr (.inl rfl)
      · split at h
        · rename_i e he
          cases h
          cases n with
          | none=>cases he
          | some k =>
            simp only [rangeF] at he
            split at he
            · cases he;exact .inr (.inr rfl)
            · cases he
        · exact lookK_code m r _ _ _ q h
  | .proc x p l g ps b :: r,is,ns,a,q,h=>by
    unfold lookK at h
    split at h
    · cases h;exact .inl rfl
    · split at h
      · cases h;exact .inr (.inl rfl)
      · split at h
        · cases h;exact .inr (.inl rfl)
        · split at h
          · rename_i e he
            cases h
            exact .inl (parF_code _ _ _ _ he)
          · exact lookK_code m r _ _ _ q h
theorem varsK_mem (all:Bool):∀ (K:List Kid) (v:VarD),v ∈ varsK all K→∃ x p l n,Kid.var x p l n ∈ K∧v=varD x p l n
  | [],v,h=>by cases h
  | .imp x :: r,v,h=>by
    obtain ⟨a,b,c,d,h1,h2⟩:=varsK_mem all r v h
    exact ⟨a,b,c,d,List.mem_cons_of_mem _ h1,h2⟩
  | .proc x p l g ps b :: r,v,h=>by
    obtain ⟨a,b,c,d,h1,h2⟩:=varsK_mem all r v h
    exact ⟨a,b,c,d,List.mem_cons_of_mem _ h1,h2⟩
  | .var x p l n :: r,v,h=>by
    have:v=varD x p l n∨v ∈ varsK all r:=by
      unfold varsK at h
      split at h
      · exact List.mem_cons.1 h
      · exact .inr h
    rcases this with rfl | h
    · exact ⟨x,p,l,n,List.mem_cons_self ..,rfl⟩
    · obtain ⟨a,b,c,d,h1,h2⟩:=varsK_mem all r v h
      exact ⟨a,b,c,d,List.mem_cons_of_mem _ h1,h2⟩
theorem procsK_mem (all:Bool):∀ (K:List Kid) (q:ProcD),q ∈ procsK all K→∃ x p l g ps,q=procD x p l g ps
  | [],v,h=>by cases h
  | .imp x :: r,v,h=>procsK_mem all r v h
  | .var x p l n :: r,v,h=>procsK_mem all r v h
  | .proc x p l g ps b :: r,v,h=>by
    have:v=procD x p l g ps∨v ∈ procsK all r:=by
      unfold procsK at h
      split at h
      · exact List.mem_cons.1 h
      · exact .inr h
    rcases this with rfl | h
    · exact ⟨x,p,l,g,ps,rfl⟩
    · exact procsK_mem all r v h
theorem own_ok {m:ByteArray} {K:List Kid} (h:lookK m K [] [] 1=none):FaceOk (faceK true m K):=by
  refine ⟨fun v hv=>?_,fun q hq=>?_⟩
  · obtain ⟨x,p,l,n,h1,rfl⟩:=varsK_mem true K v hv
    have:=lookK_kids m K _ _ _ h _ h1
    exact ⟨bI_lab _,this⟩
  · obtain ⟨x,p,l,g,ps,rfl⟩:=procsK_mem true K q hq
    exact procD_lab x p l g ps
theorem kids_ok {m:ByteArray} {K:List Kid} (h:lookK m K [] [] 1=none) (hK:∀ k ∈ K,k.good∧k.named∧deepK k):∀ k ∈ K,k.good∧kidOk k:=by
  intro k hk
  obtain ⟨h1,h2,h3⟩:=hK k hk
  have h4:=lookK_kids m K _ _ _ h k hk
  refine ⟨h1,?_⟩
  cases k with
  | imp x=>exact h2
  | var x p l n=>exact h4
  | proc x p l g ps b=>exact ⟨by have h5:ps.length≤5:=h4;omega,h1.2.2,h3⟩
end Go.Proofs.YthdgbmjcacephaaGreatDoor.chk
namespace Go.Proofs.YthdgbmjcacephaaGreatDoor.chk
open Go.Proofs.YthdgbmjcacephaaGreatDoor.syn Go.Proofs.YthdgbmjcacephaaGreatDoor.face
set_option linter.unusedVariables false
set_option linter.unusedSimpArgs false
set_option linter.unusedSectionVars false
def isH (k m:Int):Bool:=(k==3 && m.tmod 2==1) || (k==4 && (m.tmod 2==1 || decide (8≤m))) || ((k==5 || k==7 || k==12 || k==13) && m==1)
mutual
def highT:Tree→Bool
  | .node k _ m ks=>isH k m || highL ks
def highL:List Tree→Bool
  | []=>false
  | t :: r=>highT t || highL r
end
theorem highL_mem:∀ {ks:List Tree},highL ks=false→∀ t ∈ ks,highT t=false
  | [],_,t,ht=>by cases ht
  | a :: r,h,t,ht=>by
    unfold highL at h
    rw [Bool.or_eq_false_iff] at h
    rcases List.mem_cons.1 ht with rfl | ht
    · exact h.1
    · exact highL_mem h.2 t ht
theorem highT_kids {k:Int} {x:ByteArray} {m:Int} {ks:List Tree} (h:highT (.node k x m ks)=false):isH k m=false∧∀ t ∈ ks,highT t=false:=by
  unfold highT at h
  rw [Bool.or_eq_false_iff] at h
  exact ⟨h.1,highL_mem h.2⟩
structure LowE (E:Env):Prop where
  v:∀ v ∈ E.own.vars,v.label=0
  p:∀ p ∈ E.own.procs,p.given=0
  f:E.faces=[]
def LowL (L:List Loc):Prop:=∀ l ∈ L,l.label=0
def Lo {α:Type} (P:α→Prop):Res α→Prop
  | .bad c _=>c≠7
  | .ok x=>P x
theorem lo_bad {α:Type} {P:α→Prop} {c b:Int} (h:c≠7):Lo P (.bad c b):=h
section
variable {E:Env} {L:List Loc} (hE:LowE E) (hL:LowL L)
include hE
theorem faceOf_low {x:ByteArray} {f:FaceD} (h:faceOf E x=some f):f=E.own:=by
  unfold faceOf at h
  split at h
  · cases h;rfl
  · rw [hE.f] at h
    cases h
theorem procF_low {x:ByteArray} {p:ProcD} (h:procF E x=some p):p.given=0:=by
  unfold procF at h
  split at h
  · cases h
  · rename_i f hf
    rw [faceOf_low hE hf] at h
    exact hE.p p (List.mem_of_find?_eq_some h)
include hL
theorem varF_low {x:ByteArray} {v:Int × Int} (h:varF E L x=some v):v.1=0:=by
  unfold varF at h
  split at h
  · rename_i l hl
    cases h
    exact hL l (List.mem_reverse.1 (List.mem_of_find?_eq_some hl))
  · split at h
    · cases h
    · rename_i f hf
      rw [faceOf_low hE hf] at h
      cases hq:varIn E.own.vars (ownOf x) with
      | none=>rw [hq] at h;cases h
      | some y =>
        rw [hq] at h
        simp only [Option.map_some,Option.some.injEq] at h
        rw [← h]
        exact hE.v y (List.mem_of_find?_eq_some hq)
omit hE hL in
theorem joinL_low:∀ ls:List Int,(∀ l ∈ ls,l=0)→joinL ls 0=0
  | [],_=>rfl
  | x :: r,h=>by
    show joinL r (jn 0 x)=0
    rw [h x (List.mem_cons_self ..)]
    exact joinL_low r (fun l hl=>h l (List.mem_cons_of_mem _ hl))
omit hE hL in
theorem argsOk_low:∀ (ps ls:List Int),(∀ l ∈ ls,l=0)→argsOk ps ls=true
  | [],[],_=>rfl
  | [],_ :: _,_=>rfl
  | _ :: _,[],_=>rfl
  | p :: r,l :: s,h=>by
    show ((p==1 || l==0) && argsOk r s)=true
    rw [h l (List.mem_cons_self ..),argsOk_low r s (fun x hx=>h x (List.mem_cons_of_mem _ hx))]
    simp
theorem ownF_low (alone:Bool) (k:Int) (x:ByteArray) (ls:List Int) (a:Int) (h:∀ l ∈ ls,l=0):Lo (fun l:Int=>l=0) (ownF E L 0 alone k x ls a):=by
  unfold ownF
  split
  · split
    · exact lo_bad (by decide)
    · rename_i v hv
      split
      · exact varF_low hE hL hv
      · exact lo_bad (by decide)
  · split
    · split
      · exact lo_bad (by decide)
      · rename_i v hv
        split
        · show jn (joinL ls 0) v.1=0
          rw [joinL_low ls h,varF_low hE hL hv]
          rfl
        · exact lo_bad (by decide)
    · split
      · split
        · exact lo_bad (by decide)
        · rename_i p hp
          split
          · exact lo_bad (by decide)
          · split
            · exact lo_bad (by decide)
            · rw [if_neg (by rw [argsOk_low _ _ h];decide),if_neg (fun e=>e.2 rfl)]
              exact procF_low hE hp
      · exact joinL_low ls h
mutual
theorem exF_low:∀ (t:Tree) (alone:Bool) (a:Int),Lo (fun q:Int × Int=>q.1=0) (exF E L 0 alone t a)
  | .node k x m ks,alone,a=>by
    unfold exF
    have h1:=exL_low ks (a+1)
    cases hX:exL E L 0 ks (a+1) with
    | bad c b=>rw [hX] at h1;exact h1
    | ok q =>
      rw [hX] at h1
      have h2:=ownF_low hE hL alone k x q.1 a h1
      dsimp only
      cases hY:ownF E L 0 alone k x q.1 a with
      | bad c b=>rw [hY] at h2;exact h2
      | ok l=>rw [hY] at h2;exact h2
theorem exL_low:∀ (ks:List Tree) (a:Int),Lo (fun q:List Int × Int=>∀ l ∈ q.1,l=0) (exL E L 0 ks a)
  | [],a=>by
    unfold exL
    intro l hl
    cases hl
  | t :: r,a=>by
    unfold exL
    have h1:=exF_low t false a
    cases hX:exF E L 0 false t a with
    | bad c b=>rw [hX] at h1;exact h1
    | ok q =>
      rw [hX] at h1
      dsimp only
      have h2:=exL_low r q.2
      cases hY:exL E L 0 r q.2 with
      | bad c b=>rw [hY] at h2;exact h2
      | ok s =>
        rw [hY] at h2
        intro l hl
        rcases List.mem_cons.1 hl with rfl | hl
        · exact h1
        · exact h2 l hl
end
theorem plF_low (t:Tree) (a:Int):Lo (fun q:Int × Int × Int=>q.1=0∧q.2.1=0) (plF E L 0 t a):=by
  obtain ⟨k,x,m,ks⟩:=t
  simp only [plF]
  have h1:=exL_low hE hL ks (a+1)
  cases hX:exL E L 0 ks (a+1) with
  | bad c b=>rw [hX] at h1;exact h1
  | ok q =>
    rw [hX] at h1
    have h2:=ownF_low hE hL false k x q.1 a h1
    dsimp only
    cases hY:ownF E L 0 false k x q.1 a with
    | bad c b=>rw [hY] at h2;exact h2
    | ok l =>
      refine ⟨?_,joinL_low _ h1⟩
      show ((varF E L x).map (·.1)).getD 0=0
      cases hv:varF E L x with
      | none=>rfl
      | some v=>exact varF_low hE hL hv
end
section
variable {E:Env} (hE:LowE E) (p:Pr) (hp:p.given=0)
include hE
theorem simF_low {L:List Loc} (hL:LowL L) (deep:Int) (last:Bool) {k:Int} {x:ByteArray} {m:Int} {ks:List Tree} (hs:StT (.node k x m ks)) (hk:¬ (k=10∨k=11)) (hh:isH k m=false) (a:Int):Lo (fun q:List Loc × Int=>LowL q.1) (simF E p L 0 deep last k x m ks a):=by
  unfold simF
  cases hs with
  | loc l hx he =>
    rename_i et
    rw [if_pos rfl]
    have h1:=exL_low hE hL [et] (a+1)
    split
    · rename_i hq;rw [hq] at h1;exact h1
    · rename_i q hq
      rw [hq] at h1
      split
      · exact lo_bad (by decide)
      · split
        · exact lo_bad (by decide)
        · rw [joinL_low _ h1,if_neg (fun e=>absurd e.2 (by decide))]
          intro y hy
          rcases List.mem_append.1 hy with hy | hy
          · exact hL y hy
          · simp only [List.mem_singleton] at hy
            subst hy
            cases l with
            | false=>rfl
            | true=>exact absurd hh (by decide)
  | set hpl he =>
    rw [if_neg (by decide),if_pos rfl]
    dsimp only
    rename_i pt et
    have h1:=plF_low hE hL pt (a+1)
    split
    · rename_i hq;rw [hq] at h1;exact h1
    · rename_i q hq
      rw [hq] at h1
      have h2:=exF_low hE hL et false q.2.2
      split
      · rename_i hq2;rw [hq2] at h2;exact h2
      · rename_i s hq2
        rw [hq2] at h2
        rw [show s.1=0 from h2,h1.2,if_neg (fun e=>absurd e.2 (by decide))]
        exact hL
  | dd hc =>
    rw [if_neg (by decide),if_neg (by decide),if_pos rfl]
    dsimp only
    rename_i ct
    have h1:=exF_low hE hL ct true (a+1)
    split
    · rename_i hq;rw [hq] at h1;exact h1
    · exact hL
  | ift _ _=>exact absurd (.inl rfl) hk
  | ife _ _ _=>exact absurd (.inl rfl) hk
  | whi _ _=>exact absurd (.inr rfl) hk
  | out l he =>
    rename_i et
    rw [if_neg (by decide),if_neg (by decide),if_neg (by decide),if_pos rfl]
    have h1:=exL_low hE hL [et] (a+1)
    split
    · rename_i hq;rw [hq] at h1;exact h1
    · rename_i q hq
      rw [hq] at h1
      rw [joinL_low _ h1,if_neg (fun e=>absurd e.2 (by decide))]
      exact hL
  | inn l hpl =>
    rw [if_neg (by decide),if_neg (by decide),if_neg (by decide),if_neg (by decide),if_pos rfl]
    dsimp only
    rename_i pt
    have h1:=plF_low hE hL pt (a+1)
    split
    · rename_i hq;rw [hq] at h1;exact h1
    · rename_i q hq
      rw [hq] at h1
      have hl:bI l=0:=by
        cases l with
        | false=>rfl
        | true=>exact absurd hh (by decide)
      rw [if_neg (fun e=>e.2 rfl),hl,h1.2,if_neg (fun e=>absurd e.2 (by decide))]
      exact hL
  | ret he =>
    rename_i et
    rw [if_neg (by decide),if_neg (by decide),if_neg (by decide),if_neg (by decide),if_neg (by decide)]
    have h1:=exL_low hE hL [et] (a+1)
    split
    · rename_i hq;rw [hq] at h1;exact h1
    · rename_i q hq
      rw [hq] at h1
      split
      · exact lo_bad (by decide)
      · rw [joinL_low _ h1,if_neg (fun e=>e.2 rfl)]
        exact hL
mutual
theorem stF_low:∀ (t:Tree) (deep:Int) (last:Bool) (L:List Loc) (a:Int),LowL L→StT t→highT t=false→Lo (fun q:List Loc × Int=>LowL q.1) (stF E p 0 deep last t L a)
  | .node k x m [],deep,last,L,a,hL,hs,hh=>hs.some_kid.elim
  | .node k x m (e :: r),deep,last,L,a,hL,hs,hh=>by
    obtain ⟨h1,h2⟩:=highT_kids hh
    unfold stF
    split
    · rename_i hk
      dsimp only
      have h3:=exF_low hE hL e false (a+1)
      cases hX:exF E L 0 false e (a+1) with
      | bad c b=>rw [hX] at h3;exact h3
      | ok q =>
        rw [hX] at h3
        dsimp only
        rw [show q.1=0 from h3]
        exact blsF_low r (deep+1) L q.2 hL (hs.blocks hk).2 (fun t ht=>h2 t (List.mem_cons_of_mem _ ht))
    · rename_i hk
      exact simF_low hE p hL deep last hs hk h1 a
theorem blsF_low:∀ (ks:List Tree) (deep:Int) (L:List Loc) (a:Int),LowL L→(∀ t ∈ ks,BlT t)→(∀ t ∈ ks,highT t=false)→Lo (fun q:List Loc × Int=>LowL q.1) (blsF E p (jn 0 0) deep ks L a)
  | [],deep,L,a,hL,hs,hh=>by
    unfold blsF
    exact hL
  | t :: r,deep,L,a,hL,hs,hh=>by
    unfold blsF
    have h1:=blF_low t deep L a hL (hs t (List.mem_cons_self ..)) (hh t (List.mem_cons_self ..))
    rw [show jn 0 0=0 from rfl]
    cases hX:blF E p 0 deep t L a with
    | bad c b=>rw [hX] at h1;exact h1
    | ok q =>
      rw [hX] at h1
      exact blsF_low r deep q.1 q.2 h1 (fun t ht=>hs t (List.mem_cons_of_mem _ ht)) (fun t ht=>hh t (List.mem_cons_of_mem _ ht))
theorem blF_low:∀ (t:Tree) (deep:Int) (L:List Loc) (a:Int),LowL L→BlT t→highT t=false→Lo (fun q:List Loc × Int=>LowL q.1) (blF E p 0 deep t L a)
  | .node k x m ks,deep,L,a,hL,hs,hh=>by
    obtain ⟨_,h2⟩:=highT_kids hh
    unfold blF
    have h1:=stsF_low ks deep L (a+1) hL (by cases hs with | mk h=>exact h) h2
    cases hX:stsF E p 0 deep ks L (a+1) with
    | bad c b=>rw [hX] at h1;exact h1
    | ok q =>
      rw [hX] at h1
      intro l hl
      exact h1 l (List.mem_of_mem_take hl)
theorem stsF_low:∀ (ks:List Tree) (deep:Int) (L:List Loc) (a:Int),LowL L→(∀ t ∈ ks,StT t)→(∀ t ∈ ks,highT t=false)→Lo (fun q:List Loc × Int=>LowL q.1) (stsF E p 0 deep ks L a)
  | [],deep,L,a,hL,hs,hh=>by
    unfold stsF
    exact hL
  | t :: r,deep,L,a,hL,hs,hh=>by
    unfold stsF
    have h1:=stF_low t deep (decide (deep=1) && r.isEmpty) L a hL (hs t (List.mem_cons_self ..)) (hh t (List.mem_cons_self ..))
    cases hX:stF E p 0 deep (decide (deep=1) && r.isEmpty) t L a with
    | bad c b=>rw [hX] at h1;exact h1
    | ok q =>
      rw [hX] at h1
      exact stsF_low r deep q.1 q.2 h1 (fun t ht=>hs t (List.mem_cons_of_mem _ ht)) (fun t ht=>hh t (List.mem_cons_of_mem _ ht))
end
end
theorem kid_low {k:Kid} (h:highT k.tree=false):match k with
    | .imp _=>True
    | .var _ _ l _=>l=false
    | .proc _ _ l g ps b=>l=false∧bI (g.getD false)=0∧(∀ q ∈ ps,q.2=false)∧highT b=false:=by
  cases k with
  | imp x=>trivial
  | var x p l n =>
    cases l with
    | false=>rfl
    | true =>
      exfalso
      rw [Kid.tree_is] at h
      have:isH 3 (2 * bI p+bI true)=false:=(highT_kids h).1
      cases p <;> exact absurd this (by decide)
  | proc x p l g ps b =>
    unfold Kid.tree at h
    obtain ⟨h1,h2⟩:=highT_kids h
    refine ⟨?_,?_,fun q hq=>?_,h2 b (List.mem_append_right _ (List.mem_singleton.2 rfl))⟩
    · cases l with
      | false=>rfl
      | true =>
        exfalso
        rcases g with _ | _ | _ <;> cases p <;> exact absurd h1 (by decide)
    · rcases g with _ | _ | _
      · rfl
      · rfl
      · exfalso
        cases l <;> cases p <;> exact absurd h1 (by decide)
    · have h3:=h2 (parT q) (List.mem_append_left _ (List.mem_map.2 ⟨q,hq,rfl⟩))
      unfold parT at h3
      have h4:=(highT_kids h3).1
      cases hq2:q.2 with
      | false=>rfl
      | true=>rw [hq2] at h4;exact absurd h4 (by decide)
theorem moF_low (own:FaceD) (hE:LowE ⟨own,[]⟩):∀ (K:List Kid) (a:Int) (q:Int × Int),(∀ k ∈ K,deepK k)→(∀ k ∈ K,highT k.tree=false)→moF own [] K [] a=some q→q.1≠7
  | [],a,q,_,_,h=>by cases h
  | .imp x :: r,a,q,hd,hh,h=>by
    unfold moF at h
    cases h
    show (4:Int)≠7
    decide
  | .var x p l n :: r,a,q,hd,hh,h=>by
    unfold moF at h
    exact moF_low own hE r _ q (fun k hk=>hd k (List.mem_cons_of_mem _ hk)) (fun k hk=>hh k (List.mem_cons_of_mem _ hk)) h
  | .proc x p l g ps b :: r,a,q,hd,hh,h=>by
    obtain ⟨h1,h2,h3,h4⟩:=kid_low (hh _ (List.mem_cons_self ..))
    have h5:BlT b:=hd _ (List.mem_cons_self ..)
    have h6:LowL (parL ps):=by
      intro y hy
      obtain ⟨z,hz,rfl⟩:=List.mem_map.1 hy
      show bI z.2=0
      rw [h3 z hz]
      rfl
    obtain ⟨kb,xb,mb,sb⟩:=b
    have h7:=stsF_low hE ⟨(procD x p l g ps).gives,(procD x p l g ps).given⟩ sb 1 (parL ps) (a+1+ps.length+1) h6 (by cases h5 with | mk h=>exact h) (highT_kids h4).2
    unfold moF at h
    rw [prF_is,show (procD x p l g ps).writes=0 by rw [h1];rfl] at h
    cases hX:stsF ⟨own,[]⟩ ⟨(procD x p l g ps).gives,(procD x p l g ps).given⟩ 0 1 sb (parL ps) (a+1+ps.length+1) with
    | bad c d =>
      rw [hX] at h h7
      cases h
      exact h7
    | ok s =>
      rw [hX] at h
      dsimp only at h
      split at h
      · rename_i c d hc
        split at hc
        · cases hc;cases h;show (2:Int)≠7;decide
        · cases hc
      · exact moF_low own hE r _ q (fun k hk=>hd k (List.mem_cons_of_mem _ hk)) (fun k hk=>hh k (List.mem_cons_of_mem _ hk)) h
theorem own_low (m:ByteArray) (K:List Kid) (hh:∀ k ∈ K,highT k.tree=false):LowE ⟨faceK true m K,[]⟩:=by
  refine ⟨fun v hv=>?_,fun q hq=>?_,rfl⟩
  · obtain ⟨x,p,l,n,h1,rfl⟩:=varsK_mem true K v hv
    have:=kid_low (hh _ h1)
    show bI l=0
    rw [show l=false from this]
    rfl
  · obtain ⟨x,p,l,g,ps,b,h1,rfl⟩:∃ x p l g ps b,Kid.proc x p l g ps b ∈ K∧q=procD x p l g ps:=by
      have key:∀ (K:List Kid) (q:ProcD),q ∈ procsK true K→∃ x p l g ps b,Kid.proc x p l g ps b ∈ K∧q=procD x p l g ps:=by
        intro K
        induction K with
        | nil=>intro q h;cases h
        | cons k r ih =>
          intro q h
          cases k with
          | imp x =>
            obtain ⟨a1,a2,a3,a4,a5,a6,h1,h2⟩:=ih q h
            exact ⟨a1,a2,a3,a4,a5,a6,List.mem_cons_of_mem _ h1,h2⟩
          | var x p l n =>
            obtain ⟨a1,a2,a3,a4,a5,a6,h1,h2⟩:=ih q h
            exact ⟨a1,a2,a3,a4,a5,a6,List.mem_cons_of_mem _ h1,h2⟩
          | proc x p l g ps b =>
            have h9:q=procD x p l g ps∨q ∈ procsK true r:=by
              have:q ∈ procD x p l g ps :: procsK true r:=by simpa [procsK] using h
              exact List.mem_cons.1 this
            rcases h9 with rfl | h9
            · exact ⟨x,p,l,g,ps,b,List.mem_cons_self ..,rfl⟩
            · obtain ⟨a1,a2,a3,a4,a5,a6,h1,h2⟩:=ih q h9
              exact ⟨a1,a2,a3,a4,a5,a6,List.mem_cons_of_mem _ h1,h2⟩
      exact key K q hq
    exact (kid_low (hh _ h1)).2.1
theorem ckF_low (x:ByteArray) (m:ByteArray) (K:List Kid) (hc:(parse x).code=0) (ht:(parse x).tree=.node 1 m 0 (K.map Kid.tree)) (hd:∀ k ∈ K,deepK k) (hh:highT (parse x).tree=false):(ckF x [] m K).1≠7:=by
  have hk:∀ k ∈ K,highT k.tree=false:=fun k hk=>by
    rw [ht] at hh
    exact (highT_kids hh).2 _ (List.mem_map.2 ⟨k,hk,rfl⟩)
  unfold ckF
  rw [if_neg (by decide),if_neg (by simp [hc])]
  cases hl:lookK m K [] [] 1 with
  | some q =>
    have:=lookK_code m K _ _ _ q hl
    dsimp only
    omega
  | none =>
    dsimp only
    cases hm:moF (faceK true m K) [] K [] 1 with
    | none=>decide
    | some q =>
      have:=moF_low _ (own_low m K hk) K 1 q hd hk hm
      unfold nz
      dsimp only [Option.getD_some]
      split
      · decide
      · exact this
end Go.Proofs.YthdgbmjcacephaaGreatDoor.chk
namespace Go.Proofs.YthdgbmjcacephaaGreatDoor.chk
open Go.RowKit Go.Shelf
open Go.Proofs.YthdgbmjcacephaaGreatDoor.syn Go.Proofs.YthdgbmjcacephaaGreatDoor.face
set_option linter.unusedVariables false
set_option linter.unusedSimpArgs false
set_option maxRecDepth 100000
theorem highL_drop (ks:List Tree) (j:Nat) (hj:j<ks.length):highL (ks.drop j)=(highT ks[j] || highL (ks.drop (j+1))):=by
  rw [List.drop_eq_getElem_cons hj]
  simp only [highL]
set_option maxHeartbeats 40000000 in
theorem high_all (k m:Int) (x:ByteArray) (ks:List Tree) (a:Option Addr) (c:Nat) (w:World) (hl:ks.length≤4611686018427387904) (hk:ks≠[]→∃ g o,a=some ⟨g,o,none⟩∧g<w.heap.size∧LiesAt (·<w.heap.size) w ks g o)
    (ih:∀ j (hj:j<ks.length) (v:Value) (w:World),Lies (·<w.heap.size) w ks[j] v→Calls Tryz.prog 13 #[v] w fun e w'=>e=.returned (.bool (highT ks[j]))∧Below w.heap.size w w') :
    Calls Tryz.prog 13 #[.agg #[.int .i64 k,.string x,.int .i64 m,.slice a ks.length c]] w fun e w'=>e=.returned (.bool (highT (.node k x m ks)))∧Below w.heap.size w w':=by
  have c24:Tryz.prog.cellsOf 25=4:=by kernel_rfl
  have hlen:(ks.length:Int)≤9223372036854775807:=by omega
  obtain ⟨bk,Hbk⟩:∃ bk,Hid (isH k m=bk):=⟨_,rfl⟩
  obtain ⟨H,HH⟩:∃ H,Hid (highT (.node k x m ks)=H):=⟨_,rfl⟩
  rw [HH.out]
  replace HH:Hid (H=(bk || highL ks)):=by show _=_;rw [← HH.out];unfold highT;rw [Hbk.out]
  have hB0:Below w.heap.size w (w.alloc (.cells #[.int .i64 k,.string x,.int .i64 m,.slice a ks.length c] 25)):=(Below.refl _ _).alloc (Nat.le_refl _) _
  have hQ0:Q4 w.heap.size (.int .i64 k) (.string x) (.int .i64 m) (.slice a ks.length c) (w.alloc (.cells #[.int .i64 k,.string x,.int .i64 m,.slice a ks.length c] 25)):=⟨by simp,by simp,by simp,by simp⟩
  obtain ⟨q0,q1,q2,q3⟩:=id hQ0
  have hcase:(k=3∧m.tmod 2=1)∨(k=3∧¬ m.tmod 2=1)∨(k=4∧m.tmod 2=1)∨(k=4∧¬ m.tmod 2=1∧8≤m)∨(k=4∧¬ m.tmod 2=1∧¬ 8≤m)∨k=5∨k=7∨k=12∨k=13∨(¬ k=3∧¬ k=4∧¬ k=5∧¬ k=7∧¬ k=12∧¬ k=13):=by
    by_cases hm:m.tmod 2=1
    · by_cases h3:k=3
      · exact .inl ⟨h3,hm⟩
      · by_cases h4:k=4
        · exact .inr (.inr (.inl ⟨h4,hm⟩))
        · omega
    · by_cases h3:k=3
      · exact .inr (.inl ⟨h3,hm⟩)
      · by_cases h4:k=4
        · by_cases h8:8≤m
          · exact .inr (.inr (.inr (.inl ⟨h4,hm,h8⟩)))
          · exact .inr (.inr (.inr (.inr (.inl ⟨h4,hm,h8⟩))))
        · omega
  rcases hcase with ⟨rfl,hm⟩ | ⟨rfl,hm⟩ | ⟨rfl,hm⟩ | ⟨rfl,hm,hg8⟩ | ⟨rfl,hm,hg8⟩ | rfl | rfl | rfl | rfl | ⟨h3,h4,h5,h7,h12,h13⟩
  all_goals try (have hmb:(m.tmod 2==1)=false:=by simp [hm])
  all_goals try (have h8a:decide (8≤m)=true:=by simp [hg8])
  all_goals try (have h8b:decide (8≤m)=false:=by simp;omega)
  all_goals try (have hm2:¬ m % 2=1:=by rw [← Int.tmod_eq_emod_of_nonneg (by omega)];exact hm)
  all_goals try (have hm3:(m % 2==1)=false:=by simp [hm2])
  all_goals
    go_enter Tryz.func13,Tryz.ntmps13
    go_wp2
    clear q0 q1 q2 q3
    go_loopw [3,4] (fun bs t wr=>∃ (j:Nat) (b:Bool),j≤ks.length∧t=.int .i64 j∧bs=.bool b∧Below w.heap.size w wr∧Q4 w.heap.size (.int .i64 _) (.string x) (.int .i64 m) (.slice a ks.length c) wr∧w.heap.size+1≤wr.heap.size∧Hid (H=(b || highL (ks.drop j)))) (fun _ t _=>ks.length - (intOf t).toNat)
    case atStart=>exact ⟨0,bk,Nat.zero_le _,rfl,congrArg Value.bool (by rw [← Hbk.out];first | (simp [isH,hm];done) | (simp [isH,hm,hg8];done) | (simp [isH,hm];omega) | (simp [isH,h3,h4,h5,h7,h12,h13];done) | (simp [isH];done)),hB0,hQ0,by simp,by show _=_;exact HH.out⟩
    case round =>
      obtain ⟨j,b,hj,rfl,rfl,hB,hQ,hsz,HR⟩:=hrel
      obtain ⟨q0,q1,q2,q3⟩:=id hQ
      cases b with
      | true =>
        have HT:Hid (H=true):=by show _=_;rw [HR.out];rfl
        by_cases hlt:j<ks.length
        · go_wp2
          go_ret
          exact ⟨by rw [HT.out];rfl,hB⟩
        · obtain rfl:j=ks.length:=by omega
          go_wp2
          go_ret
          exact ⟨by rw [HT.out];rfl,hB⟩
      | false =>
        by_cases hlt:j<ks.length
        · obtain ⟨g,o,rfl,hg,hat⟩:=hk (by intro e;rw [e] at hlt;simp at hlt)
          obtain ⟨v1,⟨x0,x1,x2,x3,rfl,c0,c1',c2',c3⟩,hlk⟩:=hat.get j hlt
          have k0:=(hB.cell (p:=⟨g,o+j * 4,none⟩) hg).trans c0
          have k1:=(hB.cell (p:=⟨g,o+j * 4+1,none⟩) hg).trans c1'
          have k2:=(hB.cell (p:=⟨g,o+j * 4+2,none⟩) hg).trans c2'
          have k3:=(hB.cell (p:=⟨g,o+j * 4+3,none⟩) hg).trans c3
          have hC:=ih j hlt (.agg #[x0,x1,x2,x3]) wr (hlk.to (fun b hb=>Nat.lt_of_lt_of_le hb hB.size) (fun b hb o=>hB.cell (p:=⟨b,o,none⟩) hb))
          have HD:Hid (H=(highT ks[j] || highL (ks.drop (j+1)))):=by show _=_;rw [HR.out,highL_drop ks j hlt];rfl
          clear c0 c1' c2' c3 hat hlk hk ih HR
          generalize highT ks[j]=bj at *
          go_wp2_with (go_at_call 13;refine hC.mono ?_;rintro e w2 ⟨rfl,hb2⟩)
          have hs2:=hb2.size
          exact ⟨⟨j+1,bj,by omega,by simp,rfl,hB.trans (hb2.mono hB.size),Q4.below hQ hb2,by omega,HD⟩,by simp [intOf];omega⟩
        · obtain rfl:j=ks.length:=by omega
          have HT:Hid (H=false):=by show _=_;rw [HR.out,List.drop_eq_nil_of_le (by omega)];rfl
          clear ih hk HR
          go_wp2
          go_ret
          exact ⟨by rw [HT.out];rfl,hB⟩
theorem oHigh (t:Tree) (v:Value) (w:World) (hv:Lies (·<w.heap.size) w t v):Calls Tryz.prog 13 #[v] w fun e w'=>e=.returned (.bool (highT t))∧Below w.heap.size w w':=by
  match t with
  | .node k x m ks =>
    have ih:∀ j (hj:j<ks.length) (v:Value) (w:World),Lies (·<w.heap.size) w ks[j] v→Calls Tryz.prog 13 #[v] w fun e w'=>e=.returned (.bool (highT ks[j]))∧Below w.heap.size w w':=fun j hj v w h=>oHigh ks[j] v w h
    unfold Lies at hv
    obtain ⟨a,c,rfl,⟨hl,_⟩,hk⟩:=hv
    exact high_all k m x ks a c w hl hk ih
termination_by SizeOf.sizeOf t
decreasing_by exact kid_lt hj
end Go.Proofs.YthdgbmjcacephaaGreatDoor.chk
