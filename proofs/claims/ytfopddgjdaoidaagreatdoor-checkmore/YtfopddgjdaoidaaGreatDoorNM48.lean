/- Faces that come in as a slice: how it is opened. -/
import Derived.Test.YtfopddgjdaoidaaGreatDoorNM47
set_option linter.unusedVariables false
set_option linter.unusedSimpArgs false
set_option maxRecDepth 100000
namespace Go.Proofs.YtfopddgjdaoidaaGreatDoor.chk
open Go.RowKit Go.Shelf Go.Maps
open syn face
def badF:List FaceD→List FaceD→Bool
  | _,[]=>false
  | seen,f :: r=>(seen.any (fun q=>eqS q.module f.module) || !mayB f) || badF (seen++[f]) r
def nz (q:Int × Int):Int × Int:=if q.1=0 then (0,0) else q
def ckF (x:ByteArray) (fs:List FaceD) (m:ByteArray) (K:List Kid):Int × Int :=
  if badF [] fs=true then (2,0) else if (parse x).code≠0 then ((parse x).code,(parse x).place) else
    match lookK m K [] [] 1 with
    | some q=>q
    | none=>nz ((moF (faceK true m K) fs K [] 1).getD (0,0))
def gfOf (l:List FV) (z:ByteArray):Option FV:=l.find? fun q=>eqS q.1.module z
theorem gfOf_fst (l:List FV) (z:ByteArray):(gfOf l z).map (·.1)=(l.map (·.1)).find? (fun f=>eqS f.module z):=by
  unfold gfOf
  rw [List.find?_map]
  rfl
theorem gfOf_snoc (l:List FV) (q:FV) (h:(l.map (·.1)).any (fun p=>eqS p.module q.1.module)=false):(fun z=>if eqS z q.1.module then some (fvV q) else fvO (gfOf l z))=fun z=>fvO (gfOf (l++[q]) z):=by
  funext z
  unfold gfOf
  rw [List.find?_append]
  cases he:eqS z q.1.module with
  | true =>
    obtain rfl:=eqS_list.1 he
    have hn:l.find? (fun p=>eqS p.1.module q.1.module)=none:=by
      rw [List.find?_eq_none]
      intro p hp
      rw [List.any_eq_false] at h
      exact h p.1 (List.mem_map.2 ⟨p,hp,rfl⟩)
    rw [hn,if_pos rfl]
    simp [List.find?,eqS_list.2 rfl,fvO]
  | false =>
    have hn:eqS q.1.module z=false:=by
      cases h3:eqS q.1.module z with
      | false=>rfl
      | true=>rw [eqS_list.1 h3,eqS_list.2 rfl] at he;cases he
    rw [if_neg (by decide)]
    congr 1
    simp [List.find?,hn]
theorem gfOf_none (l:List FV) (z:ByteArray):(gfOf l z).isSome=(l.map (·.1)).any (fun p=>eqS p.module z):=by
  unfold gfOf
  rw [List.any_map,List.isSome_find?]
  rfl
def FacesIn (w:World) (v:Value) (qs:List FV):Prop:=∃ a c,v=.slice a qs.length c∧qs.length≤2199023255552∧(qs≠[]→∃ g o,a=some ⟨g,o,none⟩∧∀ i (h:i<qs.length),w.cell? ⟨g,o+i * 3,none⟩=some (.string qs[i].1.module)∧w.cell? ⟨g,o+i * 3+1,none⟩=some qs[i].2.1∧w.cell? ⟨g,o+i * 3+2,none⟩=some qs[i].2.2∧FaceIn w (fvV qs[i]) qs[i].1∧qs[i].1.module.size≤maxLen)
theorem mayB_ok {f:FaceD} (h:mayB f=true):FaceOk f:=by
  unfold mayB at h
  simp only [Bool.and_eq_true] at h
  obtain ⟨_,_,hv,hp,_⟩:=h
  refine ⟨fun v hm=>?_,fun p hm=>?_⟩
  · have:=List.all_eq_true.1 hv v hm
    unfold mayVarB labelB at this
    simp only [Bool.and_eq_true,Bool.or_eq_true,beq_iff_eq,decide_eq_true_eq] at this
    exact ⟨this.2.2.1,this.2.2.2.1⟩
  · have:=List.all_eq_true.1 hp p hm
    unfold mayProcB labelB at this
    simp only [Bool.and_eq_true,Bool.or_eq_true,beq_iff_eq,decide_eq_true_eq,List.all_eq_true] at this
    obtain ⟨_,_,_,h1,h2,h3,_⟩:=this
    exact ⟨fun l hl=>h1 l hl,h2,h3⟩
theorem badF_may:∀ (fs seen:List FaceD),badF seen fs=false→∀ f ∈ fs,mayB f=true
  | [],_,_,f,hf=>by cases hf
  | a :: r,seen,h,f,hf=>by
    unfold badF at h
    simp only [Bool.or_eq_false_iff,Bool.not_eq_false'] at h
    rcases List.mem_cons.1 hf with rfl | hf
    · exact h.1.2
    · exact badF_may r _ h.2 f hf
theorem badF_step (fs:List FaceD) (j:Nat) (hj:j<fs.length):badF (fs.take j) (fs.drop j)=(((fs.take j).any (fun q=>eqS q.module fs[j].module) || !mayB fs[j]) || badF (fs.take (j+1)) (fs.drop (j+1))):=by
  rw [List.drop_eq_getElem_cons hj,List.take_succ_eq_append_getElem hj]
  rfl
theorem rangeF_ok {n:Option Int} {a:Int} (h:rangeF n a=none):0≤n.getD 0:=by
  cases n with
  | none=>simp
  | some k =>
    simp only [rangeF] at h
    split at h
    · cases h
    · simp only [Option.getD_some]
      omega
theorem lookK_kids (m:ByteArray):∀ (K:List Kid) (is ns:List ByteArray) (a:Int),lookK m K is ns a=none→∀ k ∈ K,match k with
    | .imp _=>True
    | .var _ _ _ n=>0≤n.getD 0
    | .proc _ _ _ _ ps _=>ps.length≤5
  | [],_,_,_,_,k,hk=>by cases hk
  | .imp x :: r,is,ns,a,h,k,hk=>by
    unfold lookK at h
    split at h
    · cases h
    · split at h
      · cases h
      · rcases List.mem_cons.1 hk with rfl | hk
        · trivial
        · exact lookK_kids m r _ _ _ h k hk
  | .var x p l n :: r,is,ns,a,h,k,hk=>by
    unfold lookK at h
    split at h
    · cases h
    · split at h
      · cases h
      · split at h
        · cases h
        · rename_i hr
          rcases List.mem_cons.1 hk with rfl | hk
          · exact rangeF_ok hr
          · exact lookK_kids m r _ _ _ h k hk
  | .proc x p l g ps b :: r,is,ns,a,h,k,hk=>by
    unfold lookK at h
    split at h
    · cases h
    · split at h
      · cases h
      · split at h
        · cases h
        · rename_i h5
          split at h
          · cases h
          · rcases List.mem_cons.1 hk with rfl | hk
            · show ps.length≤5
              omega
            · exact lookK_kids m r _ _ _ h k hk
theorem parF_code:∀ (ps:List (ByteArray × Bool)) (seen:List ByteArray) (a:Int) (q:Int × Int),parF seen ps a=some q→q.1=5
  | [],_,_,_,h=>by cases h
  | x :: r,seen,a,q,h=>by
    unfold parF at h
    split at h
    · cases h;rfl
    · exact parF_code r _ _ q h
theorem lookK_code (m:ByteArray):∀ (K:List Kid) (is ns:List ByteArray) (a:Int) (q:Int × Int),lookK m K is ns a=some q→q.1=5∨q.1=1∨q.1=6
  | [],_,_,_,_,h=>by cases h
  | .imp x :: r,is,ns,a,q,h=>by
    unfold lookK at h
    split at h
    · cases h;exact .inl rfl
    · split at h
      · cases h;exact .inr (.inl rfl)
      · exact lookK_code m r _ _ _ q h
  | .var x p l n :: r,is,ns,a,q,h=>by
    unfold lookK at h
    split at h
    · cases h;exact .inl rfl
    · split at h
      · cases h;exact .inr (.inl rfl)
      · split at h
        · rename_i e he
          cases h
          cases n with
          | none=>cases he
          | some k =>
            simp only [rangeF] at he
            split at he
            · cases he;exact .inr (.inr rfl)
            · cases he
        · exact lookK_code m r _ _ _ q h
  | .proc x p l g ps b :: r,is,ns,a,q,h=>by
    unfold lookK at h
    split at h
    · cases h;exact .inl rfl
    · split at h
      · cases h;exact .inr (.inl rfl)
      · split at h
        · cases h;exact .inr (.inl rfl)
        · split at h
          · rename_i e he
            cases h
            exact .inl (parF_code _ _ _ _ he)
          · exact lookK_code m r _ _ _ q h
theorem varsK_mem (all:Bool):∀ (K:List Kid) (v:VarD),v ∈ varsK all K→∃ x p l n,Kid.var x p l n ∈ K∧v=varD x p l n
  | [],v,h=>by cases h
  | .imp x :: r,v,h=>by
    obtain ⟨a,b,c,d,h1,h2⟩:=varsK_mem all r v h
    exact ⟨a,b,c,d,List.mem_cons_of_mem _ h1,h2⟩
  | .proc x p l g ps b :: r,v,h=>by
    obtain ⟨a,b,c,d,h1,h2⟩:=varsK_mem all r v h
    exact ⟨a,b,c,d,List.mem_cons_of_mem _ h1,h2⟩
  | .var x p l n :: r,v,h=>by
    have:v=varD x p l n∨v ∈ varsK all r:=by
      unfold varsK at h
      split at h
      · exact List.mem_cons.1 h
      · exact .inr h
    rcases this with rfl | h
    · exact ⟨x,p,l,n,List.mem_cons_self ..,rfl⟩
    · obtain ⟨a,b,c,d,h1,h2⟩:=varsK_mem all r v h
      exact ⟨a,b,c,d,List.mem_cons_of_mem _ h1,h2⟩
theorem procsK_mem (all:Bool):∀ (K:List Kid) (q:ProcD),q ∈ procsK all K→∃ x p l g ps,q=procD x p l g ps
  | [],v,h=>by cases h
  | .imp x :: r,v,h=>procsK_mem all r v h
  | .var x p l n :: r,v,h=>procsK_mem all r v h
  | .proc x p l g ps b :: r,v,h=>by
    have:v=procD x p l g ps∨v ∈ procsK all r:=by
      unfold procsK at h
      split at h
      · exact List.mem_cons.1 h
      · exact .inr h
    rcases this with rfl | h
    · exact ⟨x,p,l,g,ps,rfl⟩
    · exact procsK_mem all r v h
theorem own_ok {m:ByteArray} {K:List Kid} (h:lookK m K [] [] 1=none):FaceOk (faceK true m K):=by
  refine ⟨fun v hv=>?_,fun q hq=>?_⟩
  · obtain ⟨x,p,l,n,h1,rfl⟩:=varsK_mem true K v hv
    have:=lookK_kids m K _ _ _ h _ h1
    exact ⟨bI_lab _,this⟩
  · obtain ⟨x,p,l,g,ps,rfl⟩:=procsK_mem true K q hq
    exact procD_lab x p l g ps
theorem kids_ok {m:ByteArray} {K:List Kid} (h:lookK m K [] [] 1=none) (hK:∀ k ∈ K,k.good∧k.named∧deepK k):∀ k ∈ K,k.good∧kidOk k:=by
  intro k hk
  obtain ⟨h1,h2,h3⟩:=hK k hk
  have h4:=lookK_kids m K _ _ _ h k hk
  refine ⟨h1,?_⟩
  cases k with
  | imp x=>exact h2
  | var x p l n=>exact h4
  | proc x p l g ps b=>exact ⟨by have h5:ps.length≤5:=h4;omega,h1.2.2,h3⟩
theorem badF_snoc (f:FaceD) (hm:mayB f=true):∀ (fs seen:List FaceD),(seen++fs).any (fun q=>eqS q.module f.module)=false→badF seen (fs++[f])=badF seen fs
  | [],seen,h=>by
    rw [List.append_nil] at h
    simp [badF,h,hm]
  | a :: r,seen,h=>by
    have ih:=badF_snoc f hm r (seen++[a]) (by rw [List.append_assoc];exact h)
    simp only [List.cons_append,badF,ih]
theorem moF_snoc (own f:FaceD) (given:List FaceD):∀ (K:List Kid) (fs:List FaceD) (a:Int),(∀ x,Kid.imp x ∈ K→eqS f.module x=false)→moF own (given++[f]) K fs a=moF own given K fs a
  | [],_,_,_=>by simp [moF]
  | .imp x :: r,fs,a,h=>by
    have hx:=h x (List.mem_cons_self ..)
    have ih:=fun fs a=>moF_snoc own f given r fs a (fun y hy=>h y (List.mem_cons_of_mem _ hy))
    have he:(given++[f]).find? (fun q=>eqS q.module x)=given.find? (fun q=>eqS q.module x):=by
      rw [List.find?_append]
      simp [List.find?,hx]
    simp only [moF,he,ih]
  | .var x p l n :: r,fs,a,h=>by
    have ih:=fun fs a=>moF_snoc own f given r fs a (fun y hy=>h y (List.mem_cons_of_mem _ hy))
    simp only [moF,ih]
  | .proc x p l g ps b :: r,fs,a,h=>by
    have ih:=fun fs a=>moF_snoc own f given r fs a (fun y hy=>h y (List.mem_cons_of_mem _ hy))
    simp only [moF,ih]
theorem ckF_more (x:ByteArray) (fs:List FaceD) (f:FaceD) (m:ByteArray) (K:List Kid) (hm:mayB f=true) (hn:fs.any (fun q=>eqS q.module f.module)=false) (hi:∀ z,Kid.imp z ∈ K→eqS f.module z=false):ckF x (fs++[f]) m K=ckF x fs m K:=by
  unfold ckF
  rw [badF_snoc f hm fs [] (by simpa using hn),moF_snoc _ f fs K _ _ hi]
end Go.Proofs.YtfopddgjdaoidaaGreatDoor.chk
namespace Go.Proofs.YtfopddgjdaoidaaGreatDoor.chk
open Go.RowKit Go.ChangeShapes Go.WideShapes
open syn face
section
variable {H:Type} {enc:TypeId × Value→H} {W:World} {n:Nat}
theorem weights_all {P:Program} {e:TypeId}:∀ {l:List (DataW H)} {d:DataW H},d ∈ l→∀ k ∈ d.weights P e,k ∈ DataW.weightsAll P e l
  | [],_,h,_,_=>by cases h
  | a :: l,d,h,k,hk=>by
    rw [DataW.weightsAll,List.mem_append]
    rcases List.mem_cons.1 h with rfl | h
    · exact .inl hk
    · exact .inr (weights_all h k hk)
theorem bytesFace:Tryz.prog.bytesOf 44=64:=by kernel_rfl
theorem cell1V:Tryz.prog.cellsOf 41=1:=by kernel_rfl
theorem cell1P:Tryz.prog.cellsOf 42=1:=by kernel_rfl
theorem open_faces {v:Value} {x:DataW H × List MemPlace} (h:DataW.trod enc Tryz.prog W 0 (fun _=>true) true n 22 [v]=some x) (hwt:∀ k ∈ x.1.weights Tryz.prog 22,k≤reachBytes):∃ l,FacesIn W v l∧l.length+64≤2199023255552:=by
  rcases Deep.open_slice Tryz.underlying22 h with ⟨h0,_⟩ | ⟨a,len,cap,m,k,D,Pl,h0,_,hl,hm,hmm,rfl,hc⟩
  · simp only [List.cons.injEq,and_true] at h0
    exact ⟨[],⟨none,0,h0,by simp,fun h=>absurd rfl h⟩,by simp⟩
  · simp only [List.cons.injEq,and_true] at h0
    simp only [if_true] at hmm
    have hlim:len+64≤2199023255552:=by
      have h2:=hwt ((len+(m - len)) * 64) (by simp [DataW.weights,Tryz.underlying22,bytesFace])
      unfold reachBytes at h2
      omega
    have each:∀ i,i<len→∃ q:FV,W.cell? (a.add (i * 3))=some (.string q.1.module)∧W.cell? (a.add (i * 3+1))=some q.2.1∧W.cell? (a.add (i * 3+2))=some q.2.2∧FaceIn W (fvV q) q.1∧q.1.module.size≤maxLen:=by
      intro i hi
      obtain ⟨cs',h1,h2⟩:=hc i (by omega)
      rw [cell3] at h1
      obtain ⟨_,hlen,hcell⟩:=World.cells?_some h1
      obtain ⟨y0,y1,y2,n',e,_,t0,t1,t2⟩:=Deep.trod_struct3 Tryz.underlying44 h2
      simp only [cell1s,cell1V,cell1P] at t0 t1 t2
      match cs',hlen with
      | [c0,c1,c2],_ =>
        simp only [List.drop,List.take,List.getElem?_cons_zero,List.getElem?_cons_succ,Option.getD_some] at t0 t1 t2
        obtain ⟨s,e0,_,hs⟩:=DataW.trod_string Tryz.underlying9 t0
        simp only [List.cons.injEq,and_true] at e0
        subst e0
        have hD:∀ k ∈ (D i).weights Tryz.prog 44,k≤reachBytes:=fun k hk=>hwt k (by
          rw [DataW.weights,Tryz.underlying22]
          exact List.mem_cons_of_mem _ (List.mem_append.2 (.inl (weights_all (List.mem_map.2 ⟨i,List.mem_range.2 hi,rfl⟩) k hk))))
        have eD:D i=.agg [y0.1,y1.1,y2.1]:=by
          have:=congrArg Prod.fst e
          simpa using this
        rw [eD] at hD
        obtain ⟨vs,hvs⟩:=open_vars t1 (fun k hk=>hD k (by simp [DataW.weights,DataW.weightsEach,Tryz.underlying44,hk]))
        obtain ⟨ps,hps⟩:=open_procs t2 (fun k hk=>hD k (by simp [DataW.weights,DataW.weightsEach,Tryz.underlying44,hk]))
        refine ⟨(⟨s,vs,ps⟩,c1,c2),?_,?_,?_,⟨c1,c2,rfl,hvs,hps⟩,hs⟩
        · simpa [Deep.add_add] using hcell 0 (by omega)
        · simpa [Deep.add_add] using hcell 1 (by omega)
        · simpa [Deep.add_add] using hcell 2 (by omega)
    haveI:Inhabited FaceD:=⟨⟨default,[],[]⟩⟩
    haveI:Inhabited FV:=⟨(default,undef,undef)⟩
    obtain ⟨V,hV⟩:=Deep.choose_lt each
    refine ⟨(List.range len).map V,⟨some a,cap,by simpa using h0,by simp;omega,fun hne=>?_⟩,by simpa using hlim⟩
    have hpos:0<len:=by
      rcases Nat.eq_zero_or_pos len with h | h
      · subst h;simp at hne
      · exact h
    have h00:=(hV 0 hpos).1
    rw [Nat.zero_mul,Addr.add,if_pos rfl] at h00
    obtain ⟨g,o,rfl⟩:=plain_addr h00
    refine ⟨g,o,rfl,fun i hi=>?_⟩
    have:=hV i (by simpa using hi)
    simp only [add_plain] at this
    simp only [List.getElem_map,List.getElem_range]
    exact this
theorem open_faceS {b0:Nat} {v:Value} {d:DataW H} {p:List MemPlace} (hv:Value.okWide Tryz.prog W .any b0 44 v) (h:DataW.Trod enc Tryz.prog W 0 (fun _=>true) true 44 v d p) (hwt:∀ k ∈ d.weights Tryz.prog 44,k≤reachBytes):∃ f,FaceIn W v f∧f.module.size≤maxLen:=by
  obtain ⟨v0,v1,v2,y0,y1,y2,k,rfl,rfl,_,t0,t1,t2⟩:=Joins.open_agg3 Tryz.underlying44 (by kernel_rfl) cell3 hv h
  obtain ⟨s,e0,_,hs⟩:=DataW.trod_string Tryz.underlying9 t0
  simp only [List.cons.injEq,and_true] at e0
  subst e0
  obtain ⟨vs,hvs⟩:=open_vars t1 (fun k hk=>hwt k (by simp [DataW.weights,DataW.weightsEach,Tryz.underlying44,hk]))
  obtain ⟨ps,hps⟩:=open_procs t2 (fun k hk=>hwt k (by simp [DataW.weights,DataW.weightsEach,Tryz.underlying44,hk]))
  exact ⟨⟨s,vs,ps⟩,⟨v1,v2,rfl,hvs,hps⟩,hs⟩
end
end Go.Proofs.YtfopddgjdaoidaaGreatDoor.chk
