/- A row of faces that is made by two appends: its cells, and where they lie. -/
import Derived.Test.YtfopddgjdaoidaaGreatDoorNM49
set_option linter.unusedVariables false
set_option linter.unusedSimpArgs false
set_option maxRecDepth 100000
namespace Go.Proofs.YtfopddgjdaoidaaGreatDoor.chk
open Go.RowKit Go.Shelf
open syn face
theorem small_parse:(parse ⟨#[109,111,100,117,108,101,32,109,59]⟩).code=0∧(parse ⟨#[109,111,100,117,108,101,32,109,59]⟩).tree=.node 1 ⟨#[109]⟩ 0 []:=by
  have h1:(parse ⟨#[109,111,100,117,108,101,32,109,59]⟩).code=0:=by kernel_rfl
  have h2:(parse ⟨#[109,111,100,117,108,101,32,109,59]⟩).tree=.node 1 ⟨#[109]⟩ 0 []:=by kernel_rfl
  exact ⟨h1,h2⟩
theorem small_ck:ckF ⟨#[109,111,100,117,108,101,32,109,59]⟩ [] ⟨#[109]⟩ []=(0,0):=by
  unfold ckF
  rw [if_neg (by decide),if_neg (by rw [small_parse.1];decide)]
  rfl
theorem faces_nil (w:World):FacesIn w (.slice none 0 0) []:=⟨none,0,rfl,by simp,fun h=>absurd rfl h⟩
theorem oCheckSmall (w:World) (hw:HasAll w):Calls Tryz.prog 9 #[.string ⟨#[109,111,100,117,108,101,32,109,59]⟩,.slice none 0 0] w fun e w'=>∃ a c,e=.returned (.tuple #[.agg #[.int .i64 1,.string ⟨#[109]⟩,.int .i64 0,.slice a 0 c],.agg #[.int .i64 0,.int .i64 0]])∧Below w.heap.size w w':=by
  have h:=oCheck ⟨#[109,111,100,117,108,101,32,109,59]⟩ [] (.slice none 0 0) ⟨#[109]⟩ [] w hw (faces_nil w) (fun _=>⟨small_parse.2,by decide,(fun k hk=>by cases hk),by simp [cntL],by simp,(fun k hk=>by cases hk)⟩)
  refine h.mono ?_
  rintro e w' ⟨v,he,h1,_,hb⟩
  rw [show ckF ⟨#[109,111,100,117,108,101,32,109,59]⟩ (([]:List FV).map (·.1)) ⟨#[109]⟩ []=(0,0) from small_ck] at he h1
  have h2:=h1 rfl
  rw [small_parse.2] at h2
  unfold Lies at h2
  obtain ⟨a,c,rfl,_,_⟩:=h2
  exact ⟨a,c,he,hb⟩
theorem small {x:ByteArray} {m:ByteArray} {K:List Kid} (ht:(parse x).tree=.node 1 m 0 (K.map Kid.tree)) (hf:fitsT (parse x).tree=true):cntL (K.map Kid.tree)≤900∧K.length≤900∧∀ k ∈ K,k.kids.length≤900:=by
  rw [ht,← within_fits,withinT_is _ 1 0 (by omega) (by omega) (by omega) (by omega)] at hf
  split at hf
  · rename_i h
    have hc:cntL (K.map Kid.tree)+1≤500:=by
      have h2:=h.2
      rw [cntN] at h2
      omega
    refine ⟨by omega,?_,?_⟩
    · have:=len_cnt (K.map Kid.tree)
      rw [List.length_map] at this
      omega
    · intro k hk
      obtain ⟨i,hi,rfl⟩:=List.mem_iff_getElem.1 hk
      have h1:=cntT_mem (K.map Kid.tree) i (by simpa using hi)
      have h2:(K.map Kid.tree)[i]'(by simpa using hi)=K[i].tree:=by simp
      rw [h2,Kid.tree_is,cntN] at h1
      have h4:=len_cnt K[i].kids
      omega
  · simp at hf
theorem shape5 (x:ByteArray) (h:(parse x).code=0):∃ (m:ByteArray) (K:List Kid),(parse x).tree=.node 1 m 0 (K.map Kid.tree)∧m.size≤16∧(∀ k ∈ K,k.good∧k.named∧deepK k)∧cntL (K.map Kid.tree)≤900∧K.length≤900∧∀ k ∈ K,k.kids.length≤900:=by
  obtain ⟨m,K,ht,hm,_,hk,hf⟩:=parse_shape4 x h
  obtain ⟨h1,h2,h3⟩:=small ht hf
  exact ⟨m,K,ht,hm,hk,h1,h2,h3⟩
set_option maxHeartbeats 1000000 in
theorem oHas (l:List ByteArray) (x:ByteArray) (v:Value) (w:World) (hv:StrsIn w v l) :
    Calls Tryz.prog 17 #[v,.string x] w fun e w'=>e=.returned (.bool (among l x))∧w'=w:=by
  obtain ⟨a,c,rfl,hl,hk⟩:=hv
  go_enter Tryz.func17,Tryz.ntmps17
  go_wp2
  go_loopw [5] (fun t wr=>∃ j:Nat,j≤l.length∧t=.int .i64 j∧wr=w∧Hid (∀ i (h:i<l.length),i<j→eqS l[i] x=false)) (fun t _=>l.length - (intOf t).toNat)
  case atStart=>exact ⟨0,Nat.zero_le _,rfl,rfl,fun i _ h=>by omega⟩
  case round =>
    obtain ⟨j,hj,rfl,rfl,HN⟩:=hrel
    by_cases hlt:j<l.length
    · obtain ⟨g,o,rfl,hc⟩:=hk (by intro e;rw [e] at hlt;simp at hlt)
      have q:=hc j hlt
      clear hc hk
      cases he:eqS l[j] x
      · have HE:Hid (eqS l[j] x=false):=he
        unfold eqS at he
        generalize l[j]=y at he q
        go_wp2
        go_roundw
        case rel=>exact ⟨j+1,by omega,by go_num,by trivial,fun i h h1=>by
          rcases Nat.lt_or_ge i j with h3 | h3
          · exact HN.out i h h3
          · have:i=j:=by omega
            subst this
            exact HE.out⟩
        case measure=>simp [intOf];omega
      · have HE:Hid (among l x=true):=among_hit j hlt he
        unfold eqS at he
        generalize l[j]=y at he q
        go_wp2
        go_ret
        exact ⟨by rw [HE.out];rfl,rfl⟩
    · have HE:Hid (among l x=false):=among_none (fun i h=>HN.out i h (by omega))
      go_wp2
      go_ret
      exact ⟨by rw [HE.out];rfl,rfl⟩
def Shp (x m:ByteArray) (K:List Kid):Prop:=(parse x).code=0→(parse x).tree=.node 1 m 0 (K.map Kid.tree)∧m.size≤16∧(∀ k ∈ K,k.good∧k.named∧deepK k)∧cntL (K.map Kid.tree)≤900∧K.length≤900∧∀ k ∈ K,k.kids.length≤900
theorem imports_mem:∀ (K:List Kid) (z:ByteArray),Kid.imp z ∈ K→z ∈ importsK K
  | [],_,h=>by cases h
  | k :: r,z,h=>by
    rcases List.mem_cons.1 h with h | h
    · subst h
      simp [importsK]
    · have:=imports_mem r z h
      cases k <;> simp_all [importsK]
theorem not_among {l:List ByteArray} {x:ByteArray} (h:among l x=false) {z:ByteArray} (hz:z ∈ l):eqS x z=false:=by
  cases he:eqS x z with
  | false=>rfl
  | true =>
    obtain rfl:=eqS_list.1 he
    unfold among at h
    rw [List.any_eq_false] at h
    exact absurd he (h _ hz)
theorem of_facts (x:ByteArray):∃ (m:ByteArray) (K:List Kid) (F:FaceD) (I:List ByteArray) (ec ep:Int),Shp x m K∧(∀ W,HasBoth W→Calls Tryz.prog 16 #[.string x] W (OfRes W F I ec ep))∧(ec≠0→∀ fs,(ckF x fs m K).1≠0)∧(ec=0→I=importsK K):=by
  by_cases hc:(parse x).code=0
  · obtain ⟨m,K,hs⟩:=shape5 x hc
    have hO:=fun W hW=>(oOf_ok x m K W hW hc hs.1 hs.2.1 (fun k hk=>(hs.2.2.1 k hk).1) (by omega) (fun k hk=>by have:=hs.2.2.2.2.2 k hk;omega)).mono (fun e w' h=>h.res)
    cases hl:lookK m K [] [] 1 with
    | some q =>
      rw [hl] at hO
      refine ⟨m,K,_,_,_,_,fun _=>hs,hO,fun hq fs=>?_,fun h0=>absurd h0 (lookK_ne m K [] [] 1 q hl)⟩
      unfold ckF
      rw [hc,hl]
      split
      · decide
      · rw [if_neg (by decide)]
        exact hq
    | none =>
      rw [hl] at hO
      exact ⟨m,K,_,_,_,_,fun _=>hs,hO,fun h=>absurd rfl h,fun _=>rfl⟩
  · refine ⟨⟨#[]⟩,[],_,_,_,_,fun h=>absurd h hc,fun W hW=>oOf_bad x W hW hc,fun hq fs=>?_,fun h=>absurd h hc⟩
    unfold ckF
    split
    · decide
    · exact hc
theorem keptC {w w':World} (hb:Below w.heap.size w w') {p:Addr} {v:Value} (h:w.cell? p=some v):w'.cell? p=some v:=by
  have hp:p.block<w.heap.size:=by
    cases hq:w.heap[p.block]? with
    | none=>simp [World.cell?,hq] at h
    | some o=>exact (Array.getElem?_eq_some_iff.1 hq).1
  rw [hb.cell hp];exact h
theorem FacesIn.below {w w':World} {v:Value} {qs:List FV} (h:FacesIn w v qs) (hb:Below w.heap.size w w'):FacesIn w' v qs:=by
  obtain ⟨a,c,rfl,hl,hk⟩:=h
  refine ⟨a,c,rfl,hl,fun hq=>?_⟩
  obtain ⟨g,o,rfl,hc⟩:=hk hq
  refine ⟨g,o,rfl,fun i hi=>?_⟩
  obtain ⟨h0,h1,h2,h3,h4⟩:=hc i hi
  exact ⟨keptC hb h0,keptC hb h1,keptC hb h2,h3.below hb,h4⟩
theorem noNode_lies (X:Nat→Prop) (w:World):Lies X w (.node 0 ⟨#[]⟩ 0 []) noNodeV:=by
  unfold Lies noNodeV
  exact ⟨none,0,rfl,by simp,by simp⟩
def fcells (q:FV):List Value:=[.string q.1.module,q.2.1,q.2.2]
def faceCells (l:List FV):List Value:=l.flatMap fcells
theorem faceCells_len:∀ l:List FV,(faceCells l).length=l.length * 3
  | []=>rfl
  | q :: l=>by
    have h:=faceCells_len l
    show (fcells q++faceCells l).length=_
    simp only [List.length_append,List.length_cons,h]
    show 3+_=_
    omega
theorem faceCells_at:∀ (l:List FV) (k:Nat) (hk:k<l.length),(faceCells l)[k * 3]?=some (.string l[k].1.module)∧(faceCells l)[k * 3+1]?=some l[k].2.1∧(faceCells l)[k * 3+2]?=some l[k].2.2
  | [],k,hk=>by simp at hk
  | q :: l,0,hk=>by simp [faceCells,fcells]
  | q :: l,k+1,hk=>by
    have hk':k<l.length:=by simpa using hk
    have h:=faceCells_at l k hk'
    have e:faceCells (q :: l)=[.string q.1.module,q.2.1,q.2.2]++faceCells l:=rfl
    have e3:(k+1) * 3=k * 3+3:=by omega
    rw [e,e3]
    refine ⟨?_,?_,?_⟩
    · rw [List.getElem?_append_right (by simp)];simpa using h.1
    · rw [List.getElem?_append_right (by simp)];simpa using h.2.1
    · rw [List.getElem?_append_right (by simp)];simpa using h.2.2
theorem infoF:(Tryz.prog.info? 44).map (fun i=>(i.zero,i.size,i.bytes))=some (some (.agg #[.string ⟨#[]⟩,.slice none 0 0,.slice none 0 0]),3,64):=by kernel_rfl
theorem FacesIn.news {w:World} {a:Option Addr} {n c:Nat} {qs:List FV} (h:FacesIn w (.slice a n c) qs):n=qs.length∧(∀ ad,a=some ad→qs≠[]→∀ j u,(faceCells qs)[j]?=some u→w.cell? (ad.add j)=some u)∧∀ u ∈ faceCells qs,u.oneCell'=true:=by
  obtain ⟨a',c',e,hl,hk⟩:=h
  injection e with e1 e2 e3
  subst e1 e2
  refine ⟨rfl,fun ad ea hq j u hj=>?_,fun u hu=>?_⟩
  · obtain ⟨g,o,e4,hc⟩:=hk hq
    rw [ea] at e4
    injection e4 with e4
    subst e4
    have hlt:j<(faceCells qs).length:=(List.getElem?_eq_some_iff.1 hj).1
    rw [faceCells_len] at hlt
    have hi:j / 3<qs.length:=by omega
    obtain ⟨h0,h1,h2⟩:=faceCells_at qs (j / 3) hi
    obtain ⟨c0,c1,c2,_⟩:=hc (j / 3) hi
    have hadd:(⟨g,o,none⟩:Addr).add j=⟨g,o+j,none⟩:=WideShapes.add_plain g o j
    rw [hadd]
    have h3:j=j / 3 * 3∨j=j / 3 * 3+1∨j=j / 3 * 3+2:=by omega
    generalize j / 3=i at *
    rcases h3 with rfl | rfl | rfl
    · rw [h0] at hj;cases hj;exact c0
    · rw [h1] at hj;cases hj;exact c1
    · rw [h2] at hj;cases hj;exact c2
  · obtain ⟨q,hq,hu⟩:=List.mem_flatMap.1 hu
    obtain ⟨i,hi,rfl⟩:=List.mem_iff_getElem.1 hq
    obtain ⟨g,o,_,hc⟩:=hk (by intro e;rw [e] at hi;simp at hi)
    obtain ⟨_,_,_,⟨vv,pv,e,⟨_,_,rfl,_⟩,⟨_,_,rfl,_⟩⟩,_⟩:=hc i hi
    unfold fvV at e
    injection e with e
    simp only [List.toArray_eq_toArray_eq,Array.mk.injEq,List.cons.injEq,and_true] at e
    obtain ⟨_,e1,e2⟩:=e
    unfold fcells at hu
    rw [e1,e2] at hu
    simp at hu
    rcases hu with rfl | rfl | rfl <;> rfl
theorem FacesIn.own {w:World} {B:Nat} {v:Value} {qs:List FV} (h:w.ownsRow B 44 3 v qs.length (faceCells qs)) (hl:qs.length≤2199023255552) (hf:∀ q ∈ qs,FaceIn w (fvV q) q.1∧q.1.module.size≤maxLen):FacesIn w v qs:=by
  rcases h.2 with ⟨rfl,hn⟩ | ⟨g,cap,cur,rfl,_,_,h1,h2,_⟩
  · have:qs=[]:=List.length_eq_zero_iff.1 hn
    subst this
    exact ⟨none,0,rfl,by simp,fun h=>absurd rfl h⟩
  · refine ⟨some ⟨g,0,none⟩,cap,rfl,hl,fun _=>⟨g,0,rfl,fun i hi=>?_⟩⟩
    obtain ⟨h0,h1,h2⟩:=faceCells_at qs i hi
    obtain ⟨f0,f1⟩:=hf _ (List.getElem_mem hi)
    rw [Nat.zero_add]
    refine ⟨?_,?_,?_,f0,f1⟩
    · rw [h.cellAt _ (by omega)];exact h0
    · rw [h.cellAt _ (by omega)];exact h1
    · rw [h.cellAt _ (by omega)];exact h2
theorem run_append_faces {P:Program} (w:World) (t ty:TypeId) (base:Nat) (e:TypeId) (i:TypeInfo) (z:Value) (size bytes:Nat) (ht:P.underlying t=some (.slice e)) (hi:P.info? e=some i) (hz:i.zero=some z)
    (hsize:i.size=size) (hby:i.bytes=bytes) (hzs:z.cells.size=size) (hsz:0<size) (s0:Nat) (hown:w.ownsRow base e size (.slice (some ⟨s0,0,none⟩) 0 0) 0 [])
    (a:Option Addr) (m c:Nat) (news:List Value) (hl:news.length=m * size) (ha:a=none→m=0) (hnews:∀ ad,a=some ad→∀ j u,news[j]?=some u→w.cell? (ad.add j)=some u) (h1:∀ u ∈ news,u.oneCell'=true)
    (h63:m≤maxLen) (hbytes:m * bytes≤140737488355328) (hbase:base≤w.heap.size) (H:Nat) (hH:w.heap.size=H) :
    ∃ g cap w',(Builtin.append_ #[t,t] ty #[.slice (some ⟨s0,0,none⟩) 0 0,.slice a m c]).run P w=.ok (.slice (some ⟨g,0,none⟩) m cap) w' ∧
      w'.ownsRow base e size (.slice (some ⟨g,0,none⟩) m cap) m news∧w.grownBy w' (some s0)∧(s0=g∨g=H):=by
  cases a with
  | none =>
    obtain rfl:=ha rfl
    have hn:news=[]:=List.eq_nil_of_length_eq_zero (by simpa using hl)
    subst hn
    refine ⟨s0,0,w,?_,hown,⟨rfl,rfl,rfl,jE _,fun _ _ _=>rfl⟩,.inl rfl⟩
    simp [Builtin.append_,run_underlying ht,sizeOf,typeInfo,hi,Builtin.lenOf,Builtin.firstCells,loadCells,loadCellsFrom,storeCells]
  | some ad =>
    obtain ⟨v',w',hr,h2,h3,h4,h5⟩:=run_append_own_at (P:=P) w base t ty e i z size bytes ht hi hz hsize hby hzs hsz _ 0 [] hown ad m c news hl (hnews ad rfl) h1 (by omega) (by rw [Nat.zero_add];exact hbytes) hbase
    rw [Nat.zero_add,List.nil_append] at h2
    rcases h2.2 with ⟨rfl,hn⟩ | ⟨g,cap,cur,rfl,_⟩
    · exact absurd (h4.1 rfl).1 (by simp)
    · refine ⟨g,cap,w',hr,h2,h3,?_⟩
      rcases h5 with h5 | h5
      · left;simpa [Value.ownBlock] using h5.symm
      · right
        have:g=w.heap.size:=by simpa [Value.ownBlock] using h5
        rw [this,hH]
theorem step_append_faces {P:Program} {w:World} {ops:Array Oper} {o:Oper} {a:Act} {K:Act→World→Prop} {Q:Exit→Act→World→Prop} {E:Prop} (hgd:o.guard=none) (s x:Operand) (t:TypeId)
    (ho:o.op=.call { callee:=.builtin .append,args:=#[s,x],argTypes:=#[t,t] })
    (base:Nat) (e:TypeId) (i:TypeInfo) (z:Value) (size bytes:Nat) (ht:P.underlying t=some (.slice e)) (hi:P.info? e=some i) (hz:i.zero=some z)
    (hsize:i.size=size) (hby:i.bytes=bytes) (hzs:z.cells.size=size) (hsz:0<size) (s0:Nat) (hs:a.eval s=.slice (some ⟨s0,0,none⟩) 0 0) (hown:w.ownsRow base e size (.slice (some ⟨s0,0,none⟩) 0 0) 0 [])
    (ad:Option Addr) (m c:Nat) (news:List Value) (hx:a.eval x=.slice ad m c) (hl:news.length=m * size) (ha:ad=none→m=0) (hnews:∀ p,ad=some p→∀ j u,news[j]?=some u→w.cell? (p.add j)=some u) (h1:∀ u ∈ news,u.oneCell'=true)
    (h63:m≤maxLen) (hbytes:m * bytes≤140737488355328) (hbase:base≤w.heap.size) (H:Nat) (hH:w.heap.size=H)
    (h:∀ g cap w',w'.ownsRow base e size (.slice (some ⟨g,0,none⟩) m cap) m news→w.grownBy w' (some s0)→(s0=g∨g=H)→K (a.put o.dst (.slice (some ⟨g,0,none⟩) m cap)) w') :
    if Region.wanted o (yielded ops a.tmps)=true then Oper.wp P o a w K Q else E:=by
  have hw:Region.wanted o (yielded ops a.tmps)=true:=by simp [Region.wanted,hgd]
  rw [if_pos hw]
  obtain ⟨g,cap,w',hr,h2,h3,h4⟩:=run_append_faces (P:=P) w t o.type base e i z size bytes ht hi hz hsize hby hzs hsz s0 hown ad m c news hl ha hnews h1 h63 hbytes hbase H hH
  unfold Oper.wp execOp
  simp only [ho,resolve,invoke,builtin,Sem.run_bind,Sem.run_pure,Result.andThen_ok,List.map_toArray,List.map_cons,List.map_nil,hs,hx,hr]
  exact h g cap w' h2 h3 h4
end Go.Proofs.YtfopddgjdaoidaaGreatDoor.chk
