/- What the program's has, next, giveUp, skip and take answer: contracts. -/
import Derived.Test.YtfopddgjdaoidaaGreatDoorNM04
set_option linter.unusedVariables false
set_option maxRecDepth 100000
namespace Go.Proofs.YtfopddgjdaoidaaGreatDoor.syn
open lexs (Tok)
section
variable {ts:List Tok} {s:St}
theorem isName_empty:isName empty=false:=isName_short (by intro h;exact absurd h.1 (by decide))
theorem fail_st (h:s.bad=true):s.fail=s:=by cases s;simp_all [St.fail]
theorem must_st {x:ByteArray} (hx:0<x.size) (h:s.bad=true):must ts x s=s:=by
  unfold must
  rw [eqS_bad hx h,if_neg (by decide)]
  exact fail_st h
theorem name_st (h:s.bad=true):(name ts s).2=s:=by
  unfold name
  rw [txt_bad h]
  rw [isName_empty,if_neg (by decide)]
  exact fail_st h
theorem eat_st {x:ByteArray} (hx:0<x.size) (h:s.bad=true):eat ts x s=(false,s):=by
  unfold eat
  rw [eqS_bad hx h,if_neg (by decide)]
theorem whole_st (h:s.bad=true):(whole ts s).2=s:=by
  unfold whole
  dsimp only
  rw [name_st h,eat_st (by decide) h]
  simp
theorem label_st (h:s.bad=true):(label ts s).2=s:=by
  unfold label
  rw [eqS_bad (by decide) h,if_neg (by decide)]
  exact must_st (by decide) h
theorem isNum_bad (h:s.bad=true):isNum ts s=false:=by unfold isNum here;rw [h];rfl
structure Stuck (ts:List Tok) (f:Nat):Prop where
  e:∀ (s:St) (q:Tree × St),s.bad=true→exprF ts f s=some q→q.2=s
  b:∀ (l:Nat) (s:St) (q:Tree × St),s.bad=true→boundF ts f l s=some q→q.2=s
  bl:∀ (l:Nat) (n:Tree) (s:St) (q:Tree × St),s.bad=true→boundL ts f l n s=some q→q.2=s
  u:∀ (s:St) (q:Tree × St),s.bad=true→unaryF ts f s=some q→q.2=s
  a:∀ (s:St) (q:Tree × St),s.bad=true→askedF ts f s=some q→q.2=s
  p:∀ (x:ByteArray) (s:St) (q:Tree × St),s.bad=true→placeF ts f x s=some q→q.2=s
  c:∀ (x:ByteArray) (s:St) (q:Tree × St),s.bad=true→callF ts f x s=some q→q.2=s
  cl:∀ (x:ByteArray) (ks:List Tree) (s:St) (on:Bool) (q:Tree × St),s.bad=true→callL ts f x ks s on=some q→q.2=s
theorem bind_some_is {α β:Type} {o:Option α} {g:α→Option β} {q:β} (h:o.bind g=some q):∃ a,o=some a∧g a=some q:=by
  cases o with
  | none=>simp at h
  | some a=>exact ⟨a,rfl,h⟩
theorem stuck (ts:List Tok) (f:Nat):Stuck ts f:=by
  induction f with
  | zero=>exact ⟨fun s q _ h=>by simp [exprF] at h,fun l s q _ h=>by simp [boundF] at h,fun l n s q _ h=>by simp [boundL] at h,fun s q _ h=>by simp [unaryF] at h,fun s q _ h=>by simp [askedF] at h,fun x s q _ h=>by simp [placeF] at h,fun x s q _ h=>by simp [callF] at h,fun x ks s on q _ h=>by simp [callL] at h⟩
  | succ f ih =>
    refine ⟨fun s q hb h=>?_,fun l s q hb h=>?_,fun l n s q hb h=>?_,fun s q hb h=>?_,fun s q hb h=>?_,fun x s q hb h=>?_,fun x s q hb h=>?_,fun x ks s on q hb h=>?_⟩
    · unfold exprF at h
      rw [hb,if_pos rfl] at h
      simp only [Option.some.injEq] at h
      rw [← h]
    · unfold boundF at h
      split at h
      · exact ih.u _ _ hb h
      · obtain ⟨q1,h1,h2⟩:=bind_some_is h
        have e1:=ih.b _ _ _ hb h1
        rw [← e1]
        exact ih.bl _ _ _ _ (by rw [e1];exact hb) h2
    · unfold boundL at h
      rw [hb,if_pos rfl] at h
      simp only [Option.some.injEq] at h
      rw [← h]
    · unfold unaryF at h
      rw [eqS_bad (by decide) hb,eqS_bad (by decide) hb,eqS_bad (by decide) hb,isNum_bad hb,whole_st hb,eqS_bad (by decide) hb] at h
      simp only [Bool.false_eq_true,if_false] at h
      exact ih.p _ _ _ hb h
    · unfold askedF at h
      obtain ⟨q1,h1,h2⟩:=bind_some_is h
      rw [must_st (by decide) hb] at h1
      have e1:=ih.e _ _ hb h1
      simp only [Option.some.injEq] at h2
      rw [← h2,e1]
      exact must_st (by decide) hb
    · unfold placeF at h
      rw [eqS_bad (by decide) hb,if_neg (by decide)] at h
      simp only [Option.some.injEq] at h
      rw [← h]
    · unfold callF at h
      rw [must_st (by decide) hb,eqS_bad (by decide) hb,if_neg (by decide)] at h
      exact ih.cl _ _ _ _ _ hb h
    · unfold callL at h
      rw [hb] at h
      simp only [Bool.not_true,Bool.and_false,Bool.false_eq_true,if_false,Option.some.injEq] at h
      rw [← h]
      exact must_st (by decide) hb
structure Stuck2 (ts:List Tok) (f:Nat):Prop where
  bk:∀ (s:St) (q:Tree × St),s.bad=true→blockF ts f s=some q→q.2=s
  bl:∀ (ks:List Tree) (s:St) (q:Tree × St),s.bad=true→blockL ts f ks s=some q→q.2=s
theorem stuck2 (ts:List Tok) (f:Nat):Stuck2 ts f:=by
  have hL:∀ (f:Nat) (ks:List Tree) (s:St) (q:Tree × St),s.bad=true→blockL ts f ks s=some q→q.2=s:=by
    intro f ks s q hb h
    cases f with
    | zero=>simp [blockL] at h
    | succ f =>
      unfold blockL at h
      rw [hb,if_pos rfl] at h
      simp only [Option.some.injEq] at h
      rw [← h]
  refine ⟨fun s q hb h=>?_,fun ks s q hb h=>hL f ks s q hb h⟩
  cases f with
  | zero=>simp [blockF] at h
  | succ f =>
    unfold blockF at h
    rw [must_st (by decide) hb] at h
    exact hL _ _ _ _ hb h
end
end Go.Proofs.YtfopddgjdaoidaaGreatDoor.syn
namespace Go.Proofs.YtfopddgjdaoidaaGreatDoor.lexs
structure Fine (t:Tok):Prop where
  kinds:t.kind=1∨t.kind=2∨t.kind=3
  ne:t.text≠[]
  word:t.kind=1→t.text.length≤16∧ltrB (t.text.headD 0)=true∧t.text.all insB=true
  num:t.kind=2→numE t.text=0
  sign:t.kind=3→ltrB (t.text.headD 0)=false
theorem take_run (p:UInt8→Bool) (l:List UInt8):l.take (run p l)=l.takeWhile p:=by
  unfold run
  induction l with
  | nil=>rfl
  | cons b r ih =>
    rw [List.takeWhile_cons]
    cases p b
    · rfl
    · simp [ih]
theorem step_fine {b:UInt8} {r:List UInt8} {K:Int} {n i:Nat} (h:stepL (b :: r)=.tok K n):Fine ⟨K,(b :: r).take n,i⟩:=by
  have hn:=(stepL_tok h).1
  obtain ⟨m,rfl⟩:∃ m,n=m+1:=⟨n - 1,by omega⟩
  have hh:((b :: r).take (m+1)).headD 0=b:=by simp
  have hne:(b :: r).take (m+1)≠[]:=by simp
  rw [stepL,List.headD_cons,stepB] at h
  by_cases h1:(b==32 || b==10)=true
  · rw [if_pos h1] at h;simp at h
  rw [if_neg h1] at h
  by_cases h2:(b==35)=true
  · rw [if_pos h2] at h;simp at h
  rw [if_neg h2] at h
  cases h3:ltrB b
  · rw [h3] at h
    simp only [Bool.false_eq_true,if_false] at h
    cases h4:digB b
    · rw [h4] at h
      simp only [Bool.false_eq_true,if_false] at h
      split at h
      · simp at h
      · injection h with hk hm
        subst hk
        refine ⟨.inr (.inr rfl),hne,fun e=>by simp at e,fun e=>by simp at e,fun _=>?_⟩
        show ltrB (((b :: r).take (m+1)).headD 0)=false
        rw [hh]
        exact h3
    · rw [h4] at h
      simp only [if_true] at h
      split at h
      · rename_i he
        injection h with hk hm
        subst hk
        refine ⟨.inr (.inl rfl),hne,fun e=>by simp at e,fun _=>?_,fun e=>by simp at e⟩
        rw [← hm]
        simpa using he
      · simp at h
  · rw [h3] at h
    simp only [if_true] at h
    split at h
    · simp at h
    · rename_i h16
      injection h with hk hm
      subst hk
      refine ⟨.inl rfl,hne,fun _=>⟨?_,?_,?_⟩,fun e=>by simp at e,fun e=>by simp at e⟩
      · show ((b :: r).take (m+1)).length≤16
        rw [List.length_take]
        omega
      · show ltrB (((b :: r).take (m+1)).headD 0)=true
        rw [hh]
        exact h3
      · show ((b :: r).take (m+1)).all insB=true
        rw [← hm,take_run]
        exact List.all_takeWhile
theorem scanL_fine:∀ (f:Nat) (l:List UInt8) (i:Nat) (acc toks:List Tok),scanL f l i acc=.ok toks→(∀ t ∈ acc,Fine t)→∀ t ∈ toks,Fine t
  | 0,l,i,acc,toks,h,ha=>by
    unfold scanL at h
    injection h with h
    subst h
    exact ha
  | f+1,[],i,acc,toks,h,ha=>by
    unfold scanL at h
    injection h with h
    subst h
    exact ha
  | f+1,b :: r,i,acc,toks,h,ha=>by
    cases hs:stepL (b :: r) with
    | skip n=>rw [scanL_skip hs] at h;exact scanL_fine f _ _ _ _ h ha
    | fault c=>rw [scanL_fault hs] at h;simp at h
    | tok k n =>
      rw [scanL_tok hs] at h
      refine scanL_fine f _ _ _ _ h ?_
      intro t ht
      rw [List.mem_append] at ht
      rcases ht with ht | ht
      · exact ha t ht
      · simp only [List.mem_singleton] at ht
        subst ht
        exact step_fine hs
theorem scan_fine {l:List UInt8} {toks:List Tok} (h:scan l=.ok toks):∀ t ∈ toks,Fine t:=by
  unfold scan at h
  split at h
  · simp at h
  · exact scanL_fine _ _ _ _ _ h (fun t ht=>by simp at ht)
end Go.Proofs.YtfopddgjdaoidaaGreatDoor.lexs
namespace Go.Proofs.YtfopddgjdaoidaaGreatDoor.syn
open lexs (Tok Fine ltrI insI ltrB insB digB numE)
def raw (t:Tok):ByteArray:=⟨t.text.toArray⟩
theorem raw_list (t:Tok):(raw t).data.toList=t.text:=rfl
theorem raw_size (t:Tok):(raw t).size=t.text.length:=by rw [← lexs.len_L,raw_list]
def wordy (x:ByteArray):Bool:=decide (0<x.size) && !digB (x.data.toList.headD 0)
section
variable {ts:List Tok} {s:St}
theorem here_is (hb:s.bad=false):here ts s=ts[s.i]?:=by unfold here;rw [hb];rfl
theorem num_digits {l:List UInt8} (h:numE l=0):l.all digB=true:=by
  unfold numE at h
  cases ha:l.all digB
  · rw [ha] at h;simp at h
  · rfl
theorem num_head {l:List UInt8} (h:numE l=0) (hne:l≠[]):digB (l.headD 0)=true:=by
  have h1:=num_digits h
  cases l with
  | nil=>exact absurd rfl hne
  | cons b r=>simp only [List.all_cons,Bool.and_eq_true] at h1;exact h1.1
theorem eq_raw {t:Tok} (hg:Fine t) (hb:s.bad=false) (ht:ts[s.i]?=some t) {x:ByteArray} (hx:wordy x=true):eqS (txt ts s) x=eqS (raw t) x:=by
  unfold txt
  rw [here_is hb,ht]
  simp only
  unfold wordy at hx
  simp only [Bool.and_eq_true,decide_eq_true_eq,Bool.not_eq_true'] at hx
  cases hk:(t.kind==2)
  · simp only [Bool.false_eq_true,if_false]
    rfl
  · simp only [if_true]
    have hk2:t.kind=2:=by simpa using hk
    have hd:=num_head (hg.num hk2) hg.ne
    have e1:eqS empty x=false:=by
      cases h:eqS empty x
      · rfl
      · have:=eqS_empty h
        omega
    have e2:eqS (raw t) x=false:=by
      cases h:eqS (raw t) x
      · rfl
      · exfalso
        unfold eqS at h
        rw [beq_iff_eq,ByteArray.toList_eq,ByteArray.toList_eq,raw_list] at h
        rw [h] at hd
        rw [hx.2] at hd
        simp at hd
    rw [e1,e2]
theorem eq_none (ht:ts[s.i]?=none) {x:ByteArray} (hx:wordy x=true):eqS (txt ts s) x=false:=by
  cases h:eqS (txt ts s) x
  · rfl
  · exfalso
    unfold wordy at hx
    simp only [Bool.and_eq_true,decide_eq_true_eq] at hx
    have:=txt_lt hx.1 h
    rw [List.getElem?_eq_none_iff] at ht
    omega
def ownName (t:Tok):Bool:=!(reserved.any fun y=>eqS y (raw t)) && t.kind==1
theorem name_raw {t:Tok} (hg:Fine t) (hb:s.bad=false) (ht:ts[s.i]?=some t):isName (txt ts s)=ownName t:=by
  unfold txt
  rw [here_is hb,ht]
  simp only
  rcases hg.kinds with hk | hk | hk
  · rw [hk]
    obtain ⟨h1,h2,h3⟩:=hg.word hk
    unfold ownName
    rw [hk]
    have hsz:1≤(raw t).size:=by
      rw [raw_size]
      have:=hg.ne
      cases hl:t.text with
      | nil=>exact absurd hl this
      | cons b r=>simp
    have e:isName (raw t)=!(reserved.any fun y=>eqS y (raw t)):=by
      unfold isName
      rw [raw_list]
      have hl:ltrI ((t.text.headD 0).toNat:Int)=true:=h2
      have ha:t.text.all (fun c=>insI (c.toNat:Int))=true:=h3
      rw [hl,ha,decide_eq_true ⟨hsz,by rw [raw_size];exact h1⟩]
      simp
    simp only [show ((1:Int)==2)=false from rfl,show ((1:Int)==1)=true from rfl,Bool.false_eq_true,if_false,Bool.and_true]
    exact e
  · rw [hk]
    unfold ownName
    rw [hk]
    simp [isName_empty]
  · rw [hk]
    unfold ownName
    rw [hk]
    have hs:=hg.sign hk
    have hl:ltrI ((t.text.headD 0).toNat:Int)=false:=hs
    simp only [show ((3:Int)==2)=false from rfl,show ((3:Int)==1)=false from rfl,Bool.false_eq_true,if_false,Bool.and_false]
    unfold isName
    show (_ && ltrI (((raw t).data.toList.headD 0).toNat:Int) && _ && _)=false
    rw [raw_list,hl]
    simp
theorem name_none (ht:ts[s.i]?=none):isName (txt ts s)=false:=by
  have:txt ts s=empty:=by
    unfold txt here
    rw [ht]
    cases s.bad <;> rfl
  rw [this]
  exact isName_empty
end
end Go.Proofs.YtfopddgjdaoidaaGreatDoor.syn
namespace Go.Proofs.YtfopddgjdaoidaaGreatDoor.syn
open Go.RowKit
open lexs (Tok Fine)
structure Ld (w:World) (r G:Nat) (ts:List Tok) (s:St):Prop where
  c0:∃ a c,w.cell? ⟨r,0,none⟩=some (.slice a (ts.length - s.i) c)∧ts.length - s.i≤c∧(s.i<ts.length→a=some ⟨G,s.i * 3,none⟩)
  f0:w.frozen? ⟨r,0,none⟩=false
  tok:∀ (k:Nat) (h:k<ts.length),w.cell? ⟨G,k * 3,none⟩=some (.int .i64 ts[k].kind)∧w.cell? ⟨G,k * 3+1,none⟩=some (.string (raw ts[k]))∧w.cell? ⟨G,k * 3+2,none⟩=some (.int .i64 (ts[k].at_:Int))
  old:G<r
  len:ts.length≤3000
  le:s.i≤ts.length
  good:∀ t ∈ ts,Fine t
  ok:s.bad=false
  ops:HasOps w
  low:5<r
section
variable {w w':World} {r G:Nat} {ts:List Tok} {s:St}
theorem Ld.lt (h:Ld w r G ts s):r<w.heap.size:=by obtain ⟨a,c,h0,_⟩:=h.c0;exact World.block_lt_of_cell? w ⟨r,0,none⟩ h0
theorem Ld.gt (h:Ld w r G ts s) (hk:0<ts.length):G<w.heap.size:=World.block_lt_of_cell? w ⟨G,0 * 3,none⟩ (h.tok 0 hk).1
theorem Ld.keep (h:Ld w r G ts s) {row:Option Nat} (hF:w.grownBy w' row) (hr:∀ k,row=some k→r<k):Ld w' r G ts s:=by
  have hb:=hF.block r h.lt (fun e=>by have:=hr r e.symm;omega)
  refine ⟨?_,(World.frozen?_of_block (a:=⟨r,0,none⟩) hb).trans h.f0,?_,h.old,h.len,h.le,h.good,h.ok,?_,h.low⟩
  · obtain ⟨a,c,h0,h1,h2⟩:=h.c0
    exact ⟨a,c,(World.cell?_of_block (a:=⟨r,0,none⟩) hb).trans h0,h1,h2⟩
  · intro k hk
    have hG:=hF.block G (h.gt (by omega)) (fun e=>by have h1:=hr G e.symm;have h2:=h.old;omega)
    rw [World.cell?_of_block (a:=⟨G,k * 3,none⟩) hG,World.cell?_of_block (a:=⟨G,k * 3+1,none⟩) hG,World.cell?_of_block (a:=⟨G,k * 3+2,none⟩) hG]
    exact h.tok k hk
  · obtain ⟨cs,t,fr,h1,h2,h3⟩:=h.ops
    have hl:=h.low
    have hlt:=h.lt
    exact ⟨cs,t,fr,by rw [hF.block _ (by omega) (fun e=>by have:=hr _ e.symm;omega)];exact h1,h2,h3⟩
theorem Ld.alloc (h:Ld w r G ts s) (o:Obj):Ld (w.alloc o) r G ts s:=h.keep (World.grownBy_alloc w o none) (by simp)
theorem Ld.drewN (h:Ld w r G ts s) (n:Nat):Ld (w.drewN n) r G ts s:=⟨h.c0,h.f0,h.tok,h.old,h.len,h.le,h.good,h.ok,h.ops,h.low⟩
theorem Ld.set (h:Ld w r G ts s) {N:Nat} (hN:r<N) (o:Nat) (v:Value):Ld (w.setCell ⟨N,o,none⟩ v) r G ts s :=
  h.keep ((Fr.refl N w).set o v) (fun k e=>by
    obtain rfl:N=k:=by simpa using e
    exact hN)
def hasW (ts:List Tok) (s:St) (ws:List ByteArray):Bool:=ws.any fun y=>eqS (txt ts s) y
theorem hasW_none (ht:¬ s.i<ts.length) {ws:List ByteArray} (hw:ws.all wordy=true):hasW ts s ws=false:=by
  unfold hasW
  rw [List.any_eq_false]
  intro y hy
  rw [List.all_eq_true] at hw
  rw [eq_none (by simp;omega) (hw y hy)]
  simp
theorem hasW_raw (hL:Ld w r G ts s) (ht:s.i<ts.length) {ws:List ByteArray} (hw:ws.all wordy=true):hasW ts s ws=ws.any fun y=>eqS (raw ts[s.i]) y:=by
  unfold hasW
  rw [List.all_eq_true] at hw
  have h:∀ y ∈ ws,eqS (txt ts s) y=eqS (raw ts[s.i]) y:=fun y hy=>eq_raw (hL.good _ (List.getElem_mem ht)) hL.ok (by simp [ht]) (hw y hy)
  clear hw
  induction ws with
  | nil=>rfl
  | cons a l ih =>
    rw [List.any_cons,List.any_cons,h a (by simp),ih (fun y hy=>h y (by simp [hy]))]
def lost (ts:List Tok) (s:St):Value:=match ts[s.i]? with
  | some t=>.iface 115 (.agg #[.int .i64 (t.at_:Int)])
  | none=>.iface 116 (.agg #[])
def Pan (ts:List Tok) (s:St):List PanicEntry:=[{ v:=lost ts s,recovered:=false }]
def Words (w:World) (g:Nat) (ws:List ByteArray):Prop:=∀ (k:Nat) (h:k<ws.length),w.cell? ⟨g,k,none⟩=some (.string ws[k])
theorem any_first {x:ByteArray} {ws:List ByteArray} {k:Nat} (hk:k<ws.length) (h:eqS x ws[k]=true):(ws.any fun y=>eqS x y)=true:=by
  rw [List.any_eq_true]
  exact ⟨ws[k],List.getElem_mem _,h⟩
theorem any_not {x:ByteArray} {ws:List ByteArray} (h:∀ j (hj:j<ws.length),eqS x ws[j]=false):(ws.any fun y=>eqS x y)=false:=by
  rw [List.any_eq_false]
  intro y hy
  obtain ⟨k,hk,rfl⟩:=List.mem_iff_getElem.1 hy
  simp [h k hk]
set_option maxHeartbeats 1000000 in
theorem oindex (x:ByteArray) (ws:List ByteArray) (g c:Nat) (hl:ws.length≤100) (hc:Words w g ws) :
    Calls Tryz.prog 197 #[.slice (some ⟨g,0,none⟩) ws.length c,.string x] w fun e w'=>∃ i:Int,e=.returned (.int .i64 i)∧decide (0≤i)=(ws.any fun y=>eqS x y)∧w'=w:=by
  go_enter Tryz.func197,Tryz.ntmps197
  go_wp2
  go_loop [8] (fun t=>∃ k:Nat,k≤ws.length∧t=.int .i64 k∧Hid (∀ j (hj:j<ws.length),j<k→eqS x ws[j]=false)) (fun t=>ws.length - (intOf t).toNat)
  case atStart=>exact ⟨0,Nat.zero_le _,rfl,fun j _ hj=>by omega⟩
  case round =>
    obtain ⟨k,hk,rfl,HN⟩:=hrel
    by_cases hlt:k<ws.length
    · have hcell:=hc k hlt
      have HC:Hid (Words w g ws):=hc
      clear hc
      have HK:Hid (eqS x ws[k]=eqS x ws[k]):=rfl
      cases he:eqS x ws[k]
      · have HE:Hid (eqS x ws[k]=false):=he
        unfold eqS at he
        go_wp2
        go_round
        case rel=>exact ⟨k+1,by omega,by go_num,fun j hj h1=>by
          rcases Nat.lt_or_ge j k with h | h
          · exact HN.out j hj h
          · have:j=k:=by omega
            subst this
            exact HE.out⟩
        case measure=>simp [intOf];omega
      · have HE:Hid ((ws.any fun y=>eqS x y)=true):=any_first hlt he
        unfold eqS at he
        go_wp2
        go_ret
        exact ⟨(k:Int),rfl,by rw [HE.out];simp,rfl⟩
    · have HE:Hid ((ws.any fun y=>eqS x y)=false):=any_not (fun j hj=>HN.out j hj (by omega))
      clear HN
      go_wp2
      go_ret
      exact ⟨-1,rfl,by rw [HE.out];rfl,rfl⟩
theorem ocontains (x:ByteArray) (ws:List ByteArray) (g c:Nat) (hl:ws.length≤100) (hc:Words w g ws) :
    Calls Tryz.prog 175 #[.slice (some ⟨g,0,none⟩) ws.length c,.string x] w fun e w'=>e=.returned (.bool (ws.any fun y=>eqS x y))∧w'=w:=by
  have h:=oindex x ws g c hl hc
  generalize (ws.any fun y=>eqS x y)=V at *
  go_enter Tryz.func175,Tryz.ntmps175
  go_wp2_with (fail)
  refine h.mono ?_
  rintro e w1 ⟨i,rfl,hi,hw⟩
  obtain rfl:=hw.symm
  go_wp2
  go_ret
  exact ⟨by rw [← hi];rfl,rfl⟩
end
section
variable {w w':World} {r G:Nat} {ts:List Tok} {s:St}
theorem ohas (hL:Ld w r G ts s) (ws:List ByteArray) (g c:Nat) (hl:ws.length≤100) (hw:ws.all wordy=true) (hc:Words w g ws) :
    Calls Tryz.prog 139 #[.pointer (some ⟨r,0,none⟩),.slice (some ⟨g,0,none⟩) ws.length c] w fun e w'=>e=.returned (.bool (hasW ts s ws))∧w'=w:=by
  have c29:Tryz.prog.cellsOf 99=3:=by kernel_rfl
  have hlen:=hL.len
  obtain ⟨a,cp,h0,h1,h2⟩:=hL.c0
  by_cases hlt:s.i<ts.length
  · obtain rfl:=h2 hlt
    rw [hasW_raw hL hlt hw]
    obtain ⟨y0,y1,y2⟩:=hL.tok s.i hlt
    have hC:=ocontains (w:=w) (raw ts[s.i]) ws g c hl hc
    generalize (ws.any fun y=>eqS (raw ts[s.i]) y)=V at *
    generalize raw ts[s.i]=x at *
    have hn:0<ts.length - s.i:=by omega
    have hn':ts.length - s.i≤3000:=by omega
    generalize ts.length - s.i=n at *
    go_enter Tryz.func139,Tryz.ntmps139
    go_wp2_with (fail)
    refine hC.mono ?_
    rintro e w1 ⟨rfl,hw1⟩
    obtain rfl:=hw1.symm
    go_wp2
    go_ret
    exact ⟨rfl,rfl⟩
  · rw [hasW_none hlt hw]
    have hn:ts.length - s.i=0:=by omega
    rw [hn] at h0
    go_enter Tryz.func139,Tryz.ntmps139
    go_wp2
    go_ret
    exact ⟨rfl,rfl⟩
theorem ogiveUp (hL:Ld w r G ts s) :
    Calls Tryz.prog 140 #[.pointer (some ⟨r,0,none⟩)] w fun e w'=>e=.panicked (Pan ts s)∧w'=w:=by
  have c29:Tryz.prog.cellsOf 99=3:=by kernel_rfl
  have hlen:=hL.len
  obtain ⟨a,cp,h0,h1,h2⟩:=hL.c0
  unfold Pan lost
  by_cases hlt:s.i<ts.length
  · obtain rfl:=h2 hlt
    rw [List.getElem?_eq_getElem hlt]
    obtain ⟨y0,y1,y2⟩:=hL.tok s.i hlt
    have hn:0<ts.length - s.i:=by omega
    have hn':ts.length - s.i≤3000:=by omega
    generalize ts.length - s.i=n at *
    dsimp only
    go_enter Tryz.func140,Tryz.ntmps140
    go_wp2
    exact ⟨rfl,rfl,rfl⟩
  · rw [List.getElem?_eq_none (by omega)]
    have hn:ts.length - s.i=0:=by omega
    rw [hn] at h0
    dsimp only
    go_enter Tryz.func140,Tryz.ntmps140
    go_wp2
    exact ⟨rfl,rfl,rfl⟩
theorem onext (hL:Ld w r G ts s) (hlt:s.i<ts.length) :
    Calls Tryz.prog 141 #[.pointer (some ⟨r,0,none⟩)] w fun e w'=>e=.returned (.string (raw ts[s.i]))∧Ld w' r G ts s.next∧Fr r w w':=by
  have c29:Tryz.prog.cellsOf 99=3:=by kernel_rfl
  have hlen:=hL.len
  obtain ⟨a,cp,h0,h1,h2⟩:=hL.c0
  obtain rfl:=h2 hlt
  obtain ⟨y0,y1,y2⟩:=hL.tok s.i hlt
  have hf:=hL.f0
  have hn:0<ts.length - s.i:=by omega
  have hn':ts.length - s.i≤3000:=by omega
  have hN:ts.length - s.next.i=ts.length - s.i - 1:=by unfold St.next;dsimp only;omega
  have key:∀ (a':Option Addr) (c':Nat),ts.length - s.i - 1≤c'→(1<ts.length - s.i→a'=some ⟨G,s.i * 3+3,none⟩)→Ld (w.setCell ⟨r,0,none⟩ (.slice a' (ts.length - s.i - 1) c')) r G ts s.next:=by
    intro a' c' hc' ha'
    refine ⟨⟨a',c',?_,by omega,fun h=>?_⟩,by simp [hf],?_,hL.old,hL.len,hlt,hL.good,hL.ok,?_,hL.low⟩
    · rw [World.cell?_setCell_same _ _ _ h0,hN]
    · rw [ha' (by unfold St.next at h;dsimp only at h;omega)]
      unfold St.next
      simp only [Option.some.injEq,Addr.mk.injEq,true_and,and_true]
      omega
    · intro k hk
      have hG:=hL.old
      rw [jD _ _ _ _ (by simp <;> omega),jD _ _ _ _ (by simp <;> omega),jD _ _ _ _ (by simp <;> omega)]
      exact hL.tok k hk
    · obtain ⟨cs,t,fr,g1,g2,g3⟩:=hL.ops
      have hl:=hL.low
      exact ⟨cs,t,fr,by rw [Below.heap_setCell _ _ _ _ (by simp <;> omega)];exact g1,g2,g3⟩
  have HK:Hid (∀ (a':Option Addr) (c':Nat),ts.length - s.i - 1≤c'→(1<ts.length - s.i→a'=some ⟨G,s.i * 3+3,none⟩)→Ld (w.setCell ⟨r,0,none⟩ (.slice a' (ts.length - s.i - 1) c')) r G ts s.next):=key
  clear key
  generalize ts.length - s.i=n at *
  by_cases hcp:cp=1
  · subst hcp
    have hn1:n=1:=by omega
    subst hn1
    go_enter Tryz.func141,Tryz.ntmps141
    go_wp2
    go_ret
    exact ⟨rfl,HK.out (some ⟨G,s.i * 3,none⟩) 0 (by omega) (fun h=>by omega),(Fr.refl _ _).set _ _⟩
  · go_enter Tryz.func141,Tryz.ntmps141
    go_wp2
    go_ret
    exact ⟨rfl,HK.out _ _ (by omega) (fun h=>rfl),(Fr.refl _ _).set _ _⟩
theorem hasW_lt {ws:List ByteArray} (hw:ws.all wordy=true) (h:hasW ts s ws=true):s.i<ts.length:=by
  rcases Nat.lt_or_ge s.i ts.length with h1 | h1
  · exact h1
  · rw [hasW_none (by omega) hw] at h
    simp at h
theorem oskip_yes (hL:Ld w r G ts s) (ws:List ByteArray) (g c:Nat) (hl:ws.length≤100) (hw:ws.all wordy=true) (hc:Words w g ws) (h:hasW ts s ws=true) :
    Calls Tryz.prog 109 #[.pointer (some ⟨r,0,none⟩),.slice (some ⟨g,0,none⟩) ws.length c] w fun e w'=>e=.returned (.bool true)∧Ld w' r G ts s.next∧Fr r w w':=by
  have hH:=ohas hL ws g c hl hw hc
  rw [h] at hH
  have hN:=onext hL (hasW_lt hw h)
  go_enter Tryz.func109,Tryz.ntmps109
  go_wp2_with (fail)
  refine hH.mono ?_
  rintro e w1 ⟨rfl,hw1⟩
  obtain rfl:=hw1.symm
  go_wp2_with (fail)
  refine hN.mono ?_
  rintro e w2 ⟨rfl,hL2,hF2⟩
  go_wp2
  go_ret
  exact ⟨rfl,hL2,hF2⟩
theorem oskip_no (hL:Ld w r G ts s) (ws:List ByteArray) (g c:Nat) (hl:ws.length≤100) (hw:ws.all wordy=true) (hc:Words w g ws) (h:hasW ts s ws=false) :
    Calls Tryz.prog 109 #[.pointer (some ⟨r,0,none⟩),.slice (some ⟨g,0,none⟩) ws.length c] w fun e w'=>e=.returned (.bool false)∧w'=w:=by
  have hH:=ohas hL ws g c hl hw hc
  rw [h] at hH
  go_enter Tryz.func109,Tryz.ntmps109
  go_wp2_with (fail)
  refine hH.mono ?_
  rintro e w1 ⟨rfl,hw1⟩
  obtain rfl:=hw1.symm
  go_wp2
  go_ret
  exact ⟨rfl,rfl⟩
theorem otake_yes (hL:Ld w r G ts s) (ws:List ByteArray) (g c:Nat) (hl:ws.length≤100) (hw:ws.all wordy=true) (hc:Words w g ws) (h:hasW ts s ws=true) :
    Calls Tryz.prog 107 #[.pointer (some ⟨r,0,none⟩),.slice (some ⟨g,0,none⟩) ws.length c] w fun e w'=>e=.returned (.string (raw (ts[s.i]'(hasW_lt hw h))))∧Ld w' r G ts s.next∧Fr r w w':=by
  have hH:=ohas hL ws g c hl hw hc
  rw [h] at hH
  have hN:=onext hL (hasW_lt hw h)
  generalize raw (ts[s.i]'(hasW_lt hw h))=x at *
  go_enter Tryz.func107,Tryz.ntmps107
  go_wp2_with (fail)
  refine hH.mono ?_
  rintro e w1 ⟨rfl,hw1⟩
  obtain rfl:=hw1.symm
  go_wp2_with (fail)
  refine hN.mono ?_
  rintro e w2 ⟨rfl,hL2,hF2⟩
  go_wp2
  go_ret
  exact ⟨rfl,hL2,hF2⟩
theorem otake_no (hL:Ld w r G ts s) (ws:List ByteArray) (g c:Nat) (hl:ws.length≤100) (hw:ws.all wordy=true) (hc:Words w g ws) (h:hasW ts s ws=false) :
    Calls Tryz.prog 107 #[.pointer (some ⟨r,0,none⟩),.slice (some ⟨g,0,none⟩) ws.length c] w fun e w'=>e=.panicked (Pan ts s)∧w'=w:=by
  have hH:=ohas hL ws g c hl hw hc
  rw [h] at hH
  have hN:=ogiveUp hL
  go_enter Tryz.func107,Tryz.ntmps107
  go_wp2_with (fail)
  refine hH.mono ?_
  rintro e w1 ⟨rfl,hw1⟩
  obtain rfl:=hw1.symm
  go_wp2_with (fail)
  refine hN.mono ?_
  rintro e w2 ⟨rfl,hw2⟩
  obtain rfl:=hw2.symm
  go_wp2
  exact ⟨rfl,rfl,rfl⟩
end
end Go.Proofs.YtfopddgjdaoidaaGreatDoor.syn
