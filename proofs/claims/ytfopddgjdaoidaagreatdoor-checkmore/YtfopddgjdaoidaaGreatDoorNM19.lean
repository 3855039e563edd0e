/- What the reference's Weight, VarOf and Imports answer: contracts. -/
import Derived.Test.YtfopddgjdaoidaaGreatDoorNM18
import Derived.Lib.SmallJoins
import Derived.WalkSpells
set_option linter.unusedVariables false
set_option maxRecDepth 100000
set_option linter.unusedSimpArgs false
namespace Go.Proofs.YtfopddgjdaoidaaGreatDoor.chk
open lexs (Tok scan scan_len)
open syn face
def LongN (x:ByteArray):Prop:=isName x=true∨∃ a b,isName a=true∧isName b=true∧x=a++⟨#[46]⟩++b
inductive ExT:Tree→Prop
  | num (n:Nat):ExT (.node 15 empty n [])
  | nam {x:ByteArray}:LongN x→ExT (.node 16 x 0 [])
  | item {x:ByteArray} {e:Tree}:LongN x→ExT e→ExT (.node 17 x 0 [e])
  | call {x:ByteArray} {ks:List Tree}:LongN x→(∀ t ∈ ks,ExT t)→ExT (.node 18 x 0 ks)
  | op {m:Int} {a b:Tree}:ExT a→ExT b→ExT (.node 19 empty m [a,b])
  | neg {a:Tree}:ExT a→ExT (.node 20 empty 0 [a])
  | nott {a:Tree}:ExT a→ExT (.node 21 empty 0 [a])
inductive PlT:Tree→Prop
  | nam {x:ByteArray}:LongN x→PlT (.node 16 x 0 [])
  | item {x:ByteArray} {e:Tree}:LongN x→ExT e→PlT (.node 17 x 0 [e])
theorem PlT.ex {t:Tree} (h:PlT t):ExT t:=by
  cases h with
  | nam h=>exact .nam h
  | item h e=>exact .item h e
inductive CaT:Tree→Prop
  | mk {x:ByteArray} {ks:List Tree}:LongN x→(∀ t ∈ ks,ExT t)→CaT (.node 18 x 0 ks)
theorem CaT.ex {t:Tree} (h:CaT t):ExT t:=by
  cases h with
  | mk h e=>exact .call h e
mutual
inductive StT:Tree→Prop
  | loc {x:ByteArray} (l:Bool) {e:Tree}:isName x=true→ExT e→StT (.node 7 x (bI l) [e])
  | set {p e:Tree}:PlT p→ExT e→StT (.node 8 empty 0 [p,e])
  | dd {c:Tree}:CaT c→StT (.node 9 empty 0 [c])
  | ift {e b:Tree}:ExT e→BlT b→StT (.node 10 empty 0 [e,b])
  | ife {e b c:Tree}:ExT e→BlT b→BlT c→StT (.node 10 empty 0 [e,b,c])
  | whi {e b:Tree}:ExT e→BlT b→StT (.node 11 empty 0 [e,b])
  | out (l:Bool) {e:Tree}:ExT e→StT (.node 12 empty (bI l) [e])
  | inn (l:Bool) {p:Tree}:PlT p→StT (.node 13 empty (bI l) [p])
  | ret {e:Tree}:ExT e→StT (.node 14 empty 0 [e])
inductive BlT:Tree→Prop
  | mk {ks:List Tree}:(∀ t ∈ ks,StT t)→BlT (.node 6 empty 0 ks)
end
section
variable (ts:List Tok)
theorem eat_bad (x:ByteArray) (s:St):(eat ts x s).2.bad=s.bad:=by
  unfold eat
  split <;> rfl
theorem whole_long {s:St} (h:(whole ts s).2.bad=false):LongN (whole ts s).1∧s.bad=false:=by
  refine ⟨?_,ok_of (fun hs=>whole_st hs) h⟩
  unfold whole at h ⊢
  dsimp only at h ⊢
  split at h
  · rename_i he
    rw [if_pos he]
    obtain ⟨n2,b2⟩:=name_named ts h
    rw [eat_bad] at b2
    obtain ⟨n1,_⟩:=name_named ts b2
    exact .inr ⟨_,_,n1,n2,rfl⟩
  · rename_i he
    rw [if_neg he]
    exact .inl (name_named ts h).1
structure ShE (f:Nat):Prop where
  ex:∀ s q,exprF ts f s=some q→q.2.bad=false→ExT q.1
  bo:∀ l s q,boundF ts f l s=some q→q.2.bad=false→ExT q.1
  bl:∀ l n s q,ExT n→boundL ts f l n s=some q→q.2.bad=false→ExT q.1
  un:∀ s q,unaryF ts f s=some q→q.2.bad=false→ExT q.1
  ak:∀ s q,askedF ts f s=some q→q.2.bad=false→ExT q.1
  pl:∀ x s q,LongN x→placeF ts f x s=some q→q.2.bad=false→PlT q.1
  ca:∀ x s q,LongN x→callF ts f x s=some q→q.2.bad=false→CaT q.1
  cl:∀ x ks s on q,LongN x→(∀ t ∈ ks,ExT t)→callL ts f x ks s on=some q→q.2.bad=false→CaT q.1
theorem number_ex {s:St} (h:(number ts s).2.bad=false):ExT (number ts s).1:=by
  unfold number at h ⊢
  cases hh:here ts s with
  | none=>rw [hh] at h;simp [St.fail] at h
  | some t =>
    rw [hh] at h
    dsimp only at h ⊢
    split at h
    · rename_i h2
      rw [if_pos h2]
      exact .num _
    · simp [St.fail] at h
theorem shE:∀ f,ShE ts f
  | 0=>by
    constructor
    · intro s q h;unfold exprF at h;cases h
    · intro l s q h;unfold boundF at h;cases h
    · intro l n s q hn h;unfold boundL at h;cases h
    · intro s q h;unfold unaryF at h;cases h
    · intro s q h;unfold askedF at h;cases h
    · intro x s q hx h;unfold placeF at h;cases h
    · intro x s q hx h;unfold callF at h;cases h
    · intro x ks s on q hx hk h;unfold callL at h;cases h
  | f+1=>by
    have ih:=shE f
    have st:=Go.Proofs.YtfopddgjdaoidaaGreatDoor.syn.stuck ts f
    constructor
    · intro s q h hb
      unfold exprF at h
      split at h
      · rename_i hs
        cases h
        rw [hs] at hb
        cases hb
      · exact ih.bo _ _ _ h hb
    · intro l s q h hb
      unfold boundF at h
      split at h
      · exact ih.un _ _ h hb
      · obtain ⟨p,hp,h⟩:=Option.bind_eq_some_iff.1 h
        have b1:p.2.bad=false:=ok_of (fun hx=>st.bl _ _ _ _ hx h) hb
        exact ih.bl _ _ _ _ (ih.bo _ _ _ hp b1) h hb
    · intro l n s q hn h hb
      unfold boundL at h
      split at h
      · cases h;exact hn
      · split at h
        · cases h;exact hn
        · obtain ⟨p,hp,h⟩:=Option.bind_eq_some_iff.1 h
          split at h
          · cases h
            exact .op hn (ih.bo _ _ _ hp hb)
          · have b1:p.2.bad=false:=ok_of (fun hx=>st.bl _ _ _ _ hx h) hb
            exact ih.bl _ _ _ _ (.op hn (ih.bo _ _ _ hp b1)) h hb
    · intro s q h hb
      unfold unaryF at h
      split at h
      · obtain ⟨p,hp,h⟩:=Option.bind_eq_some_iff.1 h
        cases h;exact .neg (ih.un _ _ hp hb)
      · split at h
        · obtain ⟨p,hp,h⟩:=Option.bind_eq_some_iff.1 h
          cases h;exact .nott (ih.un _ _ hp hb)
        · split at h
          · exact ih.ak _ _ h hb
          · split at h
            · cases h;exact number_ex ts hb
            · split at h
              · have b1:(whole ts s).2.bad=false:=ok_of (fun hx=>st.c _ _ _ hx h) hb
                exact (ih.ca _ _ _ (whole_long ts b1).1 h hb).ex
              · have b1:(whole ts s).2.bad=false:=ok_of (fun hx=>st.p _ _ _ hx h) hb
                exact (ih.pl _ _ _ (whole_long ts b1).1 h hb).ex
    · intro s q h hb
      unfold askedF at h
      obtain ⟨p,hp,h⟩:=Option.bind_eq_some_iff.1 h
      cases h
      have b1:p.2.bad=false:=ok_of (t:=must ts ⟨#[41]⟩ p.2) (fun hx=>must_st (by decide) hx) hb
      show ExT p.1
      exact ih.ex _ _ hp b1
    · intro x s q hx h hb
      unfold placeF at h
      split at h
      · obtain ⟨p,hp,h⟩:=Option.bind_eq_some_iff.1 h
        cases h;exact .item hx (ih.ex _ _ hp (ok_of (fun hx=>must_st (by decide) hx) hb))
      · cases h;exact .nam hx
    · intro x s q hx h hb
      unfold callF at h
      split at h
      · cases h;exact .mk hx (fun t ht=>by cases ht)
      · exact ih.cl _ _ _ _ _ hx (fun t ht=>by cases ht) h hb
    · intro x ks s on q hx hk h hb
      unfold callL at h
      split at h
      · obtain ⟨p,hp,h⟩:=Option.bind_eq_some_iff.1 h
        have b1:(eat ts ⟨#[44]⟩ p.2).2.bad=false:=ok_of (fun hx=>st.cl _ _ _ _ _ hx h) hb
        rw [eat_bad] at b1
        refine ih.cl _ _ _ _ _ hx ?_ h hb
        intro t ht
        rw [List.mem_append] at ht
        rcases ht with ht | ht
        · exact hk t ht
        · simp only [List.mem_singleton] at ht;subst ht;exact ih.ex _ _ hp b1
      · cases h
        exact .mk hx hk
structure ShS (f:Nat):Prop where
  bl:∀ s q,blockF ts f s=some q→q.2.bad=false→BlT q.1
  li:∀ ks s q,(∀ t ∈ ks,StT t)→blockL ts f ks s=some q→q.2.bad=false→BlT q.1
  st:∀ s q,statF ts f s=some q→q.2.bad=false→StT q.1
theorem shS:∀ f,ShS ts f
  | 0=>by
    constructor
    · intro s q h;unfold blockF at h;cases h
    · intro ks s q hk h;unfold blockL at h;cases h
    · intro s q h;unfold statF at h;cases h
  | f+1=>by
    have ih:=shS f
    have ie:=shE ts f
    have se:=Go.Proofs.YtfopddgjdaoidaaGreatDoor.syn.stuck ts f
    have sb:=stuck2 ts f
    constructor
    · intro s q h hb
      unfold blockF at h
      exact ih.li _ _ _ (fun t ht=>by cases ht) h hb
    · intro ks s q hk h hb
      unfold blockL at h
      split at h
      · cases h;exact .mk hk
      · split at h
        · cases h;exact .mk hk
        · obtain ⟨p,hp,h⟩:=Option.bind_eq_some_iff.1 h
          have b1:p.2.bad=false:=ok_of (fun hx=>sb.bl _ _ _ hx h) hb
          refine ih.li _ _ _ ?_ h hb
          intro t ht
          rw [List.mem_append] at ht
          rcases ht with ht | ht
          · exact hk t ht
          · simp only [List.mem_singleton] at ht;subst ht;exact ih.st _ _ hp b1
    · intro s q h hb
      unfold statF at h
      split at h
      · obtain ⟨x,hx,h⟩:=Option.bind_eq_some_iff.1 h
        obtain ⟨b,hbk,h⟩:=Option.bind_eq_some_iff.1 h
        split at h
        · obtain ⟨c,hc,h⟩:=Option.bind_eq_some_iff.1 h
          cases h
          have b1:b.2.next.bad=false:=ok_of (fun hy=>sb.bk _ _ hy hc) hb
          replace b1:b.2.bad=false:=b1
          have b2:x.2.bad=false:=ok_of (fun hy=>sb.bk _ _ hy hbk) b1
          exact .ife (ie.ak _ _ hx b2) (ih.bl _ _ hbk b1) (ih.bl _ _ hc hb)
        · cases h
          have b2:x.2.bad=false:=ok_of (fun hy=>sb.bk _ _ hy hbk) hb
          exact .ift (ie.ak _ _ hx b2) (ih.bl _ _ hbk hb)
      · split at h
        · obtain ⟨x,hx,h⟩:=Option.bind_eq_some_iff.1 h
          obtain ⟨b,hbk,h⟩:=Option.bind_eq_some_iff.1 h
          cases h
          have b2:x.2.bad=false:=ok_of (fun hy=>sb.bk _ _ hy hbk) hb
          exact .whi (ie.ak _ _ hx b2) (ih.bl _ _ hbk hb)
        · split at h
          · obtain ⟨x,hx,h⟩:=Option.bind_eq_some_iff.1 h
            cases h
            have b1:x.2.bad=false:=ok_of (fun hy=>must_st (by decide) hy) hb
            have b2:(must ts ⟨#[61]⟩ (name ts (label ts s).2).2).bad=false:=ok_of (fun hy=>se.e _ _ hy hx) b1
            have b3:(name ts (label ts s).2).2.bad=false:=ok_of (fun hy=>must_st (by decide) hy) b2
            obtain ⟨l,hl⟩:=label_is ts s
            rw [hl]
            exact .loc l (name_named ts b3).1 (ie.ex _ _ hx b1)
          · split at h
            · obtain ⟨x,hx,h⟩:=Option.bind_eq_some_iff.1 h
              cases h
              have b1:x.2.bad=false:=ok_of (fun hy=>must_st (by decide) hy) hb
              have b2:(whole ts s.next).2.bad=false:=ok_of (fun hy=>se.c _ _ _ hy hx) b1
              exact .dd (ie.ca _ _ _ (whole_long ts b2).1 hx b1)
            · split at h
              · obtain ⟨x,hx,h⟩:=Option.bind_eq_some_iff.1 h
                cases h
                have b1:x.2.bad=false:=ok_of (fun hy=>must_st (by decide) hy) hb
                obtain ⟨l,hl⟩:=label_is ts s.next
                rw [hl]
                exact .out l (ie.ex _ _ hx b1)
              · split at h
                · obtain ⟨x,hx,h⟩:=Option.bind_eq_some_iff.1 h
                  cases h
                  have b1:x.2.bad=false:=ok_of (fun hy=>must_st (by decide) hy) hb
                  have b2:(whole ts (label ts s.next).2).2.bad=false:=ok_of (fun hy=>se.p _ _ _ hy hx) b1
                  obtain ⟨l,hl⟩:=label_is ts s.next
                  rw [hl]
                  exact .inn l (ie.pl _ _ _ (whole_long ts b2).1 hx b1)
                · split at h
                  · obtain ⟨x,hx,h⟩:=Option.bind_eq_some_iff.1 h
                    cases h
                    have b1:x.2.bad=false:=ok_of (fun hy=>must_st (by decide) hy) hb
                    exact .ret (ie.ex _ _ hx b1)
                  · obtain ⟨x,hx,h⟩:=Option.bind_eq_some_iff.1 h
                    obtain ⟨y,hy,h⟩:=Option.bind_eq_some_iff.1 h
                    cases h
                    have b1:y.2.bad=false:=ok_of (fun hz=>must_st (by decide) hz) hb
                    have b2:(must ts ⟨#[61]⟩ x.2).bad=false:=ok_of (fun hz=>se.e _ _ hz hy) b1
                    have b3:x.2.bad=false:=ok_of (fun hz=>must_st (by decide) hz) b2
                    have b4:(whole ts s).2.bad=false:=ok_of (fun hz=>se.p _ _ _ hz hx) b3
                    exact .set (ie.pl _ _ _ (whole_long ts b4).1 hx b3) (ie.ex _ _ hy b1)
end
def deepK:Kid→Prop
  | .proc _ _ _ _ _ b=>BlT b
  | _=>True
section
variable (ts:List Tok)
theorem decl_is4 (f:Nat) (s:St) (q:Tree × St) (h:declF ts f s=some q) (hbad:q.2.bad=false):∃ k:Kid,q.1=k.tree∧k.good∧k.named∧deepK k∧s.bad=false:=by
  unfold declF at h
  obtain ⟨p,hp⟩:=pub_is ts s
  rw [hp] at h
  split at h
  · obtain ⟨a,ha,h⟩:=Option.bind_eq_some_iff.1 h
    obtain ⟨b,hb,h⟩:=Option.bind_eq_some_iff.1 h
    cases h
    have b1:(givesS ts (must ts ⟨#[41]⟩ a.2)).bad=false:=ok_of (fun hx=>(stuck2 ts f).bk _ _ hx hb) hbad
    have b2:(must ts ⟨#[41]⟩ a.2).bad=false:=ok_of (fun hx=>givesS_st ts hx) b1
    have b3:a.2.bad=false:=ok_of (fun hx=>must_st (by decide) hx) b2
    have b4:(must ts ⟨#[40]⟩ (name ts (pubS ts s).next).2).bad=false:=ok_of (fun hx=>params_st ts f _ _ hx ha) b3
    have b5:(name ts (pubS ts s).next).2.bad=false:=ok_of (fun hx=>must_st (by decide) hx) b4
    obtain ⟨n1,b6⟩:=name_named ts b5
    have b7:s.bad=false:=ok_of (fun hx=>pubS_st ts hx) b6
    obtain ⟨ps,hps,hsz⟩:∃ ps:List (ByteArray × Bool),a.1=ps.map parT∧∀ q ∈ ps,isName q.1=true:=by
      unfold params at ha
      split at ha
      · cases ha;exact ⟨[],rfl,fun q hq=>by cases hq⟩
      · exact paramsL_is3 ts f [] _ _ (fun q hq=>by cases hq) ha b3
    obtain ⟨l,g,hg⟩:=gives_is ts p (must ts ⟨#[41]⟩ a.2)
    refine ⟨.proc (name ts (pubS ts s).next).1 p l g ps b.1,?_,⟨face.name_size ts _,fun q hq=>name_short (hsz q hq),(inS ts f).bl _ _ hb⟩,⟨n1,hsz⟩,(shS ts f).bl _ _ hb hbad,b7⟩
    show Tree.node 4 _ _ _=Tree.node 4 _ _ _
    rw [hg,hps]
  · cases h
    have b1:(varS ts (name ts (label ts (pubS ts s)).2).2).2.bad=false:=ok_of (fun hx=>must_st (by decide) hx) hbad
    have b2:(name ts (label ts (pubS ts s)).2).2.bad=false:=ok_of (fun hx=>varS_st ts hx) b1
    obtain ⟨n1,b3⟩:=name_named ts b2
    have b4:(pubS ts s).bad=false:=ok_of (fun hx=>label_st hx) b3
    have b5:s.bad=false:=ok_of (fun hx=>pubS_st ts hx) b4
    obtain ⟨l,hl⟩:=label_is ts (pubS ts s)
    rw [hl]
    unfold varS
    split
    · obtain ⟨n,hn⟩:=number_is ts (name ts (label ts (pubS ts s)).2).2.next
      rw [hn]
      exact ⟨.var _ p l (some n),rfl,face.name_size ts _,n1,trivial,b5⟩
    · exact ⟨.var _ p l none,rfl,face.name_size ts _,n1,trivial,b5⟩
theorem importsL_is4:∀ (f:Nat) (ks:List Kid) (s:St) (q:List Tree × St),(∀ k ∈ ks,k.good∧k.named∧deepK k)→importsL ts f (ks.map Kid.tree) s=some q→q.2.bad=false→∃ ks':List Kid,q.1=ks'.map Kid.tree∧∀ k ∈ ks',k.good∧k.named∧deepK k
  | 0,ks,s,q,hk,h,hb=>by unfold importsL at h;cases h
  | f+1,ks,s,q,hk,h,hb=>by
    unfold importsL at h
    split at h
    · have e:ks.map Kid.tree++[.node 2 (name ts s.next).1 0 []]=(ks++[Kid.imp (name ts s.next).1]).map Kid.tree:=by rw [List.map_append];rfl
      rw [e] at h
      have b1:(must ts ⟨#[59]⟩ (name ts s.next).2).bad=false:=ok_of (fun hx=>importsL_st ts f _ _ _ hx h) hb
      have b2:(name ts s.next).2.bad=false:=ok_of (fun hx=>must_st (by decide) hx) b1
      refine importsL_is4 f _ _ _ ?_ h hb
      intro k hm
      rw [List.mem_append] at hm
      rcases hm with hm | hm
      · exact hk k hm
      · simp only [List.mem_singleton] at hm;subst hm;exact ⟨face.name_size ts _,(name_named ts b2).1,trivial⟩
    · cases h;exact ⟨ks,rfl,hk⟩
theorem declsL_is4:∀ (f:Nat) (ks:List Kid) (s:St) (q:List Tree × St),(∀ k ∈ ks,k.good∧k.named∧deepK k)→declsL ts f (ks.map Kid.tree) s=some q→q.2.bad=false→∃ ks':List Kid,q.1=ks'.map Kid.tree∧∀ k ∈ ks',k.good∧k.named∧deepK k
  | 0,ks,s,q,hk,h,hb=>by unfold declsL at h;cases h
  | f+1,ks,s,q,hk,h,hb=>by
    unfold declsL at h
    split at h
    · cases h;exact ⟨ks,rfl,hk⟩
    · obtain ⟨p,hp,h⟩:=Option.bind_eq_some_iff.1 h
      have b1:p.2.bad=false:=ok_of (fun hx=>declsL_st ts f _ _ _ hx h) hb
      obtain ⟨k,hk1,hk2,hk3,hk4,_⟩:=decl_is4 ts _ _ _ hp b1
      have e:ks.map Kid.tree++[p.1]=(ks++[k]).map Kid.tree:=by rw [List.map_append,hk1];rfl
      rw [e] at h
      refine declsL_is4 f _ _ _ ?_ h hb
      intro k' hm
      rw [List.mem_append] at hm
      rcases hm with hm | hm
      · exact hk k' hm
      · simp only [List.mem_singleton] at hm;subst hm;exact ⟨hk2,hk3,hk4⟩
end
theorem parse_shape4 (x:ByteArray) (h:(parse x).code=0):∃ (m:ByteArray) (ks:List Kid),(parse x).tree=.node 1 m 0 (ks.map Kid.tree)∧m.size≤16∧isName m=true∧(∀ k ∈ ks,k.good∧k.named∧deepK k)∧fitsT (parse x).tree=true:=by
  unfold parse at h ⊢
  cases hs:scan x.data.toList with
  | err c p =>
    rw [hs] at h
    exact absurd h (lexs.scan_err hs)
  | ok ts =>
    obtain ⟨p,q,hp,hq,hm⟩:=moduleF_has (ts:=ts) (scan_len hs)
    rw [hs] at h
    simp only [hm] at h ⊢
    unfold judge at h ⊢
    cases hb:q.2.bad with
    | true =>
      rw [if_pos hb] at h
      simp at h
    | false =>
      rw [if_neg (by simp [hb])] at h ⊢
      cases hf:fitsT (.node 1 (headX ts) 0 q.1) with
      | false =>
        rw [if_neg (by simp [hf])] at h
        simp at h
      | true =>
        rw [if_pos rfl]
        have b1:p.2.bad=false:=ok_of (fun hx=>declsL_st ts _ _ _ _ hx hq) hb
        have b2:(headS ts).bad=false:=ok_of (fun hx=>importsL_st ts _ _ _ _ hx hp) b1
        have b3:(name ts (must ts ⟨#[109,111,100,117,108,101]⟩ ⟨0,false⟩)).2.bad=false:=ok_of (fun hx=>must_st (by decide) hx) b2
        obtain ⟨ks,e1,hk⟩:=importsL_is4 ts _ [] _ _ (fun k hk=>by cases hk) hp b1
        rw [e1] at hq
        obtain ⟨ks',e2,hk'⟩:=declsL_is4 ts _ ks _ _ hk hq hb
        exact ⟨headX ts,ks',by show Tree.node 1 _ 0 q.1=_;rw [e2],face.name_size ts _,(name_named ts b3).1,hk',hf⟩
end Go.Proofs.YtfopddgjdaoidaaGreatDoor.chk
namespace Go.Proofs.YtfopddgjdaoidaaGreatDoor.face
open Go.RowKit Go.ChangeShapes Go.WideShapes
open syn (isName eqS)
structure VarD where
  name:ByteArray
  pub:Bool
  label:Int
  size:Int
structure ProcD where
  name:ByteArray
  pub:Bool
  params:List Int
  writes:Int
  gives:Bool
  given:Int
structure FaceD where
  module:ByteArray
  vars:List VarD
  procs:List ProcD
instance:Inhabited VarD:=⟨⟨default,default,default,default⟩⟩
instance:Inhabited ProcD:=⟨⟨default,default,default,default,default,default⟩⟩
def IntsIn (w:World) (v:Value) (l:List Int):Prop:=∃ a c,v=.slice a l.length c∧l.length≤9223372036854775807 ∧
  (l≠[]→∃ g o,a=some ⟨g,o,none⟩∧∀ i (h:i<l.length),w.cell? ⟨g,o+i,none⟩=some (.int .i64 l[i]))
def VarsIn (w:World) (v:Value) (l:List VarD):Prop:=∃ a c,v=.slice a l.length c∧l.length≤4611686018427387903 ∧
  (l≠[]→∃ g o,a=some ⟨g,o,none⟩∧∀ i (h:i<l.length),w.cell? ⟨g,o+i * 4,none⟩=some (.string l[i].name)∧w.cell? ⟨g,o+i * 4+1,none⟩=some (.bool l[i].pub) ∧
    w.cell? ⟨g,o+i * 4+2,none⟩=some (.int .i64 l[i].label)∧w.cell? ⟨g,o+i * 4+3,none⟩=some (.int .i64 l[i].size))
def ProcsIn (w:World) (v:Value) (l:List ProcD):Prop:=∃ a c,v=.slice a l.length c∧l.length≤4611686018427387903 ∧
  (l≠[]→∃ g o,a=some ⟨g,o,none⟩∧∀ i (h:i<l.length),w.cell? ⟨g,o+i * 6,none⟩=some (.string l[i].name)∧w.cell? ⟨g,o+i * 6+1,none⟩=some (.bool l[i].pub) ∧
    (∃ u,w.cell? ⟨g,o+i * 6+2,none⟩=some u∧IntsIn w u l[i].params) ∧
    w.cell? ⟨g,o+i * 6+3,none⟩=some (.int .i64 l[i].writes)∧w.cell? ⟨g,o+i * 6+4,none⟩=some (.bool l[i].gives)∧w.cell? ⟨g,o+i * 6+5,none⟩=some (.int .i64 l[i].given))
def FaceIn (w:World) (v:Value) (f:FaceD):Prop:=∃ vv pv,v=.agg #[.string f.module,vv,pv]∧VarsIn w vv f.vars∧ProcsIn w pv f.procs
def procV (p:ProcD) (u:Value):Value:=.agg #[.string p.name,.bool p.pub,u,.int .i64 p.writes,.bool p.gives,.int .i64 p.given]
def varV (v:VarD):Value:=.agg #[.string v.name,.bool v.pub,.int .i64 v.label,.int .i64 v.size]
/-! what was there stays -/
theorem keep {w w':World} {a:Addr} {x:Value} (h:w.cell? a=some x) (hb:Below w.heap.size w w'):w'.cell? a=some x:=by
  rw [hb.cell (World.block_lt_of_cell? w a h)];exact h
theorem IntsIn.below {w w':World} {v:Value} {l:List Int} (h:IntsIn w v l) (hb:Below w.heap.size w w'):IntsIn w' v l:=by
  obtain ⟨a,c,e,hl,hk⟩:=h
  refine ⟨a,c,e,hl,fun hne=>?_⟩
  obtain ⟨g,o,e2,hc⟩:=hk hne
  exact ⟨g,o,e2,fun i hi=>keep (hc i hi) hb⟩
theorem VarsIn.below {w w':World} {v:Value} {l:List VarD} (h:VarsIn w v l) (hb:Below w.heap.size w w'):VarsIn w' v l:=by
  obtain ⟨a,c,e,hl,hk⟩:=h
  refine ⟨a,c,e,hl,fun hne=>?_⟩
  obtain ⟨g,o,e2,hc⟩:=hk hne
  exact ⟨g,o,e2,fun i hi=>⟨keep (hc i hi).1 hb,keep (hc i hi).2.1 hb,keep (hc i hi).2.2.1 hb,keep (hc i hi).2.2.2 hb⟩⟩
theorem ProcsIn.below {w w':World} {v:Value} {l:List ProcD} (h:ProcsIn w v l) (hb:Below w.heap.size w w'):ProcsIn w' v l:=by
  obtain ⟨a,c,e,hl,hk⟩:=h
  refine ⟨a,c,e,hl,fun hne=>?_⟩
  obtain ⟨g,o,e2,hc⟩:=hk hne
  refine ⟨g,o,e2,fun i hi=>?_⟩
  obtain ⟨h0,h1,⟨u,h2,hu⟩,h3,h4,h5⟩:=hc i hi
  exact ⟨keep h0 hb,keep h1 hb,⟨u,keep h2 hb,hu.below hb⟩,keep h3 hb,keep h4 hb,keep h5 hb⟩
theorem FaceIn.below {w w':World} {v:Value} {f:FaceD} (h:FaceIn w v f) (hb:Below w.heap.size w w'):FaceIn w' v f:=by
  obtain ⟨vv,pv,e,h1,h2⟩:=h
  exact ⟨vv,pv,e,h1.below hb,h2.below hb⟩
/-! an argument is opened -/
theorem plain_addr {w:World} {a:Addr} {v:Value} (h:w.cell? a=some v):∃ g o,a=⟨g,o,none⟩:=by
  obtain ⟨g,o,s⟩:=a
  cases s with
  | none=>exact ⟨g,o,rfl⟩
  | some s =>
    unfold World.cell? at h
    simp only at h
    split at h
    · simp at h
    · cases h
section
variable {H:Type} {enc:TypeId × Value→H} {W:World} {n:Nat}
theorem cell4:Tryz.prog.cellsOf 76=4:=by kernel_rfl
theorem cell6:Tryz.prog.cellsOf 80=6:=by kernel_rfl
theorem cell1s:Tryz.prog.cellsOf 9=1:=by kernel_rfl
theorem cell1b:Tryz.prog.cellsOf 4=1:=by kernel_rfl
theorem cell1i:Tryz.prog.cellsOf 3=1:=by kernel_rfl
theorem cell1l:Tryz.prog.cellsOf 51=1:=by kernel_rfl
theorem cell3:Tryz.prog.cellsOf 44=3:=by kernel_rfl
theorem maxLen_le:maxLen≤9223372036854775807:=by unfold maxLen;omega
theorem reach_le:reachBytes≤4611686018427387903:=by decide
theorem bytesVar:Tryz.prog.bytesOf 76=40:=by kernel_rfl
theorem bytesProc:Tryz.prog.bytesOf 80=72:=by kernel_rfl
theorem open_ints' {v:Value} {x:DataW H × List MemPlace} (h:DataW.trod enc Tryz.prog W 0 (fun _=>true) true n 51 [v]=some x):∃ l,IntsIn W v l:=by
  rcases open_ints Tryz.underlying51 Tryz.underlying3 cell1i h with ⟨h0,_⟩ | ⟨a,len,cap,zs,h0,_,hl,hm,hz,_,hc,_⟩
  · simp only [List.cons.injEq,and_true] at h0
    exact ⟨[],none,0,h0,by simp,fun h=>absurd rfl h⟩
  · simp only [List.cons.injEq,and_true] at h0
    simp only [if_true] at hz
    have hlen:(zs.take len).length=len:=by rw [List.length_take];omega
    refine ⟨zs.take len,some a,cap,by rw [hlen];exact h0,by rw [hlen];have:=maxLen_le;omega,fun hne=>?_⟩
    have hpos:0<len:=by
      rcases Nat.eq_zero_or_pos len with h | h
      · subst h;simp at hne
      · exact h
    have h00:=hc 0 (by omega)
    rw [Addr.add,if_pos rfl] at h00
    obtain ⟨g,o,rfl⟩:=plain_addr h00
    refine ⟨g,o,rfl,fun i hi=>?_⟩
    rw [hlen] at hi
    have:=hc i (by omega)
    rw [add_plain] at this
    rw [this,List.getElem_take,List.getD_eq_getElem?_getD,List.getElem?_eq_getElem (by omega)]
    rfl
theorem open_vars {v:Value} {x:DataW H × List MemPlace} (h:DataW.trod enc Tryz.prog W 0 (fun _=>true) true n 41 [v]=some x) (hwt:∀ k ∈ x.1.weights Tryz.prog 41,k≤reachBytes):∃ l,VarsIn W v l:=by
  rcases Deep.open_slice Tryz.underlying41 h with ⟨h0,_⟩ | ⟨a,len,cap,m,k,D,Pl,h0,_,hl,hm,hmm,rfl,hc⟩
  · simp only [List.cons.injEq,and_true] at h0
    exact ⟨[],none,0,h0,by simp,fun h=>absurd rfl h⟩
  · simp only [List.cons.injEq,and_true] at h0
    simp only [if_true] at hmm
    have hlim:len≤4611686018427387903:=by
      have h2:=hwt ((len+(m - len)) * 40) (by simp [DataW.weights,Tryz.underlying41,bytesVar])
      have:=reach_le
      omega
    have each:∀ i,i<len→∃ q:VarD,W.cell? (a.add (i * 4))=some (.string q.name)∧W.cell? (a.add (i * 4+1))=some (.bool q.pub)∧W.cell? (a.add (i * 4+2))=some (.int .i64 q.label)∧W.cell? (a.add (i * 4+3))=some (.int .i64 q.size):=by
      intro i hi
      obtain ⟨cs',h1,h2⟩:=hc i (by omega)
      rw [cell4] at h1
      obtain ⟨_,hlen,hcell⟩:=World.cells?_some h1
      obtain ⟨y0,y1,y2,y3,n',_,_,t0,t1,t2,t3⟩:=Joins.trod_struct4 Tryz.underlying76 h2
      simp only [cell1s,cell1b,cell1i] at t0 t1 t2 t3
      match cs',hlen with
      | [c0,c1,c2,c3],_ =>
        simp only [List.drop,List.take] at t0 t1 t2 t3
        obtain ⟨s,e0,_,_⟩:=DataW.trod_string Tryz.underlying9 t0
        obtain ⟨b,e1,_⟩:=DataW.trod_bool Tryz.underlying4 t1
        obtain ⟨j,e2,_,_⟩:=DataW.trod_int Tryz.underlying3 t2
        obtain ⟨z,e3,_,_⟩:=DataW.trod_int Tryz.underlying3 t3
        simp only [List.cons.injEq,and_true] at e0 e1 e2 e3
        subst e0 e1 e2 e3
        refine ⟨⟨s,b,j,z⟩,?_,?_,?_,?_⟩
        · simpa [Deep.add_add] using hcell 0 (by omega)
        · simpa [Deep.add_add] using hcell 1 (by omega)
        · simpa [Deep.add_add] using hcell 2 (by omega)
        · simpa [Deep.add_add] using hcell 3 (by omega)
    obtain ⟨V,hV⟩:=Deep.choose_lt each
    refine ⟨(List.range len).map V,some a,cap,by simpa using h0,by simpa using hlim,fun hne=>?_⟩
    have hpos:0<len:=by
      rcases Nat.eq_zero_or_pos len with h | h
      · subst h;simp at hne
      · exact h
    have h00:=(hV 0 hpos).1
    rw [Nat.zero_mul,Addr.add,if_pos rfl] at h00
    obtain ⟨g,o,rfl⟩:=plain_addr h00
    refine ⟨g,o,rfl,fun i hi=>?_⟩
    have:=hV i (by simpa using hi)
    simp only [add_plain] at this
    simp only [List.getElem_map,List.getElem_range]
    exact this
theorem trod_struct6 {P:Program} {w:World} {base:Nat} {spare:Nat→Bool} {held:Bool} {t:TypeId} {f0 f1 f2 f3 f4 f5:Field} {fuel:Nat} {cs:List Value} {x:DataW H × List MemPlace} (ht:P.underlying t=some (.struct #[f0,f1,f2,f3,f4,f5])) (h:DataW.trod enc P w base spare held fuel t cs=some x) :
    ∃ y0 y1 y2 y3 y4 y5 n,DataW.trod enc P w base spare held n f0.type ((cs.drop f0.offset).take (P.cellsOf f0.type))=some y0 ∧
      DataW.trod enc P w base spare held n f1.type ((cs.drop f1.offset).take (P.cellsOf f1.type))=some y1∧DataW.trod enc P w base spare held n f2.type ((cs.drop f2.offset).take (P.cellsOf f2.type))=some y2 ∧
      DataW.trod enc P w base spare held n f3.type ((cs.drop f3.offset).take (P.cellsOf f3.type))=some y3∧DataW.trod enc P w base spare held n f4.type ((cs.drop f4.offset).take (P.cellsOf f4.type))=some y4 ∧
      DataW.trod enc P w base spare held n f5.type ((cs.drop f5.offset).take (P.cellsOf f5.type))=some y5:=by
  obtain ⟨xs,n,_,rfl,hl,hlen,hf⟩:=DataW.trod_struct ht h
  match xs,hlen with
  | [y0,y1,y2,y3,y4,y5],_=>exact ⟨y0,y1,y2,y3,y4,y5,n,by simpa using hf 0 f0 rfl,by simpa using hf 1 f1 rfl,by simpa using hf 2 f2 rfl,by simpa using hf 3 f3 rfl,by simpa using hf 4 f4 rfl,by simpa using hf 5 f5 rfl⟩
theorem open_procs {v:Value} {x:DataW H × List MemPlace} (h:DataW.trod enc Tryz.prog W 0 (fun _=>true) true n 42 [v]=some x) (hwt:∀ k ∈ x.1.weights Tryz.prog 42,k≤reachBytes):∃ l,ProcsIn W v l:=by
  rcases Deep.open_slice Tryz.underlying42 h with ⟨h0,_⟩ | ⟨a,len,cap,m,k,D,Pl,h0,_,hl,hm,hmm,rfl,hc⟩
  · simp only [List.cons.injEq,and_true] at h0
    exact ⟨[],none,0,h0,by simp,fun h=>absurd rfl h⟩
  · simp only [List.cons.injEq,and_true] at h0
    simp only [if_true] at hmm
    have hlim:len≤4611686018427387903:=by
      have h2:=hwt ((len+(m - len)) * 72) (by simp [DataW.weights,Tryz.underlying42,bytesProc])
      have:=reach_le
      omega
    have each:∀ i,i<len→∃ q:ProcD,W.cell? (a.add (i * 6))=some (.string q.name)∧W.cell? (a.add (i * 6+1))=some (.bool q.pub)∧(∃ u,W.cell? (a.add (i * 6+2))=some u∧IntsIn W u q.params)∧W.cell? (a.add (i * 6+3))=some (.int .i64 q.writes)∧W.cell? (a.add (i * 6+4))=some (.bool q.gives)∧W.cell? (a.add (i * 6+5))=some (.int .i64 q.given):=by
      intro i hi
      obtain ⟨cs',h1,h2⟩:=hc i (by omega)
      rw [cell6] at h1
      obtain ⟨_,hlen,hcell⟩:=World.cells?_some h1
      obtain ⟨y0,y1,y2,y3,y4,y5,n',t0,t1,t2,t3,t4,t5⟩:=trod_struct6 Tryz.underlying80 h2
      simp only [cell1s,cell1b,cell1i,cell1l] at t0 t1 t2 t3 t4 t5
      match cs',hlen with
      | [c0,c1,c2,c3,c4,c5],_ =>
        simp only [List.drop,List.take] at t0 t1 t2 t3 t4 t5
        obtain ⟨s,e0,_,_⟩:=DataW.trod_string Tryz.underlying9 t0
        obtain ⟨b,e1,_⟩:=DataW.trod_bool Tryz.underlying4 t1
        obtain ⟨zs,hzs⟩:=open_ints' t2
        obtain ⟨j,e3,_,_⟩:=DataW.trod_int Tryz.underlying3 t3
        obtain ⟨b',e4,_⟩:=DataW.trod_bool Tryz.underlying4 t4
        obtain ⟨z,e5,_,_⟩:=DataW.trod_int Tryz.underlying3 t5
        simp only [List.cons.injEq,and_true] at e0 e1 e3 e4 e5
        subst e0 e1 e3 e4 e5
        refine ⟨⟨s,b,zs,j,b',z⟩,?_,?_,⟨c2,?_,hzs⟩,?_,?_,?_⟩
        · simpa [Deep.add_add] using hcell 0 (by omega)
        · simpa [Deep.add_add] using hcell 1 (by omega)
        · simpa [Deep.add_add] using hcell 2 (by omega)
        · simpa [Deep.add_add] using hcell 3 (by omega)
        · simpa [Deep.add_add] using hcell 4 (by omega)
        · simpa [Deep.add_add] using hcell 5 (by omega)
    obtain ⟨V,hV⟩:=Deep.choose_lt each
    refine ⟨(List.range len).map V,some a,cap,by simpa using h0,by simpa using hlim,fun hne=>?_⟩
    have hpos:0<len:=by
      rcases Nat.eq_zero_or_pos len with h | h
      · subst h;simp at hne
      · exact h
    have h00:=(hV 0 hpos).1
    rw [Nat.zero_mul,Addr.add,if_pos rfl] at h00
    obtain ⟨g,o,rfl⟩:=plain_addr h00
    refine ⟨g,o,rfl,fun i hi=>?_⟩
    have:=hV i (by simpa using hi)
    simp only [add_plain] at this
    simp only [List.getElem_map,List.getElem_range]
    exact this
end
end Go.Proofs.YtfopddgjdaoidaaGreatDoor.face
namespace Go.Proofs.YtfopddgjdaoidaaGreatDoor.face
open Go.RowKit
open syn (isName eqS)
def labelB (n:Int):Bool:=n==0 || n==1
def mayVarB (v:VarD):Bool:=isName v.name && (v.pub && (labelB v.label && (decide (0≤v.size) && decide (v.size≤64))))
def mayProcB (p:ProcD):Bool:=isName p.name && (p.pub && (decide (p.params.length≤5) && (p.params.all labelB && (labelB p.writes && (labelB p.given && (p.gives || p.given==0))))))
def among (l:List ByteArray) (x:ByteArray):Bool:=l.any fun y=>eqS y x
def apartB:List ByteArray→List ByteArray→Bool
  | _,[]=>true
  | seen,x :: r=>!among seen x && apartB (seen++[x]) r
def namesOf (f:FaceD):List ByteArray:=f.vars.map (·.name)++f.procs.map (·.name)
def mayB (f:FaceD):Bool:=isName f.module && (decide (f.vars.length+f.procs.length≤20) && (f.vars.all mayVarB && (f.procs.all mayProcB && apartB [] (namesOf f))))
theorem all_no {α:Type} {p:α→Bool} {l:List α} (i:Nat) (h:i<l.length) (hp:p l[i]=false):l.all p=false:=by
  rw [List.all_eq_false]
  exact ⟨l[i],List.getElem_mem h,by simp [hp]⟩
theorem all_yes {α:Type} {p:α→Bool} {l:List α} (hp:∀ i (h:i<l.length),p l[i]=true):l.all p=true:=by
  rw [List.all_eq_true]
  intro x hx
  obtain ⟨k,hk,rfl⟩:=List.mem_iff_getElem.1 hx
  exact hp k hk
theorem ret_b {x y:Bool} (h:x=y):Ending.returned (.bool x)=.returned (.bool y):=by rw [h]
theorem cell_new {w:World} {a:Addr} {v:Value} (h:w.cell? a=some v) (ob:Obj):(w.alloc ob).cell? a=some v:=by
  rw [((Below.refl _ _).alloc (jE _) ob).cell (World.block_lt_of_cell? w a h)];exact h
end Go.Proofs.YtfopddgjdaoidaaGreatDoor.face
namespace Go.Proofs.YtfopddgjdaoidaaGreatDoor.face
open syn
def parF:List ByteArray→List (ByteArray × Bool)→Int→Option (Int × Int)
  | _,[],_=>none
  | seen,q :: r,a=>if among seen q.1 then some (5,a) else parF (seen++[q.1]) r (a+1)
def rangeF:Option Int→Int→Option (Int × Int)
  | none,_=>none
  | some n,a=>if n<1∨64<n then some (6,a) else none
def lookK (m:ByteArray):List Kid→List ByteArray→List ByteArray→Int→Option (Int × Int)
  | [],_,_,_=>none
  | .imp x :: r,is,ns,a=>if among is x || eqS x m then some (5,a) else if 5≤is.length then some (1,a) else lookK m r (is++[x]) ns (a+1)
  | .var x p l n :: r,is,ns,a=>if among ns x then some (5,a) else if 20≤ns.length then some (1,a) else
    match rangeF n a with
    | some e=>some e
    | none=>lookK m r is (ns++[x]) (a+cntT (Kid.var x p l n).tree)
  | .proc x p l g ps b :: r,is,ns,a=>if among ns x then some (5,a) else if 20≤ns.length then some (1,a) else if 5<ps.length then some (1,a) else
    match parF [] ps (a+1) with
    | some e=>some e
    | none=>lookK m r is (ns++[x]) (a+cntT (Kid.proc x p l g ps b).tree)
def varD (x:ByteArray) (p l:Bool) (n:Option Int):VarD:=⟨x,p,bI l,n.getD 0⟩
def procD (x:ByteArray) (p l:Bool) (g:Option Bool) (ps:List (ByteArray × Bool)):ProcD:=⟨x,p,ps.map fun q=>bI q.2,bI l,g.isSome,bI (g.getD false)⟩
def importsK:List Kid→List ByteArray
  | []=>[]
  | .imp x :: r=>x :: importsK r
  | _ :: r=>importsK r
def varsK (all:Bool):List Kid→List VarD
  | []=>[]
  | .var x p l n :: r=>if all || p then varD x p l n :: varsK all r else varsK all r
  | _ :: r=>varsK all r
def procsK (all:Bool):List Kid→List ProcD
  | []=>[]
  | .proc x p l g ps b :: r=>if all || p then procD x p l g ps :: procsK all r else procsK all r
  | _ :: r=>procsK all r
def faceK (all:Bool) (m:ByteArray) (ks:List Kid):FaceD:=⟨m,varsK all ks,procsK all ks⟩
theorem importsK_append:∀ (a b:List Kid),importsK (a++b)=importsK a++importsK b
  | [],b=>rfl
  | .imp x :: r,b=>by show x :: importsK (r++b)=x :: (importsK r++importsK b);rw [importsK_append r b]
  | .var _ _ _ _ :: r,b=>importsK_append r b
  | .proc _ _ _ _ _ _ :: r,b=>importsK_append r b
theorem varsK_append (all:Bool):∀ (a b:List Kid),varsK all (a++b)=varsK all a++varsK all b
  | [],b=>rfl
  | .imp x :: r,b=>varsK_append all r b
  | .var x p l n :: r,b=>by
    show (if all || p then varD x p l n :: varsK all (r++b) else varsK all (r++b))=(if all || p then varD x p l n :: varsK all r else varsK all r)++varsK all b
    rw [varsK_append all r b]
    split <;> rfl
  | .proc _ _ _ _ _ _ :: r,b=>varsK_append all r b
theorem procsK_append (all:Bool):∀ (a b:List Kid),procsK all (a++b)=procsK all a++procsK all b
  | [],b=>rfl
  | .imp x :: r,b=>procsK_append all r b
  | .var _ _ _ _ :: r,b=>procsK_append all r b
  | .proc x p l g ps c :: r,b=>by
    show (if all || p then procD x p l g ps :: procsK all (r++b) else procsK all (r++b))=(if all || p then procD x p l g ps :: procsK all r else procsK all r)++procsK all b
    rw [procsK_append all r b]
    split <;> rfl
end Go.Proofs.YtfopddgjdaoidaaGreatDoor.face
namespace Go.Proofs.YtfopddgjdaoidaaGreatDoor.syn
open Go.RowKit
theorem two_boxes {w wr:World} {x0 x1 x2 x3 y0 y1 y2 y3:Value} {T:TypeId} (h:Below (w.heap.size+2) ((w.alloc (.cells #[x0,x1,x2,x3] T)).alloc (.cells #[y0,y1,y2,y3] T)) wr) :
    wr.cell? ⟨w.heap.size,3,none⟩=some x3∧wr.cell? ⟨w.heap.size+1,3,none⟩=some y3∧w.heap.size+2≤wr.heap.size∧Below w.heap.size w wr:=by
  refine ⟨?_,?_,?_,?_⟩
  · rw [h.cell (p:=⟨w.heap.size,3,none⟩) (by simp)];simp
  · rw [h.cell (p:=⟨w.heap.size+1,3,none⟩) (by simp)];simp
  · have:=h.size;simpa using this
  · exact (((Below.refl _ _).alloc (jE _) _).alloc (by simp) _).trans (h.mono (by omega))
theorem LiesAt.kid {w wr:World} {ks:List Tree} {g o:Nat} (hg:g<w.heap.size) (h:LiesAt (·<w.heap.size) w ks g o) (hb:Below w.heap.size w wr) {j:Nat} (hj:j<ks.length) :
    ∃ x0 x1 x2 x3,wr.cell? ⟨g,o+j * 4,none⟩=some x0∧wr.cell? ⟨g,o+j * 4+1,none⟩=some x1∧wr.cell? ⟨g,o+j * 4+2,none⟩=some x2∧wr.cell? ⟨g,o+j * 4+3,none⟩=some x3∧Lies (·<wr.heap.size) wr ks[j] (.agg #[x0,x1,x2,x3]):=by
  obtain ⟨v,⟨x0,x1,x2,x3,rfl,c0,c1,c2,c3⟩,hl⟩:=(h.below hg hb).get j hj
  exact ⟨x0,x1,x2,x3,c0,c1,c2,c3,hl⟩
set_option maxRecDepth 100000 in
set_option maxHeartbeats 1000000 in
theorem rsame (t:Tree) (va vb:Value) (w:World) (ha:Lies (·<w.heap.size) w t va) (hb:Lies (·<w.heap.size) w t vb) :
    Calls Tryz.prog 11 #[va,vb] w fun e w'=>e=.returned (.bool true)∧Below w.heap.size w w':=by
  have c24:Tryz.prog.cellsOf 25=4:=by kernel_rfl
  match t with
  | .node k x m ks =>
    have ih:∀ i (hi:i<ks.length) (va vb:Value) (w:World),Lies (·<w.heap.size) w ks[i] va→Lies (·<w.heap.size) w ks[i] vb→Calls Tryz.prog 11 #[va,vb] w fun e w'=>e=.returned (.bool true)∧Below w.heap.size w w' :=
      fun i hi va vb w h1 h2=>rsame ks[i] va vb w h1 h2
    unfold Lies at ha hb
    obtain ⟨a,c,rfl,hl,hka⟩:=ha
    obtain ⟨b,d,rfl,_,hkb⟩:=hb
    go_enter Tryz.func11,Tryz.ntmps11
    go_wp2
    go_loopw [5] (fun i wr=>∃ j:Nat,j≤ks.length∧i=.int .i64 j∧Below (w.heap.size+2) ((w.alloc (.cells #[.int .i64 k,.string x,.int .i64 m,.slice a ks.length c] 25)).alloc (.cells #[.int .i64 k,.string x,.int .i64 m,.slice b ks.length d] 25)) wr) (fun i _=>ks.length - (intOf i).toNat)
    case atStart=>exact ⟨0,Nat.zero_le _,rfl,Below.refl _ _⟩
    case round =>
      obtain ⟨j,hj,rfl,hbr⟩:=hrel
      obtain ⟨q1,q2,hsz,hbw⟩:=two_boxes hbr
      by_cases hlt:j<ks.length
      · obtain ⟨g,o,rfl,hg,hat⟩:=hka (by intro e;rw [e] at hlt;simp at hlt)
        obtain ⟨g',o',rfl,hg',hat'⟩:=hkb (by intro e;rw [e] at hlt;simp at hlt)
        obtain ⟨x0,x1,x2,x3,c0,c1,c2,c3,hx⟩:=hat.kid hg hbw hlt
        obtain ⟨y0,y1,y2,y3,d0,d1,d2,d3,hy⟩:=hat'.kid hg' hbw hlt
        have hC:=ih j hlt _ _ wr.drew hx.drew hy.drew
        go_wp2
        go_region_with (go_at_call 11;refine hC.mono ?_;rintro e w1 ⟨rfl,hb1⟩)
        all_goals
          go_wp2
          go_roundw
          case rel=>exact ⟨j+1,by omega,by go_num,hbr.drew.trans (hb1.mono hsz)⟩
          case measure=>simp [intOf];omega
      · go_wp2
        go_ret
        exact ⟨rfl,hbw⟩
termination_by SizeOf.sizeOf t
decreasing_by exact kid_lt hi
end Go.Proofs.YtfopddgjdaoidaaGreatDoor.syn
namespace Go.Proofs.YtfopddgjdaoidaaGreatDoor.face
open Go.RowKit
open syn
theorem cntL_take:∀ (ks:List Tree) (j:Nat) (h:j<ks.length),cntL (ks.take (j+1))=cntL (ks.take j)+cntT ks[j]
  | [],j,h=>by simp at h
  | t :: r,0,h=>by simp [cntL]
  | t :: r,j+1,h=>by
    have hj:j<r.length:=by simpa using h
    have:=cntL_take r j hj
    show cntT t+cntL (r.take (j+1))=cntT t+cntL (r.take j)+cntT r[j]
    omega
theorem cntL_take_le:∀ (ks:List Tree) (j:Nat),cntL (ks.take j)≤cntL ks
  | [],j=>by simp
  | t :: r,0=>by have h1:=cntL_pos (t :: r);show cntL []≤_;unfold cntL;exact h1
  | t :: r,j+1=>by
    have:=cntL_take_le r j
    show cntT t+cntL (r.take j)≤cntT t+cntL r
    omega
theorem cntT_mem:∀ (ks:List Tree) (j:Nat) (h:j<ks.length),cntT ks[j]≤cntL ks
  | [],j,h=>by simp at h
  | t :: r,0,h=>by have:=cntL_pos r;show cntT t≤cntT t+cntL r;omega
  | t :: r,j+1,h=>by
    have hj:j<r.length:=by simpa using h
    have:=cntT_mem r j hj
    have h2:=cntT_pos t
    show cntT r[j]≤cntT t+cntL r
    omega
/-! of a variable -/
/-! kids of a module -/
def Kid.kind:Kid→Int
  | .imp _=>2
  | .var _ _ _ _=>3
  | .proc _ _ _ _ _ _=>4
def Kid.text:Kid→ByteArray
  | .imp x=>x
  | .var x _ _ _=>x
  | .proc x _ _ _ _ _=>x
def Kid.num:Kid→Int
  | .imp _=>0
  | .var _ p l _=>2 * bI p+bI l
  | .proc _ p l g _ _=>2 * bI p+bI l+gI g
def Kid.kids:Kid→List Tree
  | .imp _=>[]
  | .var _ _ _ none=>[]
  | .var _ _ _ (some n)=>[.node 15 empty n []]
  | .proc _ _ _ _ ps b=>ps.map parT++[b]
theorem Kid.tree_is (k:Kid):k.tree=.node k.kind k.text k.num k.kids:=by
  cases k with
  | imp x=>rfl
  | var x p l n=>cases n <;> rfl
  | proc x p l g ps b=>rfl
theorem kid_cells {w wr:World} {K:List Kid} {g o:Nat} (hg:g<w.heap.size) (hat:LiesAt (·<w.heap.size) w (K.map Kid.tree) g o) (hb:Below w.heap.size w wr) {j:Nat} (hj:j<K.length) :
    ∃ a c,wr.cell? ⟨g,o+j * 4,none⟩=some (.int .i64 K[j].kind)∧wr.cell? ⟨g,o+j * 4+1,none⟩=some (.string K[j].text)∧wr.cell? ⟨g,o+j * 4+2,none⟩=some (.int .i64 K[j].num)∧wr.cell? ⟨g,o+j * 4+3,none⟩=some (.slice a K[j].kids.length c) ∧
      Lies (·<wr.heap.size) wr K[j].tree (.agg #[.int .i64 K[j].kind,.string K[j].text,.int .i64 K[j].num,.slice a K[j].kids.length c]):=by
  obtain ⟨x0,x1,x2,x3,c0,c1,c2,c3,hl⟩:=hat.kid hg hb (j:=j) (by simpa using hj)
  rw [List.getElem_map] at hl
  have hl2:=hl
  rw [Kid.tree_is] at hl2
  unfold Lies at hl2
  obtain ⟨a,c,e,_,_⟩:=hl2
  cases e
  exact ⟨a,c,c0,c1,c2,c3,hl⟩
def strV (l:List ByteArray):List Value:=l.map Value.string
theorem strV_snoc (l:List ByteArray) (y:ByteArray):strV (l++[y])=strV l++[.string y]:=by simp [strV]
theorem infoS:(Tryz.prog.info? 9).map (fun i=>(i.zero,i.size,i.bytes))=some (some (.string ⟨#[]⟩),1,16):=by kernel_rfl
theorem one_string (y:ByteArray):∀ u ∈ [Value.string y],u.oneCell'=true:=by intro u hu;simp at hu;rw [hu];rfl
theorem cell_one {w:World} (y:Value) (T:TypeId) (n:Nat) (hn:n=w.heap.size):∀ j u,[y][j]?=some u→(w.alloc (.cells #[y] T)).cell? ((⟨n,0,none⟩:Addr).add j)=some u:=by
  subst hn
  exact cell_one_new w y T
theorem take_succ_kid (K:List Kid) (j:Nat) (h:j<K.length):K.take (j+1)=K.take j++[K[j]]:=by
  rw [List.take_add_one,List.getElem?_eq_getElem h];rfl
abbrev modV (m:ByteArray) (a:Option Addr) (n c:Nat):Array Value:=#[.int .i64 1,.string m,.int .i64 0,.slice a n c]
end Go.Proofs.YtfopddgjdaoidaaGreatDoor.face
