/- The program's table of operators, as its variable holds it. -/
import Derived.Test.YtfopddgjdaoidaaGreatDoorNM03
set_option linter.unusedVariables false
namespace Go.Proofs.YtfopddgjdaoidaaGreatDoor.syn
open lexs (Tok)
section
variable {ts:List Tok} {s:St}
theorem left_label:left ts (label ts s).2≤left ts s:=by
  unfold label
  split
  · exact left_next_le
  · exact (left_must ⟨#[108,111,119]⟩ (by decide)).1
theorem must_bad {x:ByteArray} (h:s.bad=true):(must ts x s).bad=true:=by
  unfold must
  split
  · exact h
  · rfl
theorem txt_bad (h:s.bad=true):txt ts s=empty:=by unfold txt here;rw [h];rfl
theorem eqS_bad {x:ByteArray} (hx:0<x.size) (h:s.bad=true):eqS (txt ts s) x=false:=by
  cases he:eqS (txt ts s) x
  · rfl
  · rw [txt_bad h] at he
    have:=eqS_empty he
    omega
theorem whole_or:left ts (whole ts s).2+1≤left ts s∨(whole ts s).2.bad=true:=by
  cases hn:isName (txt ts s)
  · right
    have e:name ts s=(empty,s.fail):=by unfold name;rw [hn];rfl
    unfold whole
    rw [e]
    have e2:eat ts ⟨#[46]⟩ s.fail=(false,s.fail):=by unfold eat;rw [eqS_bad (by decide) rfl];rfl
    dsimp only
    rw [e2]
    rfl
  · left
    have e:name ts s=(txt ts s,s.next):=by unfold name;rw [hn];rfl
    have h1:0<(txt ts s).size:=by
      rcases Nat.lt_or_ge 0 (txt ts s).size with h1 | h1
      · exact h1
      · rw [isName_short (by omega)] at hn
        exact absurd hn (by decide)
    have h2:=left_hit h1 (eqS_self (txt ts s))
    have h3:left ts (whole ts s).2≤left ts s.next:=by
      unfold whole
      rw [e]
      dsimp only
      split
      · exact Nat.le_trans left_name (left_eat _)
      · exact jE _
    omega
structure Enough2 (ts:List Tok) (f:Nat):Prop where
  bk:∀ s:St,20 * left ts s+12≤f→Has ts s (blockF ts f s)
  bkl:∀ (s:St) (ks:List Tree),(s.bad=true∧1≤f)∨20 * left ts s+11≤f→Has ts s (blockL ts f ks s)
  st:∀ s:St,20 * left ts s+10≤f→∃ q,statF ts f s=some q∧left ts q.2≤left ts s∧(left ts q.2+1≤left ts s∨q.2.bad=true)
theorem enough2 (ts:List Tok) (f:Nat):Enough2 ts f:=by
  induction f with
  | zero=>exact ⟨fun s h=>by omega,fun s ks h=>by omega,fun s h=>by omega⟩
  | succ f ih =>
    have E:=enough ts f
    refine ⟨fun s h=>?_,fun s ks h=>?_,fun s h=>?_⟩
    · unfold blockF
      have hm:=left_must (ts:=ts) (s:=s) ⟨#[123]⟩ (by decide)
      obtain ⟨q,hq,hle⟩:=ih.bkl (must ts ⟨#[123]⟩ s) [] (.inr (by omega))
      exact ⟨q,hq,by omega⟩
    · unfold blockL
      cases hb:s.bad
      · simp only [Bool.false_eq_true,if_false]
        have h9:20 * left ts s+11≤f+1:=by
          rcases h with ⟨h,_⟩ | h
          · rw [hb] at h;simp at h
          · exact h
        split
        · exact ⟨_,rfl,left_next_le⟩
        · obtain ⟨q,hq,hle,hor⟩:=ih.st s (by omega)
          rw [hq]
          simp only [Option.bind_some]
          obtain ⟨q',hq',hle'⟩:=ih.bkl q.2 (ks++[q.1]) (by rcases hor with h1 | h1;exact .inr (by omega);exact .inl ⟨h1,by omega⟩)
          exact ⟨q',hq',by omega⟩
      · simp only [if_true]
        exact ⟨_,rfl,jE _⟩
    · unfold statF
      cases n1:eqS (txt ts s) ⟨#[105,102]⟩
      case true =>
        have hn:=left_hit (by decide) n1
        rw [if_pos rfl]
        obtain ⟨x,hx,lx⟩:=E.a s.next (by omega)
        obtain ⟨b,hb,lb⟩:=ih.bk x.2 (by omega)
        rw [hx]
        simp only [Option.bind_some]
        rw [hb]
        simp only [Option.bind_some]
        split
        · obtain ⟨c,hc,lc⟩:=ih.bk b.2.next (by have:=left_next_le (ts:=ts) (s:=b.2);omega)
          rw [hc]
          have:=left_next_le (ts:=ts) (s:=b.2)
          exact ⟨_,rfl,by dsimp only;omega,.inl (by dsimp only;omega)⟩
        · exact ⟨_,rfl,by dsimp only;omega,.inl (by dsimp only;omega)⟩
      rw [if_neg (by decide)]
      cases n2:eqS (txt ts s) ⟨#[119,104,105,108,101]⟩
      case true =>
        have hn:=left_hit (by decide) n2
        rw [if_pos rfl]
        obtain ⟨x,hx,lx⟩:=E.a s.next (by omega)
        obtain ⟨b,hb,lb⟩:=ih.bk x.2 (by omega)
        rw [hx]
        simp only [Option.bind_some]
        rw [hb]
        exact ⟨_,rfl,by dsimp only;omega,.inl (by dsimp only;omega)⟩
      rw [if_neg (by decide)]
      cases n3:(eqS (txt ts s) ⟨#[108,111,119]⟩ || eqS (txt ts s) ⟨#[104,105,103,104]⟩)
      case true =>
        rw [if_pos rfl]
        have hl:left ts (label ts s).2+1≤left ts s:=by
          unfold label
          cases h1:eqS (txt ts s) ⟨#[104,105,103,104]⟩
          · simp only [Bool.false_eq_true,if_false]
            rw [h1,Bool.or_false] at n3
            unfold must
            rw [n3,if_pos rfl]
            have:=left_hit (by decide) n3
            omega
          · simp only [if_true]
            have:=left_hit (by decide) h1
            omega
        have hnm:=left_name (ts:=ts) (s:=(label ts s).2)
        have hm:=left_must (ts:=ts) (s:=(name ts (label ts s).2).2) ⟨#[61]⟩ (by decide)
        obtain ⟨x,hx,lx⟩:=E.e (must ts ⟨#[61]⟩ (name ts (label ts s).2).2) (.inr (by omega))
        rw [hx]
        have hm2:=left_must (ts:=ts) (s:=x.2) ⟨#[59]⟩ (by decide)
        exact ⟨_,rfl,by dsimp only;omega,.inl (by dsimp only;omega)⟩
      rw [if_neg (by decide)]
      cases n5:eqS (txt ts s) ⟨#[100,111]⟩
      case true =>
        have hn:=left_hit (by decide) n5
        rw [if_pos rfl]
        have hw:=left_whole (ts:=ts) (s:=s.next)
        obtain ⟨x,hx,lx⟩:=E.c (whole ts s.next).2 (whole ts s.next).1 (by omega)
        rw [hx]
        have hm2:=left_must (ts:=ts) (s:=x.2) ⟨#[59]⟩ (by decide)
        exact ⟨_,rfl,by dsimp only;omega,.inl (by dsimp only;omega)⟩
      rw [if_neg (by decide)]
      cases n6:eqS (txt ts s) ⟨#[111,117,116]⟩
      case true =>
        have hn:=left_hit (by decide) n6
        rw [if_pos rfl]
        have hw:=left_label (ts:=ts) (s:=s.next)
        obtain ⟨x,hx,lx⟩:=E.e (label ts s.next).2 (.inr (by omega))
        rw [hx]
        have hm2:=left_must (ts:=ts) (s:=x.2) ⟨#[59]⟩ (by decide)
        exact ⟨_,rfl,by dsimp only;omega,.inl (by dsimp only;omega)⟩
      rw [if_neg (by decide)]
      cases n7:eqS (txt ts s) ⟨#[105,110]⟩
      case true =>
        have hn:=left_hit (by decide) n7
        rw [if_pos rfl]
        have hw:=left_label (ts:=ts) (s:=s.next)
        have hw2:=left_whole (ts:=ts) (s:=(label ts s.next).2)
        obtain ⟨x,hx,lx⟩:=E.p (whole ts (label ts s.next).2).2 (whole ts (label ts s.next).2).1 (by omega)
        rw [hx]
        have hm2:=left_must (ts:=ts) (s:=x.2) ⟨#[59]⟩ (by decide)
        exact ⟨_,rfl,by dsimp only;omega,.inl (by dsimp only;omega)⟩
      rw [if_neg (by decide)]
      cases n8:eqS (txt ts s) ⟨#[114,101,116,117,114,110]⟩
      case true =>
        have hn:=left_hit (by decide) n8
        rw [if_pos rfl]
        obtain ⟨x,hx,lx⟩:=E.e s.next (.inr (by omega))
        rw [hx]
        have hm2:=left_must (ts:=ts) (s:=x.2) ⟨#[59]⟩ (by decide)
        exact ⟨_,rfl,by dsimp only;omega,.inl (by dsimp only;omega)⟩
      rw [if_neg (by decide)]
      have hw:=left_whole (ts:=ts) (s:=s)
      rcases whole_or (ts:=ts) (s:=s) with hor | hor
      · obtain ⟨x,hx,lx⟩:=E.p (whole ts s).2 (whole ts s).1 (by omega)
        rw [hx]
        simp only [Option.bind_some]
        have hm:=left_must (ts:=ts) (s:=x.2) ⟨#[61]⟩ (by decide)
        obtain ⟨y,hy,ly⟩:=E.e (must ts ⟨#[61]⟩ x.2) (.inr (by omega))
        rw [hy]
        have hm2:=left_must (ts:=ts) (s:=y.2) ⟨#[59]⟩ (by decide)
        exact ⟨_,rfl,by dsimp only;omega,.inl (by dsimp only;omega)⟩
      · obtain ⟨g,rfl⟩:∃ g,f=g+1:=⟨f - 1,by omega⟩
        have hpl:placeF ts (g+1) (whole ts s).1 (whole ts s).2=some (.node 16 (whole ts s).1 0 [],(whole ts s).2):=by
          unfold placeF
          rw [eqS_bad (by decide) hor,if_neg (by decide)]
        rw [hpl]
        simp only [Option.bind_some]
        have hb1:=must_bad (ts:=ts) (x:=⟨#[61]⟩) hor
        have hex:exprF ts (g+1) (must ts ⟨#[61]⟩ (whole ts s).2)=some (.node 0 empty 0 [],must ts ⟨#[61]⟩ (whole ts s).2):=by
          unfold exprF
          rw [hb1,if_pos rfl]
        rw [hex]
        have hb2:=must_bad (ts:=ts) (x:=⟨#[59]⟩) hb1
        exact ⟨_,rfl,by dsimp only;rw [left_bad hb2];omega,.inr hb2⟩
end
section
variable {ts:List Tok} {s:St}
theorem left_pub:left ts (pubS ts s)≤left ts s:=by
  unfold pubS
  split
  · exact left_next_le
  · exact jE _
theorem left_gives:left ts (givesS ts s)≤left ts s:=by
  unfold givesS
  split
  · exact Nat.le_trans left_label (Nat.le_trans left_next_le left_label)
  · exact left_label
theorem left_var:left ts (varS ts s).2≤left ts s:=by
  unfold varS
  split
  · exact Nat.le_trans (left_must ⟨#[93]⟩ (by decide)).1 (Nat.le_trans left_number left_next_le)
  · exact jE _
theorem name_bad (h:s.bad=true):(name ts s).2.bad=true:=by
  unfold name
  split
  · exact h
  · rfl
theorem var_bad (h:s.bad=true):(varS ts s).2.bad=true:=by
  unfold varS
  rw [eqS_bad (by decide) h,if_neg (by decide)]
  exact h
theorem label_or:left ts (label ts s).2+1≤left ts s∨(label ts s).2.bad=true:=by
  unfold label
  cases h1:eqS (txt ts s) ⟨#[104,105,103,104]⟩
  · simp only [Bool.false_eq_true,if_false]
    rcases (left_must (ts:=ts) (s:=s) ⟨#[108,111,119]⟩ (by decide)).2 with h | h
    · exact .inr h
    · exact .inl (by omega)
  · simp only [if_true]
    have:=left_hit (by decide) h1
    exact .inl (by omega)
theorem paramsL_has (f:Nat):∀ (ks:List Tree) (s:St),left ts s+1≤f→∃ p,paramsL ts f ks s=some p∧left ts p.2≤left ts s:=by
  induction f with
  | zero=>intro ks s h;omega
  | succ f ih =>
    intro ks s h
    have h1:=left_label (ts:=ts) (s:=s)
    have h2:=left_name (ts:=ts) (s:=(label ts s).2)
    unfold paramsL
    split
    · rename_i h3
      have h4:=left_hit (by decide) h3
      obtain ⟨p,hp,hle⟩:=ih (ks++[.node 5 (name ts (label ts s).2).1 (label ts s).1 []]) (name ts (label ts s).2).2.next (by omega)
      exact ⟨p,hp,by omega⟩
    · exact ⟨_,rfl,by dsimp only;omega⟩
theorem declF_has {f:Nat} (h:20 * left ts s+12≤f):∃ q,declF ts f s=some q∧left ts q.2≤left ts s∧(left ts q.2+1≤left ts s∨q.2.bad=true):=by
  have hp:=left_pub (ts:=ts) (s:=s)
  unfold declF
  split
  · rename_i h1
    have hn:=left_hit (by decide) h1
    have h2:=left_name (ts:=ts) (s:=(pubS ts s).next)
    have h3:=(left_must (ts:=ts) (s:=(name ts (pubS ts s).next).2) ⟨#[40]⟩ (by decide)).1
    obtain ⟨p,hpp,lp⟩:∃ p,params ts f (must ts ⟨#[40]⟩ (name ts (pubS ts s).next).2)=some p∧left ts p.2≤left ts (must ts ⟨#[40]⟩ (name ts (pubS ts s).next).2):=by
      unfold params
      split
      · exact ⟨_,rfl,jE _⟩
      · exact paramsL_has f [] _ (by omega)
    rw [hpp]
    simp only [Option.bind_some]
    have h4:=(left_must (ts:=ts) (s:=p.2) ⟨#[41]⟩ (by decide)).1
    have h5:=left_gives (ts:=ts) (s:=must ts ⟨#[41]⟩ p.2)
    obtain ⟨b,hb,lb⟩:=(enough2 ts f).bk (givesS ts (must ts ⟨#[41]⟩ p.2)) (by omega)
    rw [hb]
    exact ⟨_,rfl,by dsimp only;omega,.inl (by dsimp only;omega)⟩
  · have h1:=left_label (ts:=ts) (s:=pubS ts s)
    have h2:=left_name (ts:=ts) (s:=(label ts (pubS ts s)).2)
    have h3:=left_var (ts:=ts) (s:=(name ts (label ts (pubS ts s)).2).2)
    have h4:=(left_must (ts:=ts) (s:=(varS ts (name ts (label ts (pubS ts s)).2).2).2) ⟨#[59]⟩ (by decide)).1
    refine ⟨_,rfl,by dsimp only;omega,?_⟩
    rcases label_or (ts:=ts) (s:=pubS ts s) with hor | hor
    · exact .inl (by dsimp only;omega)
    · exact .inr (must_bad (var_bad (name_bad hor)))
end
end Go.Proofs.YtfopddgjdaoidaaGreatDoor.syn
namespace Go.Proofs.YtfopddgjdaoidaaGreatDoor.syn
open Go.RowKit
mutual
def manyT:Tree→Int→Int
  | .node _ _ _ ks,most=>manyL ks 1 most
def manyL:List Tree→Int→Int→Int
  | [],k,_=>k
  | t :: r,k,most=>if k≤most then manyL r (k+manyT t (most - k)) most else k
end
mutual
def deepT:Tree→Int→Int
  | .node _ _ _ ks,most=>deepL ks 0 most+1
def deepL:List Tree→Int→Int→Int
  | [],d,_=>d
  | t :: r,d,most=>if 0<most∧d≤most then deepL r (max d (deepT t (most - 1))) most else d
end
def fitsT (t:Tree):Bool:=if 500<manyT t 500 then false else decide (deepT t 16≤16)
mutual
theorem manyT_bounds:∀ (t:Tree) (most:Int),0≤most→1≤manyT t most∧manyT t most≤most+1
  | .node _ _ _ ks,most,h=>by
    unfold manyT
    exact manyL_bounds ks 1 most h (by omega) (by omega)
theorem manyL_bounds:∀ (ks:List Tree) (k most:Int),0≤most→1≤k→k≤most+1→1≤manyL ks k most∧manyL ks k most≤most+1
  | [],k,most,h,h1,h2=>by unfold manyL;exact ⟨h1,h2⟩
  | t :: r,k,most,h,h1,h2=>by
    unfold manyL
    split
    · have hm:=manyT_bounds t (most - k) (by omega)
      exact manyL_bounds r _ most h (by omega) (by omega)
    · exact ⟨h1,h2⟩
end
mutual
theorem deepT_bounds:∀ (t:Tree) (most:Int),0≤most→1≤deepT t most∧deepT t most≤most+1
  | .node _ _ _ ks,most,h=>by
    unfold deepT
    have:=deepL_bounds ks 0 most h (by omega) (by omega)
    omega
theorem deepL_bounds:∀ (ks:List Tree) (d most:Int),0≤most→0≤d→d≤most→0≤deepL ks d most∧deepL ks d most≤most
  | [],d,most,h,h1,h2=>by unfold deepL;exact ⟨h1,h2⟩
  | t :: r,d,most,h,h1,h2=>by
    unfold deepL
    split
    · rename_i hc
      have hm:=deepT_bounds t (most - 1) (by omega)
      exact deepL_bounds r _ most h (by omega) (by omega)
    · exact ⟨h1,h2⟩
end
end Go.Proofs.YtfopddgjdaoidaaGreatDoor.syn
namespace Go.Proofs.YtfopddgjdaoidaaGreatDoor.lexs
theorem scanL_len:∀ (f:Nat) (l:List UInt8) (i:Nat) (acc toks:List Tok),scanL f l i acc=.ok toks→toks.length≤acc.length+l.length
  | 0,l,i,acc,toks,h=>by
    unfold scanL at h
    injection h with h
    subst h
    omega
  | f+1,[],i,acc,toks,h=>by
    unfold scanL at h
    injection h with h
    subst h
    simp
  | f+1,b :: r,i,acc,toks,h=>by
    cases hs:stepL (b :: r) with
    | skip n =>
      rw [scanL_skip hs] at h
      have:=scanL_len f _ _ _ _ h
      rw [List.length_drop] at this
      omega
    | fault c=>rw [scanL_fault hs] at h;simp at h
    | tok k n =>
      rw [scanL_tok hs] at h
      have h1:=scanL_len f _ _ _ _ h
      have h2:=(stepL_tok hs).1
      rw [List.length_drop,List.length_append] at h1
      simp at h1 ⊢
      omega
theorem scan_len {l:List UInt8} {toks:List Tok} (h:scan l=.ok toks):toks.length≤3000:=by
  unfold scan at h
  split at h
  · simp at h
  · have:=scanL_len _ _ _ _ _ h
    simp at this
    omega
end Go.Proofs.YtfopddgjdaoidaaGreatDoor.lexs
namespace Go.Proofs.YtfopddgjdaoidaaGreatDoor.syn
open lexs (Tok scan)
section
variable (ts:List Tok)
def importsL:Nat→List Tree→St→Option (List Tree × St)
  | 0,_,_=>none
  | f+1,ks,s=>if eqS (txt ts s) ⟨#[105,109,112,111,114,116]⟩ then importsL f (ks++[.node 2 (name ts s.next).1 0 []]) (must ts ⟨#[59]⟩ (name ts s.next).2) else some (ks,s)
def declsL:Nat→List Tree→St→Option (List Tree × St)
  | 0,_,_=>none
  | f+1,ks,s=>if s.bad || decide (ts.length≤s.i) then some (ks,s) else (declF ts 100000 s).bind fun q=>declsL f (ks++[q.1]) q.2
def headS:St:=must ts ⟨#[59]⟩ (name ts (must ts ⟨#[109,111,100,117,108,101]⟩ ⟨0,false⟩)).2
def headX:ByteArray:=(name ts (must ts ⟨#[109,111,100,117,108,101]⟩ ⟨0,false⟩)).1
def moduleF:Option (Tree × St) :=
  (importsL ts 4000 [] (headS ts)).bind fun p=>(declsL ts 4000 p.1 p.2).bind fun q=>some (.node 1 (headX ts) 0 q.1,q.2)
end
structure Out where
  tree:Tree
  code:Int
  place:Int
def none0:Tree:=.node 0 empty 0 []
def failAt (ts:List Tok) (n:Nat) (s:St):Int:=match ts[s.i]? with
  | some t=>(t.at_:Int)
  | none=>(n:Int)
def judge (ts:List Tok) (n:Nat) (q:Tree × St):Out :=
  if q.2.bad then ⟨none0,2,failAt ts n q.2⟩ else if fitsT q.1 then ⟨q.1,0,0⟩ else ⟨none0,1,0⟩
def parse (x:ByteArray):Out:=match scan x.data.toList with
  | .err c p=>⟨none0,c,p⟩
  | .ok ts=>match moduleF ts with
    | none=>⟨none0,0,0⟩
    | some q=>judge ts x.size q
section
variable {ts:List Tok} {s:St}
theorem importsL_has (f:Nat):∀ (ks:List Tree) (s:St),left ts s+1≤f→∃ p,importsL ts f ks s=some p∧left ts p.2≤left ts s:=by
  induction f with
  | zero=>intro ks s h;omega
  | succ f ih =>
    intro ks s h
    unfold importsL
    split
    · rename_i h3
      have h4:=left_hit (by decide) h3
      have h2:=left_name (ts:=ts) (s:=s.next)
      have h5:=(left_must (ts:=ts) (s:=(name ts s.next).2) ⟨#[59]⟩ (by decide)).1
      obtain ⟨p,hp,hle⟩:=ih (ks++[.node 2 (name ts s.next).1 0 []]) (must ts ⟨#[59]⟩ (name ts s.next).2) (by omega)
      exact ⟨p,hp,by omega⟩
    · exact ⟨_,rfl,jE _⟩
theorem declsL_has (f:Nat):∀ (ks:List Tree) (s:St),left ts s≤3000→left ts s+2≤f∨(s.bad=true∧1≤f)→∃ p,declsL ts f ks s=some p:=by
  induction f with
  | zero=>intro ks s h0 h;omega
  | succ f ih =>
    intro ks s h0 h
    unfold declsL
    cases hb:s.bad
    · rw [hb] at h
      simp only [Bool.false_eq_true,false_and,or_false] at h
      by_cases hl:ts.length≤s.i
      · rw [decide_eq_true hl]
        exact ⟨_,rfl⟩
      · rw [decide_eq_false hl]
        simp only [Bool.or_false,Bool.false_eq_true,if_false]
        obtain ⟨q,hq,hle,hor⟩:=declF_has (ts:=ts) (s:=s) (f:=100000) (by omega)
        rw [hq]
        simp only [Option.bind_some]
        refine ih _ _ (by omega) ?_
        rcases hor with h1 | h1
        · exact .inl (by omega)
        · exact .inr ⟨h1,by omega⟩
    · simp only [Bool.true_or,if_true]
      exact ⟨_,rfl⟩
theorem left_le:left ts s≤ts.length:=by unfold left;split <;> omega
theorem moduleF_has (h:ts.length≤3000):∃ p q,importsL ts 4000 [] (headS ts)=some p∧declsL ts 4000 p.1 p.2=some q∧moduleF ts=some (.node 1 (headX ts) 0 q.1,q.2):=by
  have h1:=left_le (ts:=ts) (s:=headS ts)
  obtain ⟨p,hp,hle⟩:=importsL_has (ts:=ts) 4000 [] (headS ts) (by omega)
  obtain ⟨q,hq⟩:=declsL_has (ts:=ts) 4000 p.1 p.2 (by omega) (.inl (by omega))
  refine ⟨p,q,hp,hq,?_⟩
  unfold moduleF
  rw [hp]
  simp only [Option.bind_some]
  rw [hq]
  rfl
end
end Go.Proofs.YtfopddgjdaoidaaGreatDoor.syn
namespace Go.Proofs.YtfopddgjdaoidaaGreatDoor.syn
open Go
theorem append_block {P:Program} (w:World) (base:Nat) (t ty e:TypeId) (i:TypeInfo) (z:Value) (size bytes:Nat) (ht:P.underlying t=some (.slice e)) (hi:P.info? e=some i) (hz:i.zero=some z)
    (hsize:i.size=size) (hby:i.bytes=bytes) (v:Value) (n:Nat) (xs:List Value) (hown:w.ownsRow base e size v n xs)
    (a:Addr) (m c:Nat) (news:List Value) (hl:news.length=m * size) (hnews:∀ j u,news[j]?=some u→w.cell? (a.add j)=some u) (h1:∀ u ∈ news,u.oneCell'=true)
    (h63:n+m≤maxLen) (hbytes:(n+m) * bytes≤140737488355328) (hm:0<m) {v':Value} {w':World}
    (hr:(Builtin.append_ #[t,t] ty #[v,.slice (some a) m c]).run P w=.ok v' w'):v'.ownBlock=v.ownBlock∨v'.ownBlock=some w.heap.size:=by
  subst hsize
  subst hby
  have hsmall:n+m≤9223372036854775807:=by simp only [maxLen] at h63;omega
  rcases hown.2 with ⟨rfl,rfl⟩ | ⟨g,cap,cur,rfl,hbg,hg,hnc,hcm,hcs,htake⟩
  · have hx:=run_append_nil (P:=P) w t ty e i z ht hi hz a m c news hl hnews (by omega) (by omega) (by simp only [Nat.zero_add] at hbytes;omega)
    rw [hr] at hx
    injection hx with hv _
    rw [hv]
    exact .inr rfl
  · by_cases hroom:n+m≤cap
    · have hfit:n * i.size+news.length≤cur.size:=by rw [hl,hcs,← Nat.add_mul];exact Nat.mul_le_mul_right _ hroom
      have hx:=run_append_room (P:=P) w t ty e i ht hi g n cap cur hg a m c news hl hnews h1 hroom hfit
      rw [hr] at hx
      injection hx with hv _
      rw [hv]
      exact .inl rfl
    · have holds:∀ j u,xs[j]?=some u→w.cell? ((⟨g,0,none⟩:Addr).add j)=some u:=hown.cells (g:=g) rfl
      have hx:=run_append_grow (P:=P) w t ty e i z ht hi hz ⟨g,0,none⟩ n cap xs hown.1 holds a m c news hl hnews (by omega) (by omega) (growslice_fits (by omega) hbytes)
      rw [hr] at hx
      injection hx with hv _
      rw [hv]
      exact .inr rfl
theorem wpList_append_fresh {P:Program} {w:World} {ops:Array Oper} {rest:List Oper} {o:Oper} {a:Act} {Q:Exit→Act→World→Prop} (hgd:o.guard=none) (s x:Operand) (t:TypeId)
    (ho:o.op=.call { callee:=.builtin .append,args:=#[s,x],argTypes:=#[t,t] })
    (base:Nat) (e:TypeId) (i:TypeInfo) (z:Value) (size bytes:Nat) (ht:P.underlying t=some (.slice e)) (hi:P.info? e=some i) (hz:i.zero=some z)
    (hsize:i.size=size) (hby:i.bytes=bytes) (hzs:z.cells.size=size) (hsz:0<size)
    (v:Value) (n:Nat) (xs:List Value) (hs:a.eval s=v) (hown:w.ownsRow base e size v n xs)
    (ad:Addr) (m c:Nat) (news:List Value) (hx:a.eval x=.slice (some ad) m c) (hl:news.length=m * size) (hnews:∀ j u,news[j]?=some u→w.cell? (ad.add j)=some u) (h1:∀ u ∈ news,u.oneCell'=true)
    (h63:n+m≤maxLen) (hbytes:(n+m) * bytes≤140737488355328) (hbase:base≤w.heap.size) (hm:0<m)
    (h:∀ v' w',w'.ownsRow base e size v' (n+m) (xs++news)→w.grownBy w' v.ownBlock→(v'.ownBlock=v.ownBlock∨v'.ownBlock=some w.heap.size)→wpList P ops Q rest (a.put o.dst v') w'):wpList P ops Q (o :: rest) a w:=by
  refine wpList_plain hgd fun K hK=>?_
  obtain ⟨v',w',hr,h2,h3,_⟩:=run_append_own (P:=P) w base t o.type e i z size bytes ht hi hz hsize hby hzs hsz v n xs hown ad m c news hl hnews h1 h63 hbytes hbase
  have h4:=append_block w base t o.type e i z size bytes ht hi hz hsize hby v n xs hown ad m c news hl hnews h1 h63 hbytes hm hr
  unfold Oper.wp execOp
  simp only [ho,resolve,invoke,builtin,Sem.run_bind,Sem.run_pure,Result.andThen_ok,List.map_toArray,List.map_cons,List.map_nil,hs,hx,hr]
  exact hK _ _ (h v' w' h2 h3 h4)
end Go.Proofs.YtfopddgjdaoidaaGreatDoor.syn
namespace Go.Proofs.YtfopddgjdaoidaaGreatDoor.syn
open Go.RowKit
open lexs (Tok own_shape)
theorem nodeInfo:(Tryz.prog.info? 25).map (fun i=>(i.zero,i.size,i.bytes))=some (some (.agg #[.int .i64 0,.string ⟨#[]⟩,.int .i64 0,.slice none 0 0]),4,56):=by kernel_rfl
abbrev Q4:=Value × Value × Value × Value
def Q4.v (q:Q4):Value:=.agg #[q.1,q.2.1,q.2.2.1,q.2.2.2]
def flat4 (vs:List Q4):List Value:=vs.flatMap fun q=>[q.1,q.2.1,q.2.2.1,q.2.2.2]
theorem flat4_snoc (vs:List Q4) (q:Q4):flat4 (vs++[q])=flat4 vs++[q.1,q.2.1,q.2.2.1,q.2.2.2]:=by simp [flat4]
def AllLie (P:Nat→Prop) (w:World):List Tree→List Q4→Prop
  | [],[]=>True
  | t :: r,q :: vs=>Lies P w t q.v∧AllLie P w r vs
  | _,_=>False
theorem AllLie.length {P:Nat→Prop} {w:World}:∀ {ks:List Tree} {vs:List Q4},AllLie P w ks vs→ks.length=vs.length
  | [],[],_=>rfl
  | t :: r,q :: vs,h=>by simp [AllLie.length h.2]
  | [],_ :: _,h=>by simp [AllLie] at h
  | _ :: _,[],h=>by simp [AllLie] at h
theorem AllLie.to {P Q:Nat→Prop} {w w':World} (hPQ:∀ b,P b→Q b) (hw:∀ b,P b→∀ o,w'.cell? ⟨b,o,none⟩=w.cell? ⟨b,o,none⟩):∀ {ks:List Tree} {vs:List Q4},AllLie P w ks vs→AllLie Q w' ks vs
  | [],[],_=>trivial
  | t :: r,q :: vs,h=>⟨h.1.to hPQ hw,AllLie.to hPQ hw h.2⟩
  | [],_ :: _,h=>by simp [AllLie] at h
  | _ :: _,[],h=>by simp [AllLie] at h
theorem AllLie.snoc {P:Nat→Prop} {w:World} {t:Tree} {q:Q4} (hq:Lies P w t q.v):∀ {ks:List Tree} {vs:List Q4},AllLie P w ks vs→AllLie P w (ks++[t]) (vs++[q])
  | [],[],_=>⟨hq,trivial⟩
  | t' :: r,q' :: vs,h=>⟨h.1,AllLie.snoc hq h.2⟩
  | [],_ :: _,h=>by simp [AllLie] at h
  | _ :: _,[],h=>by simp [AllLie] at h
theorem AllLie.at {P:Nat→Prop} {w:World} {g:Nat}:∀ {ks:List Tree} {vs:List Q4} {o:Nat},AllLie P w ks vs→(∀ j,j<vs.length * 4→w.cell? ⟨g,o+j,none⟩=(flat4 vs)[j]?)→LiesAt P w ks g o
  | [],[],o,_,_=>by unfold LiesAt;trivial
  | t :: r,q :: vs,o,h,hc=>by
    unfold LiesAt
    have e:flat4 (q :: vs)=[q.1,q.2.1,q.2.2.1,q.2.2.2]++flat4 vs:=rfl
    refine ⟨⟨q.v,⟨q.1,q.2.1,q.2.2.1,q.2.2.2,rfl,?_,?_,?_,?_⟩,h.1⟩,AllLie.at h.2 ?_⟩
    · have:=hc 0 (by simp <;> omega);rw [e] at this;simpa using this
    · have:=hc 1 (by simp <;> omega);rw [e] at this;simpa using this
    · have:=hc 2 (by simp <;> omega);rw [e] at this;simpa using this
    · have:=hc 3 (by simp <;> omega);rw [e] at this;simpa using this
    · intro j hj
      have:=hc (4+j) (by simp;omega)
      rw [e,List.getElem?_append_right (by simp),← Nat.add_assoc] at this
      simpa using this
  | [],_ :: _,_,h,_=>by simp [AllLie] at h
  | _ :: _,[],_,h,_=>by simp [AllLie] at h
def Kids (B:Nat) (P:Nat→Prop) (w:World) (kv:Value) (ks:List Tree):Prop:=∃ vs,w.ownsRow B 25 4 kv ks.length (flat4 vs)∧AllLie P w ks vs
theorem Kids.nil (B:Nat) (P:Nat→Prop) (w:World):Kids B P w (.slice none 0 0) []:=⟨[],World.ownsRow_nil _ _ _ _,trivial⟩
theorem Kids.lies {B:Nat} {P Q:Nat→Prop} {w:World} {kv:Value} {ks:List Tree} {k m:Int} {x:ByteArray} (h:Kids B P w kv ks) (hPQ:∀ b,P b→Q b) (hg:∀ g,kv.ownBlock=some g→Q g) (hl:ks.length≤4611686018427387904):Lies Q w (.node k x m ks) (.agg #[.int .i64 k,.string x,.int .i64 m,kv]):=by
  obtain ⟨vs,ho,ha⟩:=h
  have hlen:=ha.length
  obtain ⟨a,c,rfl,_,hs⟩:=own_shape ho
  have hcap:ks.length≤c:=by
    rcases ho.2 with ⟨e,hn⟩ | ⟨g,cap,cur,e,h3,h4,h5,h6,_⟩
    · omega
    · injection e with _ _ e2;omega
  unfold Lies
  refine ⟨a,c,rfl,⟨hl,hcap⟩,fun hne=>?_⟩
  have h0:0<ks.length:=by cases ks with | nil=>exact absurd rfl hne | cons _ _=>simp
  obtain ⟨g,rfl⟩:=hs h0
  refine ⟨g,0,rfl,hg g rfl,(ha.to hPQ (fun _ _ _=>rfl)).at ?_⟩
  intro j hj
  rw [Nat.zero_add]
  exact ho.cellAt j (by omega)
theorem cells4_new (w:World) (a b c d:Value) (t:TypeId) (g:Nat) (hg:g=w.heap.size):∀ j u,[a,b,c,d][j]?=some u→(w.alloc (.cells #[a,b,c,d] t)).cell? ((⟨g,0,none⟩:Addr).add j)=some u:=by
  subst hg
  intro j u hj
  match j,hj with
  | 0,hj=>simp at hj;subst hj;simp [Addr.add]
  | 1,hj=>simp at hj;subst hj;simp [Addr.add]
  | 2,hj=>simp at hj;subst hj;simp [Addr.add]
  | 3,hj=>simp at hj;subst hj;simp [Addr.add]
theorem grown_trans {a b c:World} {row:Option Nat} (h:a.grownBy b row) (k:b.grownBy c row):a.grownBy c row :=
  ⟨k.os.trans h.os,k.tape.trans h.tape,k.output.trans h.output,Nat.le_trans h.size k.size,fun j hj hn=>(k.block j (Nat.lt_of_lt_of_le hj h.size) hn).trans (h.block j hj hn)⟩
theorem Box4.grown {w w':World} {row:Option Nat} {N:Nat} {x0 x1 x2 x3:Value} (h:Box4 w N x0 x1 x2 x3) (hF:w.grownBy w' row) (hN:row≠some N):Box4 w' N x0 x1 x2 x3:=by
  have hb:=hF.block N h.lt (fun e=>hN e.symm)
  exact ⟨(World.cell?_of_block (a:=⟨N,0,none⟩) hb).trans h.c0,(World.cell?_of_block (a:=⟨N,1,none⟩) hb).trans h.c1,(World.cell?_of_block (a:=⟨N,2,none⟩) hb).trans h.c2,(World.cell?_of_block (a:=⟨N,3,none⟩) hb).trans h.c3,
    (World.frozen?_of_block (a:=⟨N,0,none⟩) hb).trans h.f0,(World.frozen?_of_block (a:=⟨N,1,none⟩) hb).trans h.f1,(World.frozen?_of_block (a:=⟨N,2,none⟩) hb).trans h.f2,(World.frozen?_of_block (a:=⟨N,3,none⟩) hb).trans h.f3⟩
section
variable {w:World} {r:Nat} {L:Value} {ts:List Tok} {s:St}
theorem Kids.shape {B:Nat} {P:Nat→Prop} {kv:Value} {ks:List Tree} (h:Kids B P w kv ks):∃ a c,kv=.slice a ks.length c:=by
  obtain ⟨vs,ho,_⟩:=h
  obtain ⟨a,c,e,_⟩:=own_shape ho
  exact ⟨a,c,e⟩
theorem Kids.blk {B:Nat} {P:Nat→Prop} {kv:Value} {ks:List Tree} (h:Kids B P w kv ks) {g:Nat} (hg:kv.ownBlock=some g):B≤g∧g<w.heap.size:=by
  obtain ⟨vs,ho,_⟩:=h
  exact ho.lt g hg
theorem Kids.grown {B:Nat} {P Q:Nat→Prop} {w':World} {row:Option Nat} {kv:Value} {ks:List Tree} (h:Kids B P w kv ks) (hg:w.grownBy w' row) (hk:kv.ownBlock=none∨kv.ownBlock≠row) (hP:∀ b,P b→b<w.heap.size∧some b≠row) (hQ:∀ b,P b→Q b):Kids B Q w' kv ks:=by
  obtain ⟨vs,ho,ha⟩:=h
  exact ⟨vs,ho.kept hg hk,ha.to hQ (fun b hb o=>World.cell?_of_block (a:=⟨b,o,none⟩) (hg.block b (hP b hb).1 (hP b hb).2))⟩
end
section
variable {w:World} {r:Nat} {L:Value} {ts:List Tok} {s:St}
theorem label_01 (ts:List Tok) (s:St):0≤(label ts s).1∧(label ts s).1≤1:=by
  unfold label
  split <;> simp
end
end Go.Proofs.YtfopddgjdaoidaaGreatDoor.syn
namespace Go.Proofs.YtfopddgjdaoidaaGreatDoor.syn
open Go.RowKit
def opS:List ByteArray:=[empty,⟨#[43]⟩,⟨#[45]⟩,⟨#[42]⟩,⟨#[47]⟩,⟨#[37]⟩,⟨#[38]⟩,⟨#[124]⟩,⟨#[60]⟩,⟨#[61,61]⟩]
def opB:List Int:=[0,1,1,2,2,2,2,1,0,0]
def opAt (k:Nat):ByteArray:=opS.getD k empty
def opIs (k:Nat):Int:=opB.getD k 0
def HasOps (w:World):Prop:=∃ cs t fr,w.heap[5]?=some (.cells cs t fr)∧cs.size=20∧∀ k,k<10→cs[k * 2]?=some (.string (opAt k))∧cs[k * 2+1]?=some (.int .i64 (opIs k))
end Go.Proofs.YtfopddgjdaoidaaGreatDoor.syn
