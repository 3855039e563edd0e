/- What the program's opOf answers: a contract. -/
import Derived.Test.YtfopddgjdaoidaaGreatDoorNR01
set_option linter.unusedVariables false
set_option maxRecDepth 100000
set_option linter.unusedSimpArgs false
namespace Go.Proofs.YtfopddgjdaoidaaGreatDoor
namespace syn
open Go.RowKit
mutual
def manyT:Tree→Int→Int
 | .node _ _ _ ks,most=>manyL ks 1 most
def manyL:List Tree→Int→Int→Int
 | [],k,_=>k
 | t :: r,k,most=>if k≤most then manyL r (k+manyT t (most - k)) most else k
end
mutual
def deepT:Tree→Int→Int
 | .node _ _ _ ks,most=>deepL ks 0 most+1
def deepL:List Tree→Int→Int→Int
 | [],d,_=>d
 | t :: r,d,most=>if 0<most∧d≤most then deepL r (max d (deepT t (most - 1))) most else d
end
def fitsT (t:Tree):Bool:=if 500<manyT t 500 then false else decide (deepT t 16≤16)
mutual
theorem manyT_bounds:∀ (t:Tree) (most:Int),0≤most→1≤manyT t most∧manyT t most≤most+1
 | .node _ _ _ ks,most,h=>by
  unfold manyT
  exact manyL_bounds ks 1 most h (by omega) (by omega)
theorem manyL_bounds:∀ (ks:List Tree) (k most:Int),0≤most→1≤k→k≤most+1→1≤manyL ks k most∧manyL ks k most≤most+1
 | [],k,most,h,h1,h2=>by unfold manyL;exact ⟨h1,h2⟩
 | t :: r,k,most,h,h1,h2=>by
  unfold manyL
  split
  ·have hm:=manyT_bounds t (most - k) (by omega)
   exact manyL_bounds r _ most h (by omega) (by omega)
  ·exact ⟨h1,h2⟩
end
mutual
theorem deepT_bounds:∀ (t:Tree) (most:Int),0≤most→1≤deepT t most∧deepT t most≤most+1
 | .node _ _ _ ks,most,h=>by
  unfold deepT
  have:=deepL_bounds ks 0 most h (by omega) (by omega)
  omega
theorem deepL_bounds:∀ (ks:List Tree) (d most:Int),0≤most→0≤d→d≤most→0≤deepL ks d most∧deepL ks d most≤most
 | [],d,most,h,h1,h2=>by unfold deepL;exact ⟨h1,h2⟩
 | t :: r,d,most,h,h1,h2=>by
  unfold deepL
  split
  ·rename_i hc
   have hm:=deepT_bounds t (most - 1) (by omega)
   exact deepL_bounds r _ most h (by omega) (by omega)
  ·exact ⟨h1,h2⟩
end
end syn
namespace lexs
theorem scanL_len:∀ (f:Nat) (l:List UInt8) (i:Nat) (acc toks:List Tok),scanL f l i acc=.ok toks→toks.length≤acc.length+l.length
 | 0,l,i,acc,toks,h=>by
  unfold scanL at h
  injection h with h
  subst h
  omega
 | f+1,[],i,acc,toks,h=>by
  unfold scanL at h
  injection h with h
  subst h
  simp
 | f+1,b :: r,i,acc,toks,h=>by
  cases hs:stepL (b :: r) with
  | skip n =>
   rw [scanL_skip hs] at h
   have:=scanL_len f _ _ _ _ h
   rw [List.length_drop] at this
   omega
  | fault c=>rw [scanL_fault hs] at h;simp at h
  | tok k n =>
   rw [scanL_tok hs] at h
   have h1:=scanL_len f _ _ _ _ h
   have h2:=(stepL_tok hs).1
   rw [List.length_drop,List.length_append] at h1
   simp at h1 ⊢
   omega
theorem scan_len {l:List UInt8} {toks:List Tok} (h:scan l=.ok toks):toks.length≤3000:=by
 unfold scan at h
 split at h
 ·simp at h
 ·have:=scanL_len _ _ _ _ _ h
  simp at this
  omega
end lexs
namespace syn
open lexs (Tok scan)
section
variable (ts:List Tok)
def importsL:Nat→List Tree→St→Option (List Tree × St)
 | 0,_,_=>none
 | f+1,ks,s=>if eqS (txt ts s) ⟨#[105,109,112,111,114,116]⟩ then importsL f (ks++[.node 2 (name ts s.next).1 0 []]) (must ts ⟨#[59]⟩ (name ts s.next).2) else some (ks,s)
def declsL:Nat→List Tree→St→Option (List Tree × St)
 | 0,_,_=>none
 | f+1,ks,s=>if s.bad||decide (ts.length≤s.i) then some (ks,s) else (declF ts 100000 s).bind fun q=>declsL f (ks++[q.1]) q.2
def headS:St:=must ts ⟨#[59]⟩ (name ts (must ts ⟨#[109,111,100,117,108,101]⟩ ⟨0,false⟩)).2
def headX:ByteArray:=(name ts (must ts ⟨#[109,111,100,117,108,101]⟩ ⟨0,false⟩)).1
def moduleF:Option (Tree × St) :=
 (importsL ts 4000 [] (headS ts)).bind fun p=>(declsL ts 4000 p.1 p.2).bind fun q=>some (.node 1 (headX ts) 0 q.1,q.2)
end
structure Out where
 tree:Tree
 code:Int
 place:Int
def none0:Tree:=.node 0 empty 0 []
def failAt (ts:List Tok) (n:Nat) (s:St):Int:=match ts[s.i]? with
 | some t=>(t.at_:Int)
 | none=>(n:Int)
def judge (ts:List Tok) (n:Nat) (q:Tree × St):Out :=
 if q.2.bad then ⟨none0,2,failAt ts n q.2⟩ else if fitsT q.1 then ⟨q.1,0,0⟩ else ⟨none0,1,0⟩
def parse (x:ByteArray):Out:=match scan x.data.toList with
 | .err c p=>⟨none0,c,p⟩
 | .ok ts=>match moduleF ts with
  | none=>⟨none0,0,0⟩
  | some q=>judge ts x.size q
section
variable {ts:List Tok} {s:St}
theorem importsL_has (f:Nat):∀ (ks:List Tree) (s:St),left ts s+1≤f→∃ p,importsL ts f ks s=some p∧left ts p.2≤left ts s:=by
 induction f with
 | zero=>intro ks s h;omega
 | succ f ih =>
  intro ks s h
  unfold importsL
  split
  ·rename_i h3
   have h4:=left_hit (by decide) h3
   have h2:=left_name (ts:=ts) (s:=s.next)
   have h5:=(left_must (ts:=ts) (s:=(name ts s.next).2) ⟨#[59]⟩ (by decide)).1
   obtain ⟨p,hp,hle⟩:=ih (ks++[.node 2 (name ts s.next).1 0 []]) (must ts ⟨#[59]⟩ (name ts s.next).2) (by omega)
   exact ⟨p,hp,by omega⟩
  ·exact ⟨_,rfl,jE _⟩
theorem declsL_has (f:Nat):∀ (ks:List Tree) (s:St),left ts s≤3000→left ts s+2≤f∨(s.bad=true∧1≤f)→∃ p,declsL ts f ks s=some p:=by
 induction f with
 | zero=>intro ks s h0 h;omega
 | succ f ih =>
  intro ks s h0 h
  unfold declsL
  cases hb:s.bad
  ·rw [hb] at h
   simp only [Bool.false_eq_true,false_and,or_false] at h
   by_cases hl:ts.length≤s.i
   ·rw [decide_eq_true hl]
    exact ⟨_,rfl⟩
   ·rw [decide_eq_false hl]
    simp only [Bool.or_false,Bool.false_eq_true,if_false]
    obtain ⟨q,hq,hle,hor⟩:=declF_has (ts:=ts) (s:=s) (f:=100000) (by omega)
    rw [hq]
    simp only [Option.bind_some]
    refine ih _ _ (by omega) ?_
    rcases hor with h1 | h1
    ·exact .inl (by omega)
    ·exact .inr ⟨h1,by omega⟩
  ·simp only [Bool.true_or,if_true]
   exact ⟨_,rfl⟩
theorem left_le:left ts s≤ts.length:=by unfold left;split<;>omega
theorem moduleF_has (h:ts.length≤3000):∃ p q,importsL ts 4000 [] (headS ts)=some p∧declsL ts 4000 p.1 p.2=some q∧moduleF ts=some (.node 1 (headX ts) 0 q.1,q.2):=by
 have h1:=left_le (ts:=ts) (s:=headS ts)
 obtain ⟨p,hp,hle⟩:=importsL_has (ts:=ts) 4000 [] (headS ts) (by omega)
 obtain ⟨q,hq⟩:=declsL_has (ts:=ts) 4000 p.1 p.2 (by omega) (.inl (by omega))
 refine ⟨p,q,hp,hq,?_⟩
 unfold moduleF
 rw [hp]
 simp only [Option.bind_some]
 rw [hq]
 rfl
end
end syn
namespace syn
open Go
theorem append_block {P:Program} (w:World) (base:Nat) (t ty e:TypeId) (i:TypeInfo) (z:Value) (size bytes:Nat) (ht:P.underlying t=some (.slice e)) (hi:P.info? e=some i) (hz:i.zero=some z)
  (hsize:i.size=size) (hby:i.bytes=bytes) (v:Value) (n:Nat) (xs:List Value) (hown:w.ownsRow base e size v n xs)
  (a:Addr) (m c:Nat) (news:List Value) (hl:news.length=m*size) (hnews:∀ j u,news[j]?=some u→w.cell? (a.add j)=some u) (h1:∀ u∈news,u.oneCell'=true)
  (h63:n+m≤maxLen) (hbytes:(n+m)*bytes≤140737488355328) (hm:0<m) {v':Value} {w':World}
  (hr:(Builtin.append_ #[t,t] ty #[v,.slice (some a) m c]).run P w=.ok v' w'):v'.ownBlock=v.ownBlock∨v'.ownBlock=some w.heap.size:=by
 subst hsize
 subst hby
 have hsmall:n+m≤9223372036854775807:=by simp only [maxLen] at h63;omega
 rcases hown.2 with ⟨rfl,rfl⟩|⟨g,cap,cur,rfl,hbg,hg,hnc,hcm,hcs,htake⟩
 ·have hx:=run_append_nil (P:=P) w t ty e i z ht hi hz a m c news hl hnews (by omega) (by omega) (by simp only [Nat.zero_add] at hbytes;omega)
  rw [hr] at hx
  injection hx with hv _
  rw [hv]
  exact .inr rfl
 ·by_cases hroom:n+m≤cap
  ·have hfit:n*i.size+news.length≤cur.size:=by rw [hl,hcs,← Nat.add_mul];exact Nat.mul_le_mul_right _ hroom
   have hx:=run_append_room (P:=P) w t ty e i ht hi g n cap cur hg a m c news hl hnews h1 hroom hfit
   rw [hr] at hx
   injection hx with hv _
   rw [hv]
   exact .inl rfl
  ·have holds:∀ j u,xs[j]?=some u→w.cell? ((⟨g,0,none⟩:Addr).add j)=some u:=hown.cells (g:=g) rfl
   have hx:=run_append_grow (P:=P) w t ty e i z ht hi hz ⟨g,0,none⟩ n cap xs hown.1 holds a m c news hl hnews (by omega) (by omega) (growslice_fits (by omega) hbytes)
   rw [hr] at hx
   injection hx with hv _
   rw [hv]
   exact .inr rfl
theorem wpList_append_fresh {P:Program} {w:World} {ops:Array Oper} {rest:List Oper} {o:Oper} {a:Act} {Q:Exit→Act→World→Prop} (hgd:o.guard=none) (s x:Operand) (t:TypeId)
  (ho:o.op=.call { callee:=.builtin .append,args:=#[s,x],argTypes:=#[t,t] })
  (base:Nat) (e:TypeId) (i:TypeInfo) (z:Value) (size bytes:Nat) (ht:P.underlying t=some (.slice e)) (hi:P.info? e=some i) (hz:i.zero=some z)
  (hsize:i.size=size) (hby:i.bytes=bytes) (hzs:z.cells.size=size) (hsz:0<size)
  (v:Value) (n:Nat) (xs:List Value) (hs:a.eval s=v) (hown:w.ownsRow base e size v n xs)
  (ad:Addr) (m c:Nat) (news:List Value) (hx:a.eval x=.slice (some ad) m c) (hl:news.length=m*size) (hnews:∀ j u,news[j]?=some u→w.cell? (ad.add j)=some u) (h1:∀ u∈news,u.oneCell'=true)
  (h63:n+m≤maxLen) (hbytes:(n+m)*bytes≤140737488355328) (hbase:base≤w.heap.size) (hm:0<m)
  (h:∀ v' w',w'.ownsRow base e size v' (n+m) (xs++news)→w.grownBy w' v.ownBlock→(v'.ownBlock=v.ownBlock∨v'.ownBlock=some w.heap.size)→wpList P ops Q rest (a.put o.dst v') w'):wpList P ops Q (o :: rest) a w:=by
 refine wpList_plain hgd fun K hK=>?_
 obtain ⟨v',w',hr,h2,h3,_⟩:=run_append_own (P:=P) w base t o.type e i z size bytes ht hi hz hsize hby hzs hsz v n xs hown ad m c news hl hnews h1 h63 hbytes hbase
 have h4:=append_block w base t o.type e i z size bytes ht hi hz hsize hby v n xs hown ad m c news hl hnews h1 h63 hbytes hm hr
 unfold Oper.wp execOp
 simp only [ho,resolve,invoke,builtin,Sem.run_bind,Sem.run_pure,Result.andThen_ok,List.map_toArray,List.map_cons,List.map_nil,hs,hx,hr]
 exact hK _ _ (h v' w' h2 h3 h4)
end syn
namespace syn
open Go.RowKit
open lexs (Tok own_shape)
theorem nodeInfo:(Tryz.prog.info? 25).map (fun i=>(i.zero,i.size,i.bytes))=some (some (.agg #[.int .i64 0,.string ⟨#[]⟩,.int .i64 0,.slice none 0 0]),4,56):=by kernel_rfl
abbrev Q4:=Value × Value × Value × Value
def Q4.v (q:Q4):Value:=.agg #[q.1,q.2.1,q.2.2.1,q.2.2.2]
def flat4 (vs:List Q4):List Value:=vs.flatMap fun q=>[q.1,q.2.1,q.2.2.1,q.2.2.2]
theorem flat4_snoc (vs:List Q4) (q:Q4):flat4 (vs++[q])=flat4 vs++[q.1,q.2.1,q.2.2.1,q.2.2.2]:=by simp [flat4]
def AllLie (P:Nat→Prop) (w:World):List Tree→List Q4→Prop
 | [],[]=>True
 | t :: r,q :: vs=>Lies P w t q.v∧AllLie P w r vs
 | _,_=>False
theorem AllLie.length {P:Nat→Prop} {w:World}:∀ {ks:List Tree} {vs:List Q4},AllLie P w ks vs→ks.length=vs.length
 | [],[],_=>rfl
 | t :: r,q :: vs,h=>by simp [AllLie.length h.2]
 | [],_ :: _,h=>by simp [AllLie] at h
 | _ :: _,[],h=>by simp [AllLie] at h
theorem AllLie.to {P Q:Nat→Prop} {w w':World} (hPQ:∀ b,P b→Q b) (hw:∀ b,P b→∀ o,w'.cell? ⟨b,o,none⟩=w.cell? ⟨b,o,none⟩):∀ {ks:List Tree} {vs:List Q4},AllLie P w ks vs→AllLie Q w' ks vs
 | [],[],_=>trivial
 | t :: r,q :: vs,h=>⟨h.1.to hPQ hw,AllLie.to hPQ hw h.2⟩
 | [],_ :: _,h=>by simp [AllLie] at h
 | _ :: _,[],h=>by simp [AllLie] at h
theorem AllLie.snoc {P:Nat→Prop} {w:World} {t:Tree} {q:Q4} (hq:Lies P w t q.v):∀ {ks:List Tree} {vs:List Q4},AllLie P w ks vs→AllLie P w (ks++[t]) (vs++[q])
 | [],[],_=>⟨hq,trivial⟩
 | t' :: r,q' :: vs,h=>⟨h.1,AllLie.snoc hq h.2⟩
 | [],_ :: _,h=>by simp [AllLie] at h
 | _ :: _,[],h=>by simp [AllLie] at h
theorem AllLie.at {P:Nat→Prop} {w:World} {g:Nat}:∀ {ks:List Tree} {vs:List Q4} {o:Nat},AllLie P w ks vs→(∀ j,j<vs.length*4→w.cell? ⟨g,o+j,none⟩=(flat4 vs)[j]?)→LiesAt P w ks g o
 | [],[],o,_,_=>by unfold LiesAt;trivial
 | t :: r,q :: vs,o,h,hc=>by
  unfold LiesAt
  have e:flat4 (q :: vs)=[q.1,q.2.1,q.2.2.1,q.2.2.2]++flat4 vs:=rfl
  refine ⟨⟨q.v,⟨q.1,q.2.1,q.2.2.1,q.2.2.2,rfl,?_,?_,?_,?_⟩,h.1⟩,AllLie.at h.2 ?_⟩
  ·have:=hc 0 (by simp<;>omega);rw [e] at this;simpa using this
  ·have:=hc 1 (by simp<;>omega);rw [e] at this;simpa using this
  ·have:=hc 2 (by simp<;>omega);rw [e] at this;simpa using this
  ·have:=hc 3 (by simp<;>omega);rw [e] at this;simpa using this
  ·intro j hj
   have:=hc (4+j) (by simp;omega)
   rw [e,List.getElem?_append_right (by simp),← Nat.add_assoc] at this
   simpa using this
 | [],_ :: _,_,h,_=>by simp [AllLie] at h
 | _ :: _,[],_,h,_=>by simp [AllLie] at h
def Kids (B:Nat) (P:Nat→Prop) (w:World) (kv:Value) (ks:List Tree):Prop:=∃ vs,w.ownsRow B 25 4 kv ks.length (flat4 vs)∧AllLie P w ks vs
theorem Kids.nil (B:Nat) (P:Nat→Prop) (w:World):Kids B P w (.slice none 0 0) []:=⟨[],World.ownsRow_nil _ _ _ _,trivial⟩
theorem Kids.lies {B:Nat} {P Q:Nat→Prop} {w:World} {kv:Value} {ks:List Tree} {k m:Int} {x:ByteArray} (h:Kids B P w kv ks) (hPQ:∀ b,P b→Q b) (hg:∀ g,kv.ownBlock=some g→Q g) (hl:ks.length≤4611686018427387904):Lies Q w (.node k x m ks) (.agg #[.int .i64 k,.string x,.int .i64 m,kv]):=by
 obtain ⟨vs,ho,ha⟩:=h
 have hlen:=ha.length
 obtain ⟨a,c,rfl,_,hs⟩:=own_shape ho
 have hcap:ks.length≤c:=by
  rcases ho.2 with ⟨e,hn⟩|⟨g,cap,cur,e,h3,h4,h5,h6,_⟩
  ·omega
  ·injection e with _ _ e2;omega
 unfold Lies
 refine ⟨a,c,rfl,⟨hl,hcap⟩,fun hne=>?_⟩
 have h0:0<ks.length:=by cases ks with | nil=>exact absurd rfl hne | cons _ _=>simp
 obtain ⟨g,rfl⟩:=hs h0
 refine ⟨g,0,rfl,hg g rfl,(ha.to hPQ (fun _ _ _=>rfl)).at ?_⟩
 intro j hj
 rw [Nat.zero_add]
 exact ho.cellAt j (by omega)
theorem cells4_new (w:World) (a b c d:Value) (t:TypeId) (g:Nat) (hg:g=w.heap.size):∀ j u,[a,b,c,d][j]?=some u→(w.alloc (.cells #[a,b,c,d] t)).cell? ((⟨g,0,none⟩:Addr).add j)=some u:=by
 subst hg
 intro j u hj
 match j,hj with
 | 0,hj=>simp at hj;subst hj;simp [Addr.add]
 | 1,hj=>simp at hj;subst hj;simp [Addr.add]
 | 2,hj=>simp at hj;subst hj;simp [Addr.add]
 | 3,hj=>simp at hj;subst hj;simp [Addr.add]
theorem grown_trans {a b c:World} {row:Option Nat} (h:a.grownBy b row) (k:b.grownBy c row):a.grownBy c row :=
 ⟨k.os.trans h.os,k.tape.trans h.tape,k.output.trans h.output,Nat.le_trans h.size k.size,fun j hj hn=>(k.block j (Nat.lt_of_lt_of_le hj h.size) hn).trans (h.block j hj hn)⟩
theorem Box4.grown {w w':World} {row:Option Nat} {N:Nat} {x0 x1 x2 x3:Value} (h:Box4 w N x0 x1 x2 x3) (hF:w.grownBy w' row) (hN:row≠some N):Box4 w' N x0 x1 x2 x3:=by
 have hb:=hF.block N h.lt (fun e=>hN e.symm)
 exact ⟨(World.cell?_of_block (a:=⟨N,0,none⟩) hb).trans h.c0,(World.cell?_of_block (a:=⟨N,1,none⟩) hb).trans h.c1,(World.cell?_of_block (a:=⟨N,2,none⟩) hb).trans h.c2,(World.cell?_of_block (a:=⟨N,3,none⟩) hb).trans h.c3,
  (World.frozen?_of_block (a:=⟨N,0,none⟩) hb).trans h.f0,(World.frozen?_of_block (a:=⟨N,1,none⟩) hb).trans h.f1,(World.frozen?_of_block (a:=⟨N,2,none⟩) hb).trans h.f2,(World.frozen?_of_block (a:=⟨N,3,none⟩) hb).trans h.f3⟩
section
variable {w:World} {r:Nat} {L:Value} {ts:List Tok} {s:St}
theorem Kids.shape {B:Nat} {P:Nat→Prop} {kv:Value} {ks:List Tree} (h:Kids B P w kv ks):∃ a c,kv=.slice a ks.length c:=by
 obtain ⟨vs,ho,_⟩:=h
 obtain ⟨a,c,e,_⟩:=own_shape ho
 exact ⟨a,c,e⟩
theorem Kids.blk {B:Nat} {P:Nat→Prop} {kv:Value} {ks:List Tree} (h:Kids B P w kv ks) {g:Nat} (hg:kv.ownBlock=some g):B≤g∧g<w.heap.size:=by
 obtain ⟨vs,ho,_⟩:=h
 exact ho.lt g hg
theorem Kids.grown {B:Nat} {P Q:Nat→Prop} {w':World} {row:Option Nat} {kv:Value} {ks:List Tree} (h:Kids B P w kv ks) (hg:w.grownBy w' row) (hk:kv.ownBlock=none∨kv.ownBlock≠row) (hP:∀ b,P b→b<w.heap.size∧some b≠row) (hQ:∀ b,P b→Q b):Kids B Q w' kv ks:=by
 obtain ⟨vs,ho,ha⟩:=h
 exact ⟨vs,ho.kept hg hk,ha.to hQ (fun b hb o=>World.cell?_of_block (a:=⟨b,o,none⟩) (hg.block b (hP b hb).1 (hP b hb).2))⟩
end
section
variable {w:World} {r:Nat} {L:Value} {ts:List Tok} {s:St}
theorem label_01 (ts:List Tok) (s:St):0≤(label ts s).1∧(label ts s).1≤1:=by
 unfold label
 split<;>simp
end
end syn
namespace syn
open Go.RowKit
def opS:List ByteArray:=[empty,⟨#[43]⟩,⟨#[45]⟩,⟨#[42]⟩,⟨#[47]⟩,⟨#[37]⟩,⟨#[38]⟩,⟨#[124]⟩,⟨#[60]⟩,⟨#[61,61]⟩]
def opB:List Int:=[0,1,1,2,2,2,2,1,0,0]
def opAt (k:Nat):ByteArray:=opS.getD k empty
def opIs (k:Nat):Int:=opB.getD k 0
def HasOps (w:World):Prop:=∃ cs t fr,w.heap[5]?=some (.cells cs t fr)∧cs.size=20∧∀ k,k<10→cs[k*2]?=some (.string (opAt k))∧cs[k*2+1]?=some (.int .i64 (opIs k))
end syn
namespace syn
open lexs (Tok)
section
variable {ts:List Tok} {s:St}
theorem isName_empty:isName empty=false:=isName_short (by intro h;exact absurd h.1 (by decide))
theorem fail_st (h:s.bad=true):s.fail=s:=by cases s;simp_all [St.fail]
theorem must_st {x:ByteArray} (hx:0<x.size) (h:s.bad=true):must ts x s=s:=by
 unfold must
 rw [eqS_bad hx h,if_neg (by decide)]
 exact fail_st h
theorem name_st (h:s.bad=true):(name ts s).2=s:=by
 unfold name
 rw [txt_bad h]
 rw [isName_empty,if_neg (by decide)]
 exact fail_st h
theorem eat_st {x:ByteArray} (hx:0<x.size) (h:s.bad=true):eat ts x s=(false,s):=by
 unfold eat
 rw [eqS_bad hx h,if_neg (by decide)]
theorem whole_st (h:s.bad=true):(whole ts s).2=s:=by
 unfold whole
 dsimp only
 rw [name_st h,eat_st (by decide) h]
 simp
theorem label_st (h:s.bad=true):(label ts s).2=s:=by
 unfold label
 rw [eqS_bad (by decide) h,if_neg (by decide)]
 exact must_st (by decide) h
theorem isNum_bad (h:s.bad=true):isNum ts s=false:=by unfold isNum here;rw [h];rfl
structure Stuck (ts:List Tok) (f:Nat):Prop where
 e:∀ (s:St) (q:Tree × St),s.bad=true→exprF ts f s=some q→q.2=s
 b:∀ (l:Nat) (s:St) (q:Tree × St),s.bad=true→boundF ts f l s=some q→q.2=s
 bl:∀ (l:Nat) (n:Tree) (s:St) (q:Tree × St),s.bad=true→boundL ts f l n s=some q→q.2=s
 u:∀ (s:St) (q:Tree × St),s.bad=true→unaryF ts f s=some q→q.2=s
 a:∀ (s:St) (q:Tree × St),s.bad=true→askedF ts f s=some q→q.2=s
 p:∀ (x:ByteArray) (s:St) (q:Tree × St),s.bad=true→placeF ts f x s=some q→q.2=s
 c:∀ (x:ByteArray) (s:St) (q:Tree × St),s.bad=true→callF ts f x s=some q→q.2=s
 cl:∀ (x:ByteArray) (ks:List Tree) (s:St) (on:Bool) (q:Tree × St),s.bad=true→callL ts f x ks s on=some q→q.2=s
theorem bind_some_is {α β:Type} {o:Option α} {g:α→Option β} {q:β} (h:o.bind g=some q):∃ a,o=some a∧g a=some q:=by
 cases o with
 | none=>simp at h
 | some a=>exact ⟨a,rfl,h⟩
theorem stuck (ts:List Tok) (f:Nat):Stuck ts f:=by
 induction f with
 | zero=>exact ⟨fun s q _ h=>by simp [exprF] at h,fun l s q _ h=>by simp [boundF] at h,fun l n s q _ h=>by simp [boundL] at h,fun s q _ h=>by simp [unaryF] at h,fun s q _ h=>by simp [askedF] at h,fun x s q _ h=>by simp [placeF] at h,fun x s q _ h=>by simp [callF] at h,fun x ks s on q _ h=>by simp [callL] at h⟩
 | succ f ih =>
  refine ⟨fun s q hb h=>?_,fun l s q hb h=>?_,fun l n s q hb h=>?_,fun s q hb h=>?_,fun s q hb h=>?_,fun x s q hb h=>?_,fun x s q hb h=>?_,fun x ks s on q hb h=>?_⟩
  ·unfold exprF at h
   rw [hb,if_pos rfl] at h
   simp only [Option.some.injEq] at h
   rw [← h]
  ·unfold boundF at h
   split at h
   ·exact ih.u _ _ hb h
   ·obtain ⟨q1,h1,h2⟩:=bind_some_is h
    have e1:=ih.b _ _ _ hb h1
    rw [← e1]
    exact ih.bl _ _ _ _ (by rw [e1];exact hb) h2
  ·unfold boundL at h
   rw [hb,if_pos rfl] at h
   simp only [Option.some.injEq] at h
   rw [← h]
  ·unfold unaryF at h
   rw [eqS_bad (by decide) hb,eqS_bad (by decide) hb,eqS_bad (by decide) hb,isNum_bad hb,whole_st hb,eqS_bad (by decide) hb] at h
   simp only [Bool.false_eq_true,if_false] at h
   exact ih.p _ _ _ hb h
  ·unfold askedF at h
   obtain ⟨q1,h1,h2⟩:=bind_some_is h
   rw [must_st (by decide) hb] at h1
   have e1:=ih.e _ _ hb h1
   simp only [Option.some.injEq] at h2
   rw [← h2,e1]
   exact must_st (by decide) hb
  ·unfold placeF at h
   rw [eqS_bad (by decide) hb,if_neg (by decide)] at h
   simp only [Option.some.injEq] at h
   rw [← h]
  ·unfold callF at h
   rw [must_st (by decide) hb,eqS_bad (by decide) hb,if_neg (by decide)] at h
   exact ih.cl _ _ _ _ _ hb h
  ·unfold callL at h
   rw [hb] at h
   simp only [Bool.not_true,Bool.and_false,Bool.false_eq_true,if_false,Option.some.injEq] at h
   rw [← h]
   exact must_st (by decide) hb
structure Stuck2 (ts:List Tok) (f:Nat):Prop where
 bk:∀ (s:St) (q:Tree × St),s.bad=true→blockF ts f s=some q→q.2=s
 bl:∀ (ks:List Tree) (s:St) (q:Tree × St),s.bad=true→blockL ts f ks s=some q→q.2=s
theorem stuck2 (ts:List Tok) (f:Nat):Stuck2 ts f:=by
 have hL:∀ (f:Nat) (ks:List Tree) (s:St) (q:Tree × St),s.bad=true→blockL ts f ks s=some q→q.2=s:=by
  intro f ks s q hb h
  cases f with
  | zero=>simp [blockL] at h
  | succ f =>
   unfold blockL at h
   rw [hb,if_pos rfl] at h
   simp only [Option.some.injEq] at h
   rw [← h]
 refine ⟨fun s q hb h=>?_,fun ks s q hb h=>hL f ks s q hb h⟩
 cases f with
 | zero=>simp [blockF] at h
 | succ f =>
  unfold blockF at h
  rw [must_st (by decide) hb] at h
  exact hL _ _ _ _ hb h
end
end syn
namespace lexs
structure Fine (t:Tok):Prop where
 kinds:t.kind=1∨t.kind=2∨t.kind=3
 ne:t.text≠[]
 word:t.kind=1→t.text.length≤16∧ltrB (t.text.headD 0)=true∧t.text.all insB=true
 num:t.kind=2→numE t.text=0
 sign:t.kind=3→ltrB (t.text.headD 0)=false
theorem take_run (p:UInt8→Bool) (l:List UInt8):l.take (run p l)=l.takeWhile p:=by
 unfold run
 induction l with
 | nil=>rfl
 | cons b r ih =>
  rw [List.takeWhile_cons]
  cases p b
  ·rfl
  ·simp [ih]
theorem step_fine {b:UInt8} {r:List UInt8} {K:Int} {n i:Nat} (h:stepL (b :: r)=.tok K n):Fine ⟨K,(b :: r).take n,i⟩:=by
 have hn:=(stepL_tok h).1
 obtain ⟨m,rfl⟩:∃ m,n=m+1:=⟨n - 1,by omega⟩
 have hh:((b :: r).take (m+1)).headD 0=b:=by simp
 have hne:(b :: r).take (m+1)≠[]:=by simp
 rw [stepL,List.headD_cons,stepB] at h
 by_cases h1:(b==32||b==10)=true
 ·rw [if_pos h1] at h;simp at h
 rw [if_neg h1] at h
 by_cases h2:(b==35)=true
 ·rw [if_pos h2] at h;simp at h
 rw [if_neg h2] at h
 cases h3:ltrB b
 ·rw [h3] at h
  simp only [Bool.false_eq_true,if_false] at h
  cases h4:digB b
  ·rw [h4] at h
   simp only [Bool.false_eq_true,if_false] at h
   split at h
   ·simp at h
   ·injection h with hk hm
    subst hk
    refine ⟨.inr (.inr rfl),hne,fun e=>by simp at e,fun e=>by simp at e,fun _=>?_⟩
    show ltrB (((b :: r).take (m+1)).headD 0)=false
    rw [hh]
    exact h3
  ·rw [h4] at h
   simp only [if_true] at h
   split at h
   ·rename_i he
    injection h with hk hm
    subst hk
    refine ⟨.inr (.inl rfl),hne,fun e=>by simp at e,fun _=>?_,fun e=>by simp at e⟩
    rw [← hm]
    simpa using he
   ·simp at h
 ·rw [h3] at h
  simp only [if_true] at h
  split at h
  ·simp at h
  ·rename_i h16
   injection h with hk hm
   subst hk
   refine ⟨.inl rfl,hne,fun _=>⟨?_,?_,?_⟩,fun e=>by simp at e,fun e=>by simp at e⟩
   ·show ((b :: r).take (m+1)).length≤16
    rw [List.length_take]
    omega
   ·show ltrB (((b :: r).take (m+1)).headD 0)=true
    rw [hh]
    exact h3
   ·show ((b :: r).take (m+1)).all insB=true
    rw [← hm,take_run]
    exact List.all_takeWhile
theorem scanL_fine:∀ (f:Nat) (l:List UInt8) (i:Nat) (acc toks:List Tok),scanL f l i acc=.ok toks→(∀ t∈acc,Fine t)→∀ t∈toks,Fine t
 | 0,l,i,acc,toks,h,ha=>by
  unfold scanL at h
  injection h with h
  subst h
  exact ha
 | f+1,[],i,acc,toks,h,ha=>by
  unfold scanL at h
  injection h with h
  subst h
  exact ha
 | f+1,b :: r,i,acc,toks,h,ha=>by
  cases hs:stepL (b :: r) with
  | skip n=>rw [scanL_skip hs] at h;exact scanL_fine f _ _ _ _ h ha
  | fault c=>rw [scanL_fault hs] at h;simp at h
  | tok k n =>
   rw [scanL_tok hs] at h
   refine scanL_fine f _ _ _ _ h ?_
   intro t ht
   rw [List.mem_append] at ht
   rcases ht with ht | ht
   ·exact ha t ht
   ·simp only [List.mem_singleton] at ht
    subst ht
    exact step_fine hs
theorem scan_fine {l:List UInt8} {toks:List Tok} (h:scan l=.ok toks):∀ t∈toks,Fine t:=by
 unfold scan at h
 split at h
 ·simp at h
 ·exact scanL_fine _ _ _ _ _ h (fun t ht=>by simp at ht)
end lexs
namespace syn
open lexs (Tok Fine ltrI insI ltrB insB digB numE)
def raw (t:Tok):ByteArray:=⟨t.text.toArray⟩
theorem raw_list (t:Tok):(raw t).data.toList=t.text:=rfl
theorem raw_size (t:Tok):(raw t).size=t.text.length:=by rw [← lexs.len_L,raw_list]
def wordy (x:ByteArray):Bool:=decide (0<x.size)&&!digB (x.data.toList.headD 0)
section
variable {ts:List Tok} {s:St}
theorem here_is (hb:s.bad=false):here ts s=ts[s.i]?:=by unfold here;rw [hb];rfl
theorem num_digits {l:List UInt8} (h:numE l=0):l.all digB=true:=by
 unfold numE at h
 cases ha:l.all digB
 ·rw [ha] at h;simp at h
 ·rfl
theorem num_head {l:List UInt8} (h:numE l=0) (hne:l≠[]):digB (l.headD 0)=true:=by
 have h1:=num_digits h
 cases l with
 | nil=>exact absurd rfl hne
 | cons b r=>simp only [List.all_cons,Bool.and_eq_true] at h1;exact h1.1
theorem eq_raw {t:Tok} (hg:Fine t) (hb:s.bad=false) (ht:ts[s.i]?=some t) {x:ByteArray} (hx:wordy x=true):eqS (txt ts s) x=eqS (raw t) x:=by
 unfold txt
 rw [here_is hb,ht]
 simp only
 unfold wordy at hx
 simp only [Bool.and_eq_true,decide_eq_true_eq,Bool.not_eq_true'] at hx
 cases hk:(t.kind==2)
 ·simp only [Bool.false_eq_true,if_false]
  rfl
 ·simp only [if_true]
  have hk2:t.kind=2:=by simpa using hk
  have hd:=num_head (hg.num hk2) hg.ne
  have e1:eqS empty x=false:=by
   cases h:eqS empty x
   ·rfl
   ·have:=eqS_empty h
    omega
  have e2:eqS (raw t) x=false:=by
   cases h:eqS (raw t) x
   ·rfl
   ·exfalso
    unfold eqS at h
    rw [beq_iff_eq,ByteArray.toList_eq,ByteArray.toList_eq,raw_list] at h
    rw [h] at hd
    rw [hx.2] at hd
    simp at hd
  rw [e1,e2]
theorem eq_none (ht:ts[s.i]?=none) {x:ByteArray} (hx:wordy x=true):eqS (txt ts s) x=false:=by
 cases h:eqS (txt ts s) x
 ·rfl
 ·exfalso
  unfold wordy at hx
  simp only [Bool.and_eq_true,decide_eq_true_eq] at hx
  have:=txt_lt hx.1 h
  rw [List.getElem?_eq_none_iff] at ht
  omega
def ownName (t:Tok):Bool:=!(reserved.any fun y=>eqS y (raw t))&&t.kind==1
theorem name_raw {t:Tok} (hg:Fine t) (hb:s.bad=false) (ht:ts[s.i]?=some t):isName (txt ts s)=ownName t:=by
 unfold txt
 rw [here_is hb,ht]
 simp only
 rcases hg.kinds with hk | hk | hk
 ·rw [hk]
  obtain ⟨h1,h2,h3⟩:=hg.word hk
  unfold ownName
  rw [hk]
  have hsz:1≤(raw t).size:=by
   rw [raw_size]
   have:=hg.ne
   cases hl:t.text with
   | nil=>exact absurd hl this
   | cons b r=>simp
  have e:isName (raw t)=!(reserved.any fun y=>eqS y (raw t)):=by
   unfold isName
   rw [raw_list]
   have hl:ltrI ((t.text.headD 0).toNat:Int)=true:=h2
   have ha:t.text.all (fun c=>insI (c.toNat:Int))=true:=h3
   rw [hl,ha,decide_eq_true ⟨hsz,by rw [raw_size];exact h1⟩]
   simp
  simp only [show ((1:Int)==2)=false from rfl,show ((1:Int)==1)=true from rfl,Bool.false_eq_true,if_false,Bool.and_true]
  exact e
 ·rw [hk]
  unfold ownName
  rw [hk]
  simp [isName_empty]
 ·rw [hk]
  unfold ownName
  rw [hk]
  have hs:=hg.sign hk
  have hl:ltrI ((t.text.headD 0).toNat:Int)=false:=hs
  simp only [show ((3:Int)==2)=false from rfl,show ((3:Int)==1)=false from rfl,Bool.false_eq_true,if_false,Bool.and_false]
  unfold isName
  show (_&&ltrI (((raw t).data.toList.headD 0).toNat:Int)&&_&&_)=false
  rw [raw_list,hl]
  simp
theorem name_none (ht:ts[s.i]?=none):isName (txt ts s)=false:=by
 have:txt ts s=empty:=by
  unfold txt here
  rw [ht]
  cases s.bad<;>rfl
 rw [this]
 exact isName_empty
end
end syn
namespace syn
open Go.RowKit
open lexs (Tok Fine)
structure Ld (w:World) (r G:Nat) (ts:List Tok) (s:St):Prop where
 c0:∃ a c,w.cell? ⟨r,0,none⟩=some (.slice a (ts.length - s.i) c)∧ts.length - s.i≤c∧(s.i<ts.length→a=some ⟨G,s.i*3,none⟩)
 f0:w.frozen? ⟨r,0,none⟩=false
 tok:∀ (k:Nat) (h:k<ts.length),w.cell? ⟨G,k*3,none⟩=some (.int .i64 ts[k].kind)∧w.cell? ⟨G,k*3+1,none⟩=some (.string (raw ts[k]))∧w.cell? ⟨G,k*3+2,none⟩=some (.int .i64 (ts[k].at_:Int))
 old:G<r
 len:ts.length≤3000
 le:s.i≤ts.length
 good:∀ t∈ts,Fine t
 ok:s.bad=false
 ops:HasOps w
 low:5<r
section
variable {w w':World} {r G:Nat} {ts:List Tok} {s:St}
theorem Ld.lt (h:Ld w r G ts s):r<w.heap.size:=by obtain ⟨a,c,h0,_⟩:=h.c0;exact World.block_lt_of_cell? w ⟨r,0,none⟩ h0
theorem Ld.gt (h:Ld w r G ts s) (hk:0<ts.length):G<w.heap.size:=World.block_lt_of_cell? w ⟨G,0*3,none⟩ (h.tok 0 hk).1
theorem Ld.keep (h:Ld w r G ts s) {row:Option Nat} (hF:w.grownBy w' row) (hr:∀ k,row=some k→r<k):Ld w' r G ts s:=by
 have hb:=hF.block r h.lt (fun e=>by have:=hr r e.symm;omega)
 refine ⟨?_,(World.frozen?_of_block (a:=⟨r,0,none⟩) hb).trans h.f0,?_,h.old,h.len,h.le,h.good,h.ok,?_,h.low⟩
 ·obtain ⟨a,c,h0,h1,h2⟩:=h.c0
  exact ⟨a,c,(World.cell?_of_block (a:=⟨r,0,none⟩) hb).trans h0,h1,h2⟩
 ·intro k hk
  have hG:=hF.block G (h.gt (by omega)) (fun e=>by have h1:=hr G e.symm;have h2:=h.old;omega)
  rw [World.cell?_of_block (a:=⟨G,k*3,none⟩) hG,World.cell?_of_block (a:=⟨G,k*3+1,none⟩) hG,World.cell?_of_block (a:=⟨G,k*3+2,none⟩) hG]
  exact h.tok k hk
 ·obtain ⟨cs,t,fr,h1,h2,h3⟩:=h.ops
  have hl:=h.low
  have hlt:=h.lt
  exact ⟨cs,t,fr,by rw [hF.block _ (by omega) (fun e=>by have:=hr _ e.symm;omega)];exact h1,h2,h3⟩
theorem Ld.alloc (h:Ld w r G ts s) (o:Obj):Ld (w.alloc o) r G ts s:=h.keep (World.grownBy_alloc w o none) (by simp)
theorem Ld.drewN (h:Ld w r G ts s) (n:Nat):Ld (w.drewN n) r G ts s:=⟨h.c0,h.f0,h.tok,h.old,h.len,h.le,h.good,h.ok,h.ops,h.low⟩
theorem Ld.set (h:Ld w r G ts s) {N:Nat} (hN:r<N) (o:Nat) (v:Value):Ld (w.setCell ⟨N,o,none⟩ v) r G ts s :=
 h.keep ((Fr.refl N w).set o v) (fun k e=>by
  obtain rfl:N=k:=by simpa using e
  exact hN)
def hasW (ts:List Tok) (s:St) (ws:List ByteArray):Bool:=ws.any fun y=>eqS (txt ts s) y
theorem hasW_none (ht:¬ s.i<ts.length) {ws:List ByteArray} (hw:ws.all wordy=true):hasW ts s ws=false:=by
 unfold hasW
 rw [List.any_eq_false]
 intro y hy
 rw [List.all_eq_true] at hw
 rw [eq_none (by simp;omega) (hw y hy)]
 simp
theorem hasW_raw (hL:Ld w r G ts s) (ht:s.i<ts.length) {ws:List ByteArray} (hw:ws.all wordy=true):hasW ts s ws=ws.any fun y=>eqS (raw ts[s.i]) y:=by
 unfold hasW
 rw [List.all_eq_true] at hw
 have h:∀ y∈ws,eqS (txt ts s) y=eqS (raw ts[s.i]) y:=fun y hy=>eq_raw (hL.good _ (List.getElem_mem ht)) hL.ok (by simp [ht]) (hw y hy)
 clear hw
 induction ws with
 | nil=>rfl
 | cons a l ih =>
  rw [List.any_cons,List.any_cons,h a (by simp),ih (fun y hy=>h y (by simp [hy]))]
def lost (ts:List Tok) (s:St):Value:=match ts[s.i]? with
 | some t=>.iface 115 (.agg #[.int .i64 (t.at_:Int)])
 | none=>.iface 116 (.agg #[])
def Pan (ts:List Tok) (s:St):List PanicEntry:=[{ v:=lost ts s,recovered:=false }]
def Words (w:World) (g:Nat) (ws:List ByteArray):Prop:=∀ (k:Nat) (h:k<ws.length),w.cell? ⟨g,k,none⟩=some (.string ws[k])
theorem any_first {x:ByteArray} {ws:List ByteArray} {k:Nat} (hk:k<ws.length) (h:eqS x ws[k]=true):(ws.any fun y=>eqS x y)=true:=by
 rw [List.any_eq_true]
 exact ⟨ws[k],List.getElem_mem _,h⟩
theorem any_not {x:ByteArray} {ws:List ByteArray} (h:∀ j (hj:j<ws.length),eqS x ws[j]=false):(ws.any fun y=>eqS x y)=false:=by
 rw [List.any_eq_false]
 intro y hy
 obtain ⟨k,hk,rfl⟩:=List.mem_iff_getElem.1 hy
 simp [h k hk]
set_option maxHeartbeats 1000000 in
theorem oindex (x:ByteArray) (ws:List ByteArray) (g c:Nat) (hl:ws.length≤100) (hc:Words w g ws) :
  Calls Tryz.prog 197 #[.slice (some ⟨g,0,none⟩) ws.length c,.string x] w fun e w'=>∃ i:Int,e=.returned (.int .i64 i)∧decide (0≤i)=(ws.any fun y=>eqS x y)∧w'=w:=by
 go_enter Tryz.func197,Tryz.ntmps197
 go_wp2
 go_loop [8] (fun t=>∃ k:Nat,k≤ws.length∧t=.int .i64 k∧Hid (∀ j (hj:j<ws.length),j<k→eqS x ws[j]=false)) (fun t=>ws.length - (intOf t).toNat)
 case atStart=>exact ⟨0,Nat.zero_le _,rfl,fun j _ hj=>by omega⟩
 case round =>
  obtain ⟨k,hk,rfl,HN⟩:=hrel
  by_cases hlt:k<ws.length
  ·have hcell:=hc k hlt
   have HC:Hid (Words w g ws):=hc
   clear hc
   have HK:Hid (eqS x ws[k]=eqS x ws[k]):=rfl
   cases he:eqS x ws[k]
   ·have HE:Hid (eqS x ws[k]=false):=he
    unfold eqS at he
    go_wp2
    go_round
    case rel=>exact ⟨k+1,by omega,by go_num,fun j hj h1=>by
     rcases Nat.lt_or_ge j k with h | h
     ·exact HN.out j hj h
     ·have:j=k:=by omega
      subst this
      exact HE.out⟩
    case measure=>simp [intOf];omega
   ·have HE:Hid ((ws.any fun y=>eqS x y)=true):=any_first hlt he
    unfold eqS at he
    go_wp2
    go_ret
    exact ⟨(k:Int),rfl,by rw [HE.out];simp,rfl⟩
  ·have HE:Hid ((ws.any fun y=>eqS x y)=false):=any_not (fun j hj=>HN.out j hj (by omega))
   clear HN
   go_wp2
   go_ret
   exact ⟨-1,rfl,by rw [HE.out];rfl,rfl⟩
theorem ocontains (x:ByteArray) (ws:List ByteArray) (g c:Nat) (hl:ws.length≤100) (hc:Words w g ws) :
  Calls Tryz.prog 175 #[.slice (some ⟨g,0,none⟩) ws.length c,.string x] w fun e w'=>e=.returned (.bool (ws.any fun y=>eqS x y))∧w'=w:=by
 have h:=oindex x ws g c hl hc
 generalize (ws.any fun y=>eqS x y)=V at *
 go_enter Tryz.func175,Tryz.ntmps175
 go_wp2_with (fail)
 refine h.mono ?_
 rintro e w1 ⟨i,rfl,hi,hw⟩
 obtain rfl:=hw.symm
 go_wp2
 go_ret
 exact ⟨by rw [← hi];rfl,rfl⟩
end
section
variable {w w':World} {r G:Nat} {ts:List Tok} {s:St}
theorem ohas (hL:Ld w r G ts s) (ws:List ByteArray) (g c:Nat) (hl:ws.length≤100) (hw:ws.all wordy=true) (hc:Words w g ws) :
  Calls Tryz.prog 139 #[.pointer (some ⟨r,0,none⟩),.slice (some ⟨g,0,none⟩) ws.length c] w fun e w'=>e=.returned (.bool (hasW ts s ws))∧w'=w:=by
 have c29:=kc99
 have hlen:=hL.len
 obtain ⟨a,cp,h0,h1,h2⟩:=hL.c0
 by_cases hlt:s.i<ts.length
 ·obtain rfl:=h2 hlt
  rw [hasW_raw hL hlt hw]
  obtain ⟨y0,y1,y2⟩:=hL.tok s.i hlt
  have hC:=ocontains (w:=w) (raw ts[s.i]) ws g c hl hc
  generalize (ws.any fun y=>eqS (raw ts[s.i]) y)=V at *
  generalize raw ts[s.i]=x at *
  have hn:0<ts.length - s.i:=by omega
  have hn':ts.length - s.i≤3000:=by omega
  generalize ts.length - s.i=n at *
  go_enter Tryz.func139,Tryz.ntmps139
  go_wp2_with (fail)
  refine hC.mono ?_
  rintro e w1 ⟨rfl,hw1⟩
  obtain rfl:=hw1.symm
  go_wp2
  go_ret
  exact ⟨rfl,rfl⟩
 ·rw [hasW_none hlt hw]
  have hn:ts.length - s.i=0:=by omega
  rw [hn] at h0
  go_enter Tryz.func139,Tryz.ntmps139
  go_wp2
  go_ret
  exact ⟨rfl,rfl⟩
theorem ogiveUp (hL:Ld w r G ts s) :
  Calls Tryz.prog 140 #[.pointer (some ⟨r,0,none⟩)] w fun e w'=>e=.panicked (Pan ts s)∧w'=w:=by
 have c29:=kc99
 have hlen:=hL.len
 obtain ⟨a,cp,h0,h1,h2⟩:=hL.c0
 unfold Pan lost
 by_cases hlt:s.i<ts.length
 ·obtain rfl:=h2 hlt
  rw [List.getElem?_eq_getElem hlt]
  obtain ⟨y0,y1,y2⟩:=hL.tok s.i hlt
  have hn:0<ts.length - s.i:=by omega
  have hn':ts.length - s.i≤3000:=by omega
  generalize ts.length - s.i=n at *
  dsimp only
  go_enter Tryz.func140,Tryz.ntmps140
  go_wp2
  exact ⟨rfl,rfl,rfl⟩
 ·rw [List.getElem?_eq_none (by omega)]
  have hn:ts.length - s.i=0:=by omega
  rw [hn] at h0
  dsimp only
  go_enter Tryz.func140,Tryz.ntmps140
  go_wp2
  exact ⟨rfl,rfl,rfl⟩
theorem onext (hL:Ld w r G ts s) (hlt:s.i<ts.length) :
  Calls Tryz.prog 141 #[.pointer (some ⟨r,0,none⟩)] w fun e w'=>e=.returned (.string (raw ts[s.i]))∧Ld w' r G ts s.next∧Fr r w w':=by
 have c29:=kc99
 have hlen:=hL.len
 obtain ⟨a,cp,h0,h1,h2⟩:=hL.c0
 obtain rfl:=h2 hlt
 obtain ⟨y0,y1,y2⟩:=hL.tok s.i hlt
 have hf:=hL.f0
 have hn:0<ts.length - s.i:=by omega
 have hn':ts.length - s.i≤3000:=by omega
 have hN:ts.length - s.next.i=ts.length - s.i - 1:=by unfold St.next;dsimp only;omega
 have key:∀ (a':Option Addr) (c':Nat),ts.length - s.i - 1≤c'→(1<ts.length - s.i→a'=some ⟨G,s.i*3+3,none⟩)→Ld (w.setCell ⟨r,0,none⟩ (.slice a' (ts.length - s.i - 1) c')) r G ts s.next:=by
  intro a' c' hc' ha'
  refine ⟨⟨a',c',?_,by omega,fun h=>?_⟩,by simp [hf],?_,hL.old,hL.len,hlt,hL.good,hL.ok,?_,hL.low⟩
  ·rw [World.cell?_setCell_same _ _ _ h0,hN]
  ·rw [ha' (by unfold St.next at h;dsimp only at h;omega)]
   unfold St.next
   simp only [Option.some.injEq,Addr.mk.injEq,true_and,and_true]
   omega
  ·intro k hk
   have hG:=hL.old
   rw [jD _ _ _ _ (by simp<;>omega),jD _ _ _ _ (by simp<;>omega),jD _ _ _ _ (by simp<;>omega)]
   exact hL.tok k hk
  ·obtain ⟨cs,t,fr,g1,g2,g3⟩:=hL.ops
   have hl:=hL.low
   exact ⟨cs,t,fr,by rw [Below.heap_setCell _ _ _ _ (by simp<;>omega)];exact g1,g2,g3⟩
 have HK:Hid (∀ (a':Option Addr) (c':Nat),ts.length - s.i - 1≤c'→(1<ts.length - s.i→a'=some ⟨G,s.i*3+3,none⟩)→Ld (w.setCell ⟨r,0,none⟩ (.slice a' (ts.length - s.i - 1) c')) r G ts s.next):=key
 clear key
 generalize ts.length - s.i=n at *
 by_cases hcp:cp=1
 ·subst hcp
  have hn1:n=1:=by omega
  subst hn1
  go_enter Tryz.func141,Tryz.ntmps141
  go_wp2
  go_ret
  exact ⟨rfl,HK.out (some ⟨G,s.i*3,none⟩) 0 (by omega) (fun h=>by omega),(Fr.refl _ _).set _ _⟩
 ·go_enter Tryz.func141,Tryz.ntmps141
  go_wp2
  go_ret
  exact ⟨rfl,HK.out _ _ (by omega) (fun h=>rfl),(Fr.refl _ _).set _ _⟩
theorem hasW_lt {ws:List ByteArray} (hw:ws.all wordy=true) (h:hasW ts s ws=true):s.i<ts.length:=by
 rcases Nat.lt_or_ge s.i ts.length with h1 | h1
 ·exact h1
 ·rw [hasW_none (by omega) hw] at h
  simp at h
theorem oskip_yes (hL:Ld w r G ts s) (ws:List ByteArray) (g c:Nat) (hl:ws.length≤100) (hw:ws.all wordy=true) (hc:Words w g ws) (h:hasW ts s ws=true) :
  Calls Tryz.prog 109 #[.pointer (some ⟨r,0,none⟩),.slice (some ⟨g,0,none⟩) ws.length c] w fun e w'=>e=.returned (.bool true)∧Ld w' r G ts s.next∧Fr r w w':=by
 have hH:=ohas hL ws g c hl hw hc
 rw [h] at hH
 have hN:=onext hL (hasW_lt hw h)
 go_enter Tryz.func109,Tryz.ntmps109
 go_wp2_with (fail)
 refine hH.mono ?_
 rintro e w1 ⟨rfl,hw1⟩
 obtain rfl:=hw1.symm
 go_wp2_with (fail)
 refine hN.mono ?_
 rintro e w2 ⟨rfl,hL2,hF2⟩
 go_wp2
 go_ret
 exact ⟨rfl,hL2,hF2⟩
theorem oskip_no (hL:Ld w r G ts s) (ws:List ByteArray) (g c:Nat) (hl:ws.length≤100) (hw:ws.all wordy=true) (hc:Words w g ws) (h:hasW ts s ws=false) :
  Calls Tryz.prog 109 #[.pointer (some ⟨r,0,none⟩),.slice (some ⟨g,0,none⟩) ws.length c] w fun e w'=>e=.returned (.bool false)∧w'=w:=by
 have hH:=ohas hL ws g c hl hw hc
 rw [h] at hH
 go_enter Tryz.func109,Tryz.ntmps109
 go_wp2_with (fail)
 refine hH.mono ?_
 rintro e w1 ⟨rfl,hw1⟩
 obtain rfl:=hw1.symm
 go_wp2
 go_ret
 exact ⟨rfl,rfl⟩
theorem otake_yes (hL:Ld w r G ts s) (ws:List ByteArray) (g c:Nat) (hl:ws.length≤100) (hw:ws.all wordy=true) (hc:Words w g ws) (h:hasW ts s ws=true) :
  Calls Tryz.prog 107 #[.pointer (some ⟨r,0,none⟩),.slice (some ⟨g,0,none⟩) ws.length c] w fun e w'=>e=.returned (.string (raw (ts[s.i]'(hasW_lt hw h))))∧Ld w' r G ts s.next∧Fr r w w':=by
 have hH:=ohas hL ws g c hl hw hc
 rw [h] at hH
 have hN:=onext hL (hasW_lt hw h)
 generalize raw (ts[s.i]'(hasW_lt hw h))=x at *
 go_enter Tryz.func107,Tryz.ntmps107
 go_wp2_with (fail)
 refine hH.mono ?_
 rintro e w1 ⟨rfl,hw1⟩
 obtain rfl:=hw1.symm
 go_wp2_with (fail)
 refine hN.mono ?_
 rintro e w2 ⟨rfl,hL2,hF2⟩
 go_wp2
 go_ret
 exact ⟨rfl,hL2,hF2⟩
theorem otake_no (hL:Ld w r G ts s) (ws:List ByteArray) (g c:Nat) (hl:ws.length≤100) (hw:ws.all wordy=true) (hc:Words w g ws) (h:hasW ts s ws=false) :
  Calls Tryz.prog 107 #[.pointer (some ⟨r,0,none⟩),.slice (some ⟨g,0,none⟩) ws.length c] w fun e w'=>e=.panicked (Pan ts s)∧w'=w:=by
 have hH:=ohas hL ws g c hl hw hc
 rw [h] at hH
 have hN:=ogiveUp hL
 go_enter Tryz.func107,Tryz.ntmps107
 go_wp2_with (fail)
 refine hH.mono ?_
 rintro e w1 ⟨rfl,hw1⟩
 obtain rfl:=hw1.symm
 go_wp2_with (fail)
 refine hN.mono ?_
 rintro e w2 ⟨rfl,hw2⟩
 obtain rfl:=hw2.symm
 go_wp2
 exact ⟨rfl,rfl,rfl⟩
end
theorem eqS_comm (x y:ByteArray):eqS x y=eqS y x:=by unfold eqS;rw [Bool.eq_iff_iff];simp only [beq_iff_eq];exact eq_comm
section
variable {w w':World} {r G:Nat} {ts:List Tok} {s:St}
theorem Ld.below (h:Ld w r G ts s) (hb:Below w.heap.size w w'):Ld w' r G ts s:=h.keep (row:=none) ⟨hb.os,hb.tape,hb.output,hb.size,fun j hj _=>hb.block j hj⟩ (by simp)
theorem reserved_any (x:ByteArray):(reserved.any fun y=>eqS y x)=((x.toList==[100,111])||(x.toList==[101,108,115,101])||(x.toList==[103,105,118,101,115])||(x.toList==[104,105,103,104])||(x.toList==[105,102])||(x.toList==[105,109,112,111,114,116])||(x.toList==[105,110])||(x.toList==[108,111,119])||(x.toList==[109,111,100,117,108,101])||(x.toList==[111,117,116])||(x.toList==[112,114,111,99])||(x.toList==[112,117,98])||(x.toList==[114,101,116,117,114,110])||(x.toList==[119,104,105,108,101])):=by
 have h:(reserved.any fun y=>eqS y x)=(reserved.any fun y=>eqS x y):=by
  rw [Bool.eq_iff_iff,List.any_eq_true,List.any_eq_true]
  constructor
  ·rintro ⟨y,h1,h2⟩;exact ⟨y,h1,by rw [eqS_comm];exact h2⟩
  ·rintro ⟨y,h1,h2⟩;exact ⟨y,h1,by rw [eqS_comm];exact h2⟩
 rw [h]
 unfold reserved
 simp only [List.any_cons,List.any_nil,Bool.or_false]
 rw [show eqS x ⟨#[100,111]⟩=(x.toList==[100,111]) from eqS_lit x [100,111],show eqS x ⟨#[101,108,115,101]⟩=(x.toList==[101,108,115,101]) from eqS_lit x [101,108,115,101],show eqS x ⟨#[103,105,118,101,115]⟩=(x.toList==[103,105,118,101,115]) from eqS_lit x [103,105,118,101,115],show eqS x ⟨#[104,105,103,104]⟩=(x.toList==[104,105,103,104]) from eqS_lit x [104,105,103,104],show eqS x ⟨#[105,102]⟩=(x.toList==[105,102]) from eqS_lit x [105,102],show eqS x ⟨#[105,109,112,111,114,116]⟩=(x.toList==[105,109,112,111,114,116]) from eqS_lit x [105,109,112,111,114,116],show eqS x ⟨#[105,110]⟩=(x.toList==[105,110]) from eqS_lit x [105,110],show eqS x ⟨#[108,111,119]⟩=(x.toList==[108,111,119]) from eqS_lit x [108,111,119],show eqS x ⟨#[109,111,100,117,108,101]⟩=(x.toList==[109,111,100,117,108,101]) from eqS_lit x [109,111,100,117,108,101],show eqS x ⟨#[111,117,116]⟩=(x.toList==[111,117,116]) from eqS_lit x [111,117,116],show eqS x ⟨#[112,114,111,99]⟩=(x.toList==[112,114,111,99]) from eqS_lit x [112,114,111,99],show eqS x ⟨#[112,117,98]⟩=(x.toList==[112,117,98]) from eqS_lit x [112,117,98],show eqS x ⟨#[114,101,116,117,114,110]⟩=(x.toList==[114,101,116,117,114,110]) from eqS_lit x [114,101,116,117,114,110],show eqS x ⟨#[119,104,105,108,101]⟩=(x.toList==[119,104,105,108,101]) from eqS_lit x [119,104,105,108,101]]
 simp only [Bool.or_assoc]
theorem oisName (k a:Int) (x:ByteArray) (w:World) :
  Calls Tryz.prog 70 #[.agg #[.int .i64 k,.string x,.int .i64 a]] w fun e w'=>e=.returned (.bool (!(reserved.any fun y=>eqS y x)&&k==1))∧Below w.heap.size w w':=by
 have c29:=kc99
 rw [reserved_any]
 cases h0:(x.toList==[100,111])
 case true =>
  simp only [Bool.true_or,Bool.or_true,Bool.false_or,Bool.not_true,Bool.false_and]
  go_enter Tryz.func70,Tryz.ntmps70
  go_wp2
  go_ret
  exact ⟨rfl,bal _⟩
 cases h1:(x.toList==[101,108,115,101])
 case true =>
  simp only [Bool.true_or,Bool.or_true,Bool.false_or,Bool.not_true,Bool.false_and]
  go_enter Tryz.func70,Tryz.ntmps70
  go_wp2
  go_ret
  exact ⟨rfl,bal _⟩
 cases h2:(x.toList==[103,105,118,101,115])
 case true =>
  simp only [Bool.true_or,Bool.or_true,Bool.false_or,Bool.not_true,Bool.false_and]
  go_enter Tryz.func70,Tryz.ntmps70
  go_wp2
  go_ret
  exact ⟨rfl,bal _⟩
 cases h3:(x.toList==[104,105,103,104])
 case true =>
  simp only [Bool.true_or,Bool.or_true,Bool.false_or,Bool.not_true,Bool.false_and]
  go_enter Tryz.func70,Tryz.ntmps70
  go_wp2
  go_ret
  exact ⟨rfl,bal _⟩
 cases h4:(x.toList==[105,102])
 case true =>
  simp only [Bool.true_or,Bool.or_true,Bool.false_or,Bool.not_true,Bool.false_and]
  go_enter Tryz.func70,Tryz.ntmps70
  go_wp2
  go_ret
  exact ⟨rfl,bal _⟩
 cases h5:(x.toList==[105,109,112,111,114,116])
 case true =>
  simp only [Bool.true_or,Bool.or_true,Bool.false_or,Bool.not_true,Bool.false_and]
  go_enter Tryz.func70,Tryz.ntmps70
  go_wp2
  go_ret
  exact ⟨rfl,bal _⟩
 cases h6:(x.toList==[105,110])
 case true =>
  simp only [Bool.true_or,Bool.or_true,Bool.false_or,Bool.not_true,Bool.false_and]
  go_enter Tryz.func70,Tryz.ntmps70
  go_wp2
  go_ret
  exact ⟨rfl,bal _⟩
 cases h7:(x.toList==[108,111,119])
 case true =>
  simp only [Bool.true_or,Bool.or_true,Bool.false_or,Bool.not_true,Bool.false_and]
  go_enter Tryz.func70,Tryz.ntmps70
  go_wp2
  go_ret
  exact ⟨rfl,bal _⟩
 cases h8:(x.toList==[109,111,100,117,108,101])
 case true =>
  simp only [Bool.true_or,Bool.or_true,Bool.false_or,Bool.not_true,Bool.false_and]
  go_enter Tryz.func70,Tryz.ntmps70
  go_wp2
  go_ret
  exact ⟨rfl,bal _⟩
 cases h9:(x.toList==[111,117,116])
 case true =>
  simp only [Bool.true_or,Bool.or_true,Bool.false_or,Bool.not_true,Bool.false_and]
  go_enter Tryz.func70,Tryz.ntmps70
  go_wp2
  go_ret
  exact ⟨rfl,bal _⟩
 cases h10:(x.toList==[112,114,111,99])
 case true =>
  simp only [Bool.true_or,Bool.or_true,Bool.false_or,Bool.not_true,Bool.false_and]
  go_enter Tryz.func70,Tryz.ntmps70
  go_wp2
  go_ret
  exact ⟨rfl,bal _⟩
 cases h11:(x.toList==[112,117,98])
 case true =>
  simp only [Bool.true_or,Bool.or_true,Bool.false_or,Bool.not_true,Bool.false_and]
  go_enter Tryz.func70,Tryz.ntmps70
  go_wp2
  go_ret
  exact ⟨rfl,bal _⟩
 cases h12:(x.toList==[114,101,116,117,114,110])
 case true =>
  simp only [Bool.true_or,Bool.or_true,Bool.false_or,Bool.not_true,Bool.false_and]
  go_enter Tryz.func70,Tryz.ntmps70
  go_wp2
  go_ret
  exact ⟨rfl,bal _⟩
 cases h13:(x.toList==[119,104,105,108,101])
 case true =>
  simp only [Bool.true_or,Bool.or_true,Bool.false_or,Bool.not_true,Bool.false_and]
  go_enter Tryz.func70,Tryz.ntmps70
  go_wp2
  go_ret
  exact ⟨rfl,bal _⟩
 simp only [Bool.or_false,Bool.not_false,Bool.true_and]
 go_enter Tryz.func70,Tryz.ntmps70
 go_wp2
 go_ret
 exact ⟨rfl,bal _⟩
def OVal (w:World) (r G:Nat) (ts:List Tok) (v:Value) (s':St) (e:Ending) (w':World):Prop :=
 (s'.bad=true∧e=.panicked (Pan ts s')∧Fr r w w')∨(s'.bad=false∧e=.returned v∧Ld w' r G ts s'∧Fr r w w')
theorem lt_get (hlt:s.i<ts.length):ts[s.i]?=some ts[s.i]:=List.getElem?_eq_getElem hlt
theorem oname (hL:Ld w r G ts s):Calls Tryz.prog 108 #[.pointer (some ⟨r,0,none⟩)] w (OVal w r G ts (.string (name ts s).1) (name ts s).2):=by
 have c29:=kc99
 have hlen:=hL.len
 have hr:=hL.lt
 obtain ⟨a,cp,h0,h1,h2⟩:=hL.c0
 unfold name
 by_cases hlt:s.i<ts.length
 ·obtain rfl:=h2 hlt
  obtain ⟨y0,y1,y2⟩:=hL.tok s.i hlt
  have hn:0<ts.length - s.i:=by omega
  have hn':ts.length - s.i≤3000:=by omega
  have hI:=fun w=>oisName ts[s.i].kind (ts[s.i].at_:Int) (raw ts[s.i]) w
  have hNR:=name_raw (hL.good _ (List.getElem_mem hlt)) hL.ok (lt_get hlt)
  rw [hNR]
  have hX:ownName ts[s.i]=true→txt ts s=raw ts[s.i]:=by
   intro h
   unfold ownName at h
   simp only [Bool.and_eq_true,beq_iff_eq] at h
   unfold txt
   rw [here_is hL.ok,lt_get hlt]
   simp only
   rw [h.2,if_neg (by decide)]
   rfl
  have hI2:∀ w:World,Calls Tryz.prog 70 #[.agg #[.int .i64 ts[s.i].kind,.string (raw ts[s.i]),.int .i64 (ts[s.i].at_:Int)]] w fun e w'=>e=.returned (.bool (ownName ts[s.i]))∧Below w.heap.size w w':=hI
  clear hI hNR
  cases hO:ownName ts[s.i]
  ·rw [hO] at hI2
   simp only [Bool.false_eq_true,if_false]
   have hg:∀ w',Fr r w w'→Ld w' r G ts s→Calls Tryz.prog 140 #[.pointer (some ⟨r,0,none⟩)] w' fun e w''=>e=.panicked (Pan ts s)∧w''=w':=fun w' _ h=>ogiveUp h
   have HL:Hid (Ld w r G ts s):=hL
   clear hX hL
   generalize ts[s.i].kind=tk at *
   generalize raw ts[s.i]=tx at *
   generalize ts[s.i].at_=ta at *
   generalize ts.length - s.i=n at *
   go_enter Tryz.func108,Tryz.ntmps108
   go_wp2_with (fail)
   refine (hI2 _).mono ?_
   rintro e w1 ⟨rfl,hb1⟩
   have hF1:Fr r w w1:=Fr.below hb1
   have hL1:Ld w1 r G ts s:=HL.out.below hb1
   go_wp2_with (fail)
   refine (hg _ hF1 hL1).mono ?_
   rintro e w2 ⟨rfl,hw2⟩
   obtain rfl:=hw2.symm
   go_wp2
   exact ⟨rfl,.inl ⟨rfl,rfl,hF1⟩⟩
  ·rw [hO] at hI2
   simp only [if_true]
   rw [hX hO]
   have hg:∀ w',Ld w' r G ts s→Calls Tryz.prog 141 #[.pointer (some ⟨r,0,none⟩)] w' fun e w''=>e=.returned (.string (raw ts[s.i]))∧Ld w'' r G ts s.next∧Fr r w' w'':=fun w' h=>onext h hlt
   have HL:Hid (Ld w r G ts s):=hL
   have hok:s.next.bad=false:=hL.ok
   clear hX hL
   generalize ts[s.i].kind=tk at *
   generalize raw ts[s.i]=tx at *
   generalize ts[s.i].at_=ta at *
   generalize ts.length - s.i=n at *
   go_enter Tryz.func108,Tryz.ntmps108
   go_wp2_with (fail)
   refine (hI2 _).mono ?_
   rintro e w1 ⟨rfl,hb1⟩
   have hF1:Fr r w w1:=Fr.below hb1
   have hL1:Ld w1 r G ts s:=HL.out.below hb1
   go_wp2_with (fail)
   refine (hg _ hL1).mono ?_
   rintro e w2 ⟨rfl,hL2,hF2⟩
   go_wp2
   go_ret
   exact .inr ⟨hok,rfl,hL2,hF1.trans hF2⟩
 ·have hn:ts.length - s.i=0:=by omega
  rw [hn] at h0
  rw [name_none (List.getElem?_eq_none (by omega))]
  simp only [Bool.false_eq_true,if_false]
  have hg:=ogiveUp hL
  go_enter Tryz.func108,Tryz.ntmps108
  go_wp2_with (fail)
  refine hg.mono ?_
  rintro e w2 ⟨rfl,hw2⟩
  obtain rfl:=hw2.symm
  go_wp2
  exact ⟨rfl,.inl ⟨rfl,rfl,Fr.refl _ _⟩⟩
end
end syn
namespace syn
open Go.RowKit
theorem hasOps_below {w w':World} (h:HasOps w) (hb:Below w.heap.size w w'):HasOps w':=by
 obtain ⟨cs,t,fr,h1,h2,h3⟩:=h
 have hlt:5<w.heap.size:=by
  rcases Nat.lt_or_ge 5 w.heap.size with h | h
  ·exact h
  ·rw [Array.getElem?_eq_none h] at h1
   simp at h1
 exact ⟨cs,t,fr,by rw [hb.block _ hlt];exact h1,h2,h3⟩
theorem ops_index (cs:Array Value) (hs:cs.size=20) (hc:∀ k,k<10→cs[k*2]?=some (.string (opAt k))∧cs[k*2+1]?=some (.int .i64 (opIs k))) (k:Nat) (hk:k<10) (w:World) :
  (Instr.index 273 (.agg cs) (.int .i64 (k:Int))).run Tryz.prog w=.ok (.agg #[.string (opAt k),.int .i64 (opIs k)]) w:=by
 have c171:=kc272
 obtain ⟨h1,h2⟩:=hc k hk
 have he:cs.extract (k*2) (k*2+2)=#[.string (opAt k),.int .i64 (opIs k)]:=by
  apply Array.ext_getElem?
  intro i
  rw [Array.getElem?_extract]
  by_cases hi:i<2
  ·have hm:min (k*2+2) cs.size=k*2+2:=by omega
   rw [if_pos (by omega)]
   rcases (show i=0∨i=1 by omega) with rfl | rfl
   ·simpa using h1
   ·simpa using h2
  ·rw [if_neg (by omega)]
   simp
   omega
 simp [Instr.index,go_sem,Tryz.underlying273,hk,he]
theorem ten {k:Nat} (h:k<10):k=0∨k=1∨k=2∨k=3∨k=4∨k=5∨k=6∨k=7∨k=8∨k=9:=by omega
theorem eqS_eq {x y:ByteArray} (h:eqS x y=true):y=x:=by
 unfold eqS at h
 rw [beq_iff_eq,ByteArray.toList_eq,ByteArray.toList_eq] at h
 exact WideShapes.bytes_inj h.symm
theorem eqS_data (x y:ByteArray):eqS x y=(x.data.toList==y.data.toList):=by unfold eqS;rw [ByteArray.toList_eq,ByteArray.toList_eq]
theorem sign_data (x:ByteArray):sign x=((signs.find? fun y=>y.1.data.toList==x.data.toList).map (·.2)).getD (0,-1):=by
 unfold sign
 simp only [eqS_data]
theorem op_hit {x:ByteArray} {k:Nat} (hk:k<10) (h:eqS (opAt k) x=true) (hs:0≤(sign x).2):(k:Int)=(sign x).1:=by
 obtain rfl:=eqS_eq h
 rw [sign_data] at hs ⊢
 rcases ten hk with rfl | rfl | rfl | rfl | rfl | rfl | rfl | rfl | rfl | rfl<;>revert hs<;>decide
theorem op_none {x:ByteArray} (h:∀ j,j<10→eqS (opAt j) x=false):(sign x).2<0:=by
 have e:sign x=(0,-1):=by
  refine sign_none x (fun j hj=>?_)
  have hj':j<9:=hj
  rcases nine hj' with rfl | rfl | rfl | rfl | rfl | rfl | rfl | rfl | rfl
  ·exact h 9 (by omega)
  ·exact h 8 (by omega)
  ·exact h 1 (by omega)
  ·exact h 2 (by omega)
  ·exact h 7 (by omega)
  ·exact h 3 (by omega)
  ·exact h 4 (by omega)
  ·exact h 5 (by omega)
  ·exact h 6 (by omega)
 rw [e]
 decide
set_option maxHeartbeats 1000000 in
theorem oopOf (x:ByteArray) (w:World) (hO:HasOps w) (hx:0≤(sign x).2) :
  Calls Tryz.prog 243 #[.string x] w fun e w'=>e=.returned (.int .i64 (sign x).1)∧Below w.heap.size w w':=by
 have c171:=kc272
 have hi:(Tryz.prog.info? 273).map (·.size)=some 20:=by kernel_rfl
 obtain ⟨cs,t,fr,hg,hs,hc⟩:=hO
 have hI:=fun k hk w=>ops_index cs hs hc k hk w
 clear hc
 rw [← hs] at hi
 have HX:Hid (0≤(sign x).2):=hx
 clear hx
 obtain ⟨V,hV⟩:∃ V,V=(sign x).1:=⟨_,rfl⟩
 rw [← hV]
 have HV:Hid (V=(sign x).1):=hV
 clear hV
 go_enter Tryz.func243,Tryz.ntmps243
 go_wp2_with (refine wpList_load_row rfl 273 _ rfl 5 rfl t cs fr _ hg Tryz.underlying273 rfl hi ?_)
 go_loopw [6] (fun v wr=>∃ k:Nat,k≤10∧v=.int .i64 k∧Below w.heap.size w wr∧Hid (∀ j,j<k→eqS (opAt j) x=false)) (fun v _=>10 - (intOf v).toNat)
 case atStart=>exact ⟨0,by omega,rfl,Below.refl _ _,fun j hj=>by omega⟩
 case round =>
  obtain ⟨k,hk,rfl,hbw,HN⟩:=hrel
  by_cases hlt:k<10
  ·have hI':=hI k hlt wr
   have hkz:(k:Int)<10:=by omega
   cases he:eqS (opAt k) x
   ·have HE:Hid (eqS (opAt k) x=false):=he
    unfold eqS at he
    clear hI
    generalize opAt k=y at hI' he
    generalize opIs k=z at hI'
    go_wp2
    go_roundw
    case rel=>exact ⟨k+1,by omega,by go_num,hbw.alloc hbw.size _,fun j hj=>by
     rcases Nat.lt_or_ge j k with h | h
     ·exact HN.out j h
     ·have:j=k:=by omega
      subst this
      exact HE.out⟩
    case measure=>simp [intOf];omega
   ·have HE:Hid ((k:Int)=V):=(op_hit hlt he HX.out).trans HV.out.symm
    unfold eqS at he
    clear hI
    generalize opAt k=y at hI' he
    generalize opIs k=z at hI'
    go_wp2
    go_ret
    exact ⟨by rw [← HE.out];rfl,hbw.alloc hbw.size _⟩
  ·have:=op_none (x:=x) (fun j hj=>HN.out j (by omega))
   have:=HX.out
   omega
end syn
end Go.Proofs.YtfopddgjdaoidaaGreatDoor
