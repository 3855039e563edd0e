/- What tokens look like; and when a text is a NAME, told by its tokens. No Go in sight. -/
import Derived.Test.YtfopddgjdaoidaaGreatDoorNR20
set_option linter.unusedVariables false
set_option linter.unusedSimpArgs false
set_option maxRecDepth 100000
namespace Go.Proofs.YtfopddgjdaoidaaGreatDoor
namespace face
open Go.RowKit Go.Maps
open syn
def kidR:Kid→List ByteArray→List ByteArray→Int→Option (Int × Int)
 | .imp x,ms,_,a=>enterR ms x 6 a
 | .var x _ _ n,_,ns,a=>varR ns x n a
 | .proc x _ _ _ ps _,_,ns,a=>procR ns x ps a
def namesK:List Kid→List ByteArray
 | []=>[]
 | .imp _ :: r=>namesK r
 | .var x _ _ _ :: r=>x :: namesK r
 | .proc x _ _ _ _ _ :: r=>x :: namesK r
theorem namesK_append:∀ (a b:List Kid),namesK (a++b)=namesK a++namesK b
 | [],b=>rfl
 | .imp x :: r,b=>namesK_append r b
 | .var x _ _ _ :: r,b=>by show x :: namesK (r++b)=x :: (namesK r++namesK b);rw [namesK_append r b]
 | .proc x _ _ _ _ _ :: r,b=>by show x :: namesK (r++b)=x :: (namesK r++namesK b);rw [namesK_append r b]
theorem varsN_len (all:Bool):∀ K:List Kid,(varsK all K).length≤(namesK K).length
 | []=>jE _
 | .imp _ :: r=>varsN_len all r
 | .var x p l n :: r=>by
  have:=varsN_len all r
  show (if all||p then varD x p l n :: varsK all r else varsK all r).length≤(namesK r).length+1
  split
  ·simp;omega
  ·omega
 | .proc _ _ _ _ _ _ :: r=>Nat.le_trans (varsN_len all r) (Nat.le_succ _)
theorem procsN_len (all:Bool):∀ K:List Kid,(procsK all K).length≤(namesK K).length
 | []=>jE _
 | .imp _ :: r=>procsN_len all r
 | .var _ _ _ _ :: r=>Nat.le_trans (procsN_len all r) (Nat.le_succ _)
 | .proc x p l g ps b :: r=>by
  have:=procsN_len all r
  show (if all||p then procD x p l g ps :: procsK all r else procsK all r).length≤(namesK r).length+1
  split
  ·simp;omega
  ·omega
theorem lookD_step (k:Kid) (r:List Kid) (ms ns:List ByteArray) (a:Int):lookD (k :: r) ms ns a=match kidR k ms ns a with | some e=>some e | none=>lookD r (ms++importsK [k]) (ns++namesK [k]) (a+cntT k.tree):=by
 cases k with
 | imp x =>
  have e:cntT (Kid.imp x).tree=1:=by unfold Kid.tree cntT cntL;rfl
  rw [e]
  show (if _ then _ else if _ then _ else _)=match (if _ then _ else if _ then _ else _:Option (Int × Int)) with | some e=>some e | none=>lookD r (ms++[x]) (ns++[]) (a+1)
  rw [List.append_nil]
  split
  ·rfl
  ·split<;>rfl
 | var x p l n =>
  show (if _ then _ else if _ then _ else _)=match (if _ then _ else if _ then _ else _:Option (Int × Int)) with | some e=>some e | none=>lookD r (ms++[]) (ns++[x]) _
  rw [List.append_nil]
  split
  ·rfl
  ·split
   ·rfl
   ·cases rangeF n a<;>rfl
 | proc x p l g ps b =>
  show (if _ then _ else if _ then _ else if _ then _ else _)=match (if _ then _ else if _ then _ else if _ then _ else _:Option (Int × Int)) with | some e=>some e | none=>lookD r (ms++[]) (ns++[x]) _
  rw [List.append_nil]
  split
  ·rfl
  ·split
   ·rfl
   ·split
    ·rfl
    ·cases parD [] ps (a+1)<;>rfl
theorem enterR_none {L:List ByteArray} {x:ByteArray} {most:Nat} {a:Int} (h:enterR L x most a=none):L.length<most:=by
 unfold enterR at h
 split at h
 ·cases h
 ·split at h
  ·cases h
  ·omega
theorem kidR_len {k:Kid} {ms ns:List ByteArray} {a:Int} (h:kidR k ms ns a=none) (h1:ms.length≤6) (h2:ns.length≤20):(ms++importsK [k]).length≤6∧(ns++namesK [k]).length≤20:=by
 cases k with
 | imp x =>
  have:=enterR_none h
  show (ms++[x]).length≤6∧(ns++[]).length≤20
  simp;omega
 | var x p l n =>
  have h3:ns.length<20:=by
   have h':varR ns x n a=none:=h
   unfold varR at h'
   split at h'
   ·cases h'
   ·split at h'
    ·cases h'
    ·omega
  show (ms++[]).length≤6∧(ns++[x]).length≤20
  simp;omega
 | proc x p l g ps b =>
  have h3:ns.length<20:=by
   have h':procR ns x ps a=none:=h
   unfold procR at h'
   split at h'
   ·cases h'
   ·split at h'
    ·cases h'
    ·omega
  show (ms++[]).length≤6∧(ns++[x]).length≤20
  simp;omega
theorem VR.mono {Bm:Nat} {w:World} {r:Option (Int × Int)} {G G':World→Prop} {e:Ending} {w':World} (h:VR Bm w r G e w') (hG:G w'→G' w'):VR Bm w r G' e w' :=
 ⟨h.1,h.2.imp id (fun ⟨a,b,c⟩=>⟨a,b,hG c⟩)⟩
theorem vKid {D Bm Bd:Nat} {mp:Option Nat} {vv pv iv:Value} {mo:ByteArray} {V:List VarD} {P:List (ProcD × Value)} {is ms ns qs:List ByteArray} (k:Kid) (v:Value) (w:World) (at_:Int) (hv:Lies (·<Bm) w k.tree v)
  (h:DI w D Bm Bd mp vv pv iv mo V P is ms ns qs at_) (h0:0≤at_) (hm:at_+cntT k.tree≤1000000) (hgood:k.good) (his:is.length≤6) (hms:ms.length≤6) (hns:ns.length≤20) (hV:V.length≤20) (hP:P.length≤20) (hps:k.kids.length≤1000) :
  Calls Tryz.prog 69 #[.pointer (some ⟨D,0,none⟩),v] w (VR Bm w (kidR k ms ns at_) fun w'=>∃ mp' vv' pv' iv' P' qs',DI w' D Bm Bd mp' vv' pv' iv' mo (V++varsK false [k]) P' (is++importsK [k]) (ms++importsK [k]) (ns++namesK [k]) qs' (at_+cntT k.tree)∧P'.map (·.1)=P.map (·.1)++procsK false [k]):=by
 cases k with
 | imp x =>
  have e:cntT (Kid.imp x).tree=1:=by unfold Kid.tree cntT cntL;rfl
  rw [e] at hm ⊢
  refine (vImp x 0 v w at_ hv h h0 (by omega) hgood hms his).mono ?_
  intro e w' hr
  refine hr.mono ?_
  rintro ⟨iv',hI⟩
  refine ⟨mp,vv,pv,iv',P,qs,?_,by show _=_++[];simp⟩
  show DI w' D Bm Bd mp vv pv iv' mo (V++[]) P (is++[x]) (ms++[x]) (ns++[]) qs (at_+1)
  rw [List.append_nil,List.append_nil]
  exact hI
 | var x p l n =>
  refine (vVar x p l n v w at_ hv h h0 hm hgood hns hV).mono ?_
  intro e w' hr
  refine hr.mono ?_
  rintro ⟨vv',hI⟩
  refine ⟨mp,vv',pv,iv,P,qs,?_,by show _=_++[];simp⟩
  have e1:varsK false [Kid.var x p l n]=onP p (varD x p l n):=by show (if false||p then _ else _)=_;cases p<;>rfl
  rw [e1]
  show DI w' D Bm Bd mp vv' pv iv mo _ P (is++[]) (ms++[]) (ns++[x]) qs _
  rw [List.append_nil,List.append_nil]
  exact hI
 | proc x p l g ps b =>
  refine (vProc x p l g ps b v w at_ hv h h0 hm hgood hns hP (by have:(Kid.proc x p l g ps b).kids.length=ps.length+1:=by simp [Kid.kids]
                                                                 omega)).mono ?_
  intro e w' hr
  refine hr.mono ?_
  rintro ⟨b0,pv',P',qs',hI,hPP⟩
  refine ⟨some b0,vv,pv',iv,P',qs',?_,?_⟩
  ·show DI w' D Bm Bd (some b0) vv pv' iv mo (V++[]) P' (is++[]) (ms++[]) (ns++[x]) qs' _
   rw [List.append_nil,List.append_nil,List.append_nil]
   exact hI
  ·have e1:procsK false [Kid.proc x p l g ps b]=onP p (procD x p l g ps):=by show (if false||p then _ else _)=_;cases p<;>rfl
   rw [e1]
   exact hPP
set_option maxHeartbeats 4000000 in
theorem vMod {D Bm Bd:Nat} {mp:Option Nat} {vv pv iv:Value} {mo:ByteArray} {qs:List ByteArray} (m:ByteArray) (K:List Kid) (v:Value) (w:World) (hv:Lies (·<Bm) w (.node 1 m 0 (K.map Kid.tree)) v)
  (h:DI w D Bm Bd mp vv pv iv mo [] [] [] [] [] qs 0) (hm16:m.size≤16) (hgood:∀ k∈K,k.good) (hcnt:cntL (K.map Kid.tree)≤1000) (hps:∀ k∈K,k.kids.length≤1000) :
  Calls Tryz.prog 69 #[.pointer (some ⟨D,0,none⟩),v] w (VR Bm w (lookD K [m] [] 1) fun w'=>∃ mp' vv' pv' iv' P' ms' ns' qs' a',DI w' D Bm Bd mp' vv' pv' iv' m (varsK false K) P' (importsK K) ms' ns' qs' a'∧P'.map (·.1)=procsK false K∧(namesK K).length≤20∧(importsK K).length≤6):=by
 unfold Lies at hv
 obtain ⟨T,hT⟩:∃ T,K.map Kid.tree=T:=⟨_,rfl⟩
 rw [hT] at hv hcnt
 have HT:Hid (K.map Kid.tree=T):=hT
 have HL:Hid (T.length=K.length):=by show _=_;rw [← hT];simp
 clear hT
 obtain ⟨a,c,rfl,hl,hk⟩:=hv
 have c24:=kc25
 have hmm:=h.lm
 have hdd:=h.ld
 have hd:=h.dc.lt
 have hI0:=h.below (bal (.cells #[.int .i64 1,.string m,.int .i64 0,.slice a T.length c] 25))
 have hI:DI (w.alloc (.cells #[.int .i64 1,.string m,.int .i64 0,.slice a T.length c] 25)).drew D Bm Bd mp vv pv iv mo [] [] [] [] [] qs 0:=hI0.below ⟨rfl,rfl,rfl,jE _,fun _ _=>rfl⟩
 clear hI0
 have hQ:Q4 w.heap.size (.int .i64 1) (.string m) (.int .i64 0) (.slice a T.length c) (w.alloc (.cells #[.int .i64 1,.string m,.int .i64 0,.slice a T.length c] 25)).drew:=⟨by simp,by simp,by simp,by simp⟩
 have hB:Below w.heap.size w (w.alloc (.cells #[.int .i64 1,.string m,.int .i64 0,.slice a T.length c] 25)).drew:=(bal _).drew
 have hS:(w.alloc (.cells #[.int .i64 1,.string m,.int .i64 0,.slice a T.length c] 25)).drew.cell? ⟨D,4,none⟩=some (.map (some Bm))∧(w.alloc (.cells #[.int .i64 1,.string m,.int .i64 0,.slice a T.length c] 25)).drew.cell? ⟨w.heap.size,1,none⟩=some (.string m):=⟨hI.dc.c4,hQ.2.1⟩
 go_enter Tryz.func69,Tryz.ntmps69
 go_wp2
 refine wp_region_held_drew (S:=fun W=>W.cell? ⟨D,4,none⟩=some (.map (some Bm))∧W.cell? ⟨w.heap.size,1,none⟩=some (.string m)) (by kernel_rfl) hS (fun hHeld=>?_)
 clear hHeld
 generalize (w.alloc (.cells #[.int .i64 1,.string m,.int .i64 0,.slice a T.length c] 25)).drew=W at *
 refine tkP 0 (.pointer (some ⟨D,0,none⟩)) hS ?_
 simp only [Act.put,jA,jB,jC]
 refine tkP 1 (.pointer (some ⟨D,0,none⟩)) hS ?_
 simp only [Act.put,jA,jB,jC]
 refine tkP 2 (.pointer (some ⟨D,0,none⟩)) hS ?_
 simp only [Act.put,jA,jB,jC]
 refine tkP 3 (.pointer (some ⟨D,4,none⟩)) hS ?_
 simp only [Act.put,jA,jB,jC]
 refine tkP 4 (.map (some Bm)) hS ?_
 simp only [Act.put,jA,jB,jC]
 refine tkP 5 (.pointer (some ⟨w.heap.size,1,none⟩)) hS ?_
 simp only [Act.put,jA,jB,jC]
 refine tkP 6 (.string m) hS ?_
 simp only [Act.put,jA,jB,jC]
 refine oneH 7 fun KK hK=>?_
 go_simp
 go_at_call 117
 refine (oEnter D Bm [] m 6 0 W hI.dc.c7 hI.om hI.am (by omega) (by omega) (by simp)).mono ?_
 rintro e W1 (⟨hm1,rfl,hb⟩|⟨hm1,hle,rfl,hb⟩|⟨hm1,hlt,rfl,hom,ham,hg⟩)
 ·exact absurd hm1 (by simp [among])
 ·exact absurd hle (by simp)
 have hI1:=hI.enterM hom ham hg
 rw [List.nil_append] at hI1
 go_wp2
 replace hQ:=Q4.grown hQ hg (by simp;omega)
 have hB1:Below Bm w W1:=(hB.mono (by omega)).grown hg (by have:=hB.size;omega) (fun k e=>by cases e;omega)
 clear hB hom ham hg hI
 refine hK.out _ _ ⟨hI1.dc.c4,hQ.2.1⟩ (fun hHeld=>?_)
 clear hK KK hHeld
 refine wpAnyH_done (by kernel_rfl) ?_ _
 obtain ⟨q0,q1,q2,q3⟩:=id hQ
 have m0:=hI1.dc.c0
 have mf0:=hI1.dc.fz 0
 have hI2:=hI1.setModule m
 have hB2:=hB1.setCell (p:=⟨D,0,none⟩) (by show Bm≤D;omega) (.string m)
 have hQ2:=Q4.other (M:=D) (o:=0) (by omega) hQ (.string m)
 have m7:=hI2.dc.c7
 have mf7:=hI2.dc.fz 7
 have q3':=hQ2.2.2.2
 have hI3:=hI2.setAt 1
 have hB3:=hB2.setCell (p:=⟨D,7,none⟩) (by show Bm≤D;omega) (.int .i64 1)
 have hq7:=(Q4.other (M:=D) (o:=7) (by omega) hQ2 (.int .i64 1)).2.2.2
 clear hI1 hB1 hQ hI2 hB2 hQ2 hm1 hlt h
 go_wp2
 clear m7 mf7 m0 mf0 q0 q1 q2 q3 q3' hq7
 obtain ⟨R,HRR⟩:∃ R,Hid (lookD K [m] [] 1=R):=⟨_,rfl⟩
 have HR:Hid (R=lookD K [m] [] 1):=HRR.out.symm
 go_loopw [75] (fun t wr=>∃ (j:Nat) (mp':Option Nat) (vv' pv' iv':Value) (P':List (ProcD × Value)) (qs':List ByteArray),j≤T.length∧t=.int .i64 j∧DI wr D Bm Bd mp' vv' pv' iv' m (varsK false (K.take j)) P' (importsK (K.take j)) (m :: importsK (K.take j)) (namesK (K.take j)) qs' (1+cntL (T.take j))∧Below Bm w wr∧Hid (P'.map (·.1)=procsK false (K.take j))∧Hid (R=lookD (K.drop j) (m :: importsK (K.take j)) (namesK (K.take j)) (1+cntL (T.take j)))∧Hid ((m :: importsK (K.take j)).length≤6∧(namesK (K.take j)).length≤20)) (fun t _=>T.length - (intOf t).toNat)
 case atStart=>exact ⟨0,mp,vv,pv,iv,[],qs,Nat.zero_le _,rfl,by simpa [cntL,varsK,importsK,namesK] using hI3,hB3,by show _=_;rfl,by show _=_;rw [HR.out];rfl,by show _∧_;simp [importsK,namesK]⟩
 case round =>
  clear hI3 hB3 HR
  obtain ⟨j,mp',vv',pv',iv',P',qs',hj,rfl,hI,hB,HP,HR,HB⟩:=hrel
  by_cases hlt:j<T.length
  ·obtain ⟨g,o,rfl,hg,hat⟩:=hk (by intro e;rw [e] at hlt;simp at hlt)
   obtain ⟨kk,xx,mm,aa,na,ca,c0,c1,c2,c3,hx⟩:=kid_at hat hg hB hlt
   have hs1:=cntL_take T j hlt
   have hs2:=cntL_take_le T (j+1)
   have hs3:=cntT_pos T[j]
   have hs4:=cntL_pos (T.take j)
   have hsz:=hB.size
   have hgl:g<wr.heap.size:=by have:g<Bm:=hg;omega
   have hlk:=HL.out
   have hjK:j<K.length:=by omega
   have hTj:T[j]=K[j].tree:=by simp only [← HT.out];simp
   have hb6:=HB.out.1
   have hb20:=HB.out.2
   rw [hTj] at hx hs1 hs3
   have hvl:=varsN_len false (K.take j)
   have hpl:=procsN_len false (K.take j)
   have hPl:P'.length≤20:=by have:=congrArg List.length HP.out;rw [List.length_map] at this;omega
   have hC:=vKid K[j] _ (wr.alloc (.cells #[.int .i64 kk,.string xx,.int .i64 mm,.slice aa na ca] 25)) _ (Lies.alloc' hx (by omega) _) (hI.below (bal _)) (by omega) (by omega) (hgood _ (List.getElem_mem hjK)) (by simp at hb6;omega) hb6 hb20 (by omega) hPl (hps _ (List.getElem_mem hjK))
   have HS:Hid (R=match kidR K[j] (m :: importsK (K.take j)) (namesK (K.take j)) (1+cntL (T.take j)) with | some e=>some e | none=>lookD (K.drop (j+1)) (m :: importsK (K.take j)++importsK [K[j]]) (namesK (K.take j)++namesK [K[j]]) (1+cntL (T.take j)+cntT K[j].tree)):=by
    show _=_
    rw [HR.out,List.drop_eq_getElem_cons hjK,lookD_step]
   have HG:Hid (∀ e,kidR K[j] (m :: importsK (K.take j)) (namesK (K.take j)) (1+cntL (T.take j))=e→e=none→(m :: importsK (K.take j)++importsK [K[j]]).length≤6∧(namesK (K.take j)++namesK [K[j]]).length≤20):=fun e h1 h2=>kidR_len (h1.trans h2) hb6 hb20
   have HK:Hid (K.take (j+1)=K.take j++[K[j]]):=List.take_succ_eq_append_getElem hjK
   have HN:Hid (1+cntL (T.take j)+cntT K[j].tree=1+cntL (T.take (j+1))):=by show _=_;omega
   rw [HN.out] at hC
   rw [HN.out] at HS
   clear hI hx hk hat hlk hs1 hs2 hs3 hs4 hvl hpl hPl hb6 hb20 HR HB hTj
   generalize hE:kidR K[j] (m :: importsK (K.take j)) (namesK (K.take j)) (1+cntL (T.take j))=E at *
   have HG2:=HG.out _ rfl
   clear HG hE
   cases E with
   | some q =>
    have HE:Hid (R=some q):=HS.out
    clear HS HG2
    go_wp2_with (fail)
    refine hC.mono ?_
    rintro e w2 ⟨hb2,(⟨q',e1,rfl⟩|⟨e1,_⟩)⟩
    ·cases e1
     go_wp2
     exact ⟨rfl,(hB.alloc (by omega) _).trans hb2,.inl ⟨q,HRR.out.trans HE.out,rfl⟩⟩
    ·cases e1
   | none =>
    have HE:Hid (R=lookD (K.drop (j+1)) (m :: importsK (K.take j)++importsK [K[j]]) (namesK (K.take j)++namesK [K[j]]) (1+cntL (T.take (j+1)))):=HS.out
    have HB2:Hid ((m :: importsK (K.take j)++importsK [K[j]]).length≤6∧(namesK (K.take j)++namesK [K[j]]).length≤20):=HG2 rfl
    clear HS HG2
    go_wp2_with (fail)
    refine hC.mono ?_
    rintro e w2 ⟨hb2,(⟨q',e1,_⟩|⟨_,rfl,mp2,vv2,pv2,iv2,P2,qs2,hI2,hP2⟩)⟩
    ·cases e1
    have HP2:Hid (P2.map (·.1)=P'.map (·.1)++procsK false [K[j]]):=hP2
    clear hP2
    go_wp2
    go_roundw
    case rel =>
     refine ⟨j+1,mp2,vv2,pv2,iv2,P2,qs2,by omega,by go_num,?_,(hB.alloc (by omega) _).trans hb2,?_,?_,?_⟩
     ·rw [HK.out,varsK_append,importsK_append,namesK_append]
      exact hI2
     ·show _=_
      rw [HP2.out,HP.out,HK.out,procsK_append]
     ·show _=_
      rw [HE.out,HK.out,importsK_append,namesK_append]
      rfl
     ·rw [HK.out,importsK_append,namesK_append]
      exact HB2
    case measure=>simp [intOf];omega
  ·have hlk:=HL.out
   have HE:Hid (R=none):=by
    show _=_
    rw [HR.out,List.drop_eq_nil_of_le (by omega)]
    rfl
   have hb6:=HB.out.1
   have hb20:=HB.out.2
   have hPf:=HP.out
   rw [List.take_of_length_le (l:=K) (by omega)] at hI hb6 hb20 hPf
   have HF:Hid (P'.map (·.1)=procsK false K∧(namesK K).length≤20∧(importsK K).length≤6):=⟨hPf,hb20,by simp at hb6;omega⟩
   clear hlk hb6 hb20 hPf
   go_wp2
   go_end0
   exact ⟨hB,.inr ⟨HRR.out.trans HE.out,rfl,_,_,_,_,_,_,_,_,_,hI,HF.out⟩⟩
end face
namespace face
open Go.RowKit
open syn
def OfRes (w:World) (f:FaceD) (l:List ByteArray) (c a:Int) (e:Ending) (w':World):Prop :=
 ∃ fv lv,e=.returned (.tuple #[fv,lv,.agg #[.int .i64 c,.int .i64 a]])∧FaceIn w' fv f∧StrsIn w' lv l∧Below w.heap.size w w'
def noFace:FaceD:=⟨⟨#[]⟩,[],[]⟩
theorem noFace_in (w:World):FaceIn w (.agg #[.string ⟨#[]⟩,.slice none 0 0,.slice none 0 0]) noFace :=
 ⟨_,_,rfl,⟨none,0,rfl,by simp [noFace],fun h=>absurd rfl h⟩,⟨none,0,rfl,by simp [noFace],fun h=>absurd rfl h⟩⟩
theorem noStrs_in (w:World):StrsIn w (.slice none 0 0) []:=⟨none,0,rfl,by simp,fun h=>absurd rfl h⟩
theorem lies_shape {Q:Nat→Prop} {w:World} {t:Tree} {v:Value} (h:Lies Q w t v):∃ k x m a n c,v=.agg #[.int .i64 k,.string x,.int .i64 m,.slice a n c]:=by
 match t,h with
 | .node k x m ks,h =>
  unfold Lies at h
  obtain ⟨a,c,e,_⟩:=h
  exact ⟨k,x,m,a,_,c,e⟩
theorem parF_ne:∀ (ps:List (ByteArray × Bool)) (seen:List ByteArray) (a:Int) (e:Int × Int),parF seen ps a=some e→e.1≠0
 | [],_,_,e,h=>by cases h
 | q :: r,seen,a,e,h=>by
  unfold parF at h
  split at h
  ·cases h;simp
  ·exact parF_ne r _ _ e h
theorem lookK_ne (m:ByteArray):∀ (K:List Kid) (is ns:List ByteArray) (a:Int) (e:Int × Int),lookK m K is ns a=some e→e.1≠0
 | [],_,_,_,e,h=>by cases h
 | .imp x :: r,is,ns,a,e,h=>by
  unfold lookK at h
  split at h
  ·cases h;simp
  ·split at h
   ·cases h;simp
   ·exact lookK_ne m r _ _ _ e h
 | .var x p l n :: r,is,ns,a,e,h=>by
  unfold lookK at h
  split at h
  ·cases h;simp
  ·split at h
   ·cases h;simp
   ·split at h
    ·rename_i e' he
     cases h
     cases n with
     | none=>cases he
     | some n =>
      rw [show rangeF (some n) a=if n<1∨64<n then some (6,a) else none from rfl] at he
      split at he
      ·cases he;simp
      ·cases he
    ·exact lookK_ne m r _ _ _ e h
 | .proc x p l g ps b :: r,is,ns,a,e,h=>by
  unfold lookK at h
  split at h
  ·cases h;simp
  ·split at h
   ·cases h;simp
   ·split at h
    ·cases h;simp
    ·split at h
     ·rename_i e' he
      cases h
      exact parF_ne _ _ _ _ he
     ·exact lookK_ne m r _ _ _ e h
theorem mod_shape {B:Nat} {w:World} {m:ByteArray} {K:List Kid} {v:Value} (h:Lies (fun b=>B≤b∧b<w.heap.size) w (.node 1 m 0 (K.map Kid.tree)) v) :
  ∃ a d,v=.agg #[.int .i64 1,.string m,.int .i64 0,.slice a K.length d]∧Lies (·<w.heap.size) w (.node 1 m 0 (K.map Kid.tree)) (.agg #[.int .i64 1,.string m,.int .i64 0,.slice a K.length d]):=by
 have h2:=h.to (Q:=(·<w.heap.size)) (w':=w) (fun b hb=>hb.2) (fun _ _ _=>rfl)
 have h3:=h2
 unfold Lies at h3
 obtain ⟨a,d,e,_,_⟩:=h3
 rw [List.length_map] at e
 subst e
 exact ⟨a,d,rfl,h2⟩
end face
namespace face
open Go.RowKit Go.Maps
open syn
section
variable {w w':World}
theorem DC.new (w:World) (x0 x1 x2 x3 x4 x5 x6 x7:Value) (T:TypeId):DC (w.alloc (.cells #[x0,x1,x2,x3,x4,x5,x6,x7] T)) w.heap.size x0 x1 x2 x3 x4 x5 x6 x7:=by
 constructor<;>simp
theorem DI.new (w:World) (T:TypeId):DI (((w.alloc (.map #[] 0)).alloc (.map #[] 0)).alloc (.cells #[.string ⟨#[]⟩,.slice none 0 0,.slice none 0 0,.slice none 0 0,.map (some w.heap.size),.map (some (w.heap.size+1)),.map none,.int .i64 0] T)) (w.heap.size+1+1) w.heap.size (w.heap.size+1) none (.slice none 0 0) (.slice none 0 0) (.slice none 0 0) ⟨#[]⟩ [] [] [] [] [] [] 0:=by
 have h1:SetIn (w.alloc (.map #[] 0)) w.heap.size []:=World.ownsMap_made _ _ _ _
 have h2:SetIn ((w.alloc (.map #[] 0)).alloc (.map #[] 0)) (w.heap.size+1) []:=by
  have:=World.ownsMap_made (w.alloc (.map #[] 0)) Tryz.prog 9 (unitElem (H:=Unit))
  rw [World.size_alloc] at this
  exact this
 have hd:=DC.new ((w.alloc (.map #[] 0)).alloc (.map #[] 0)) (.string ⟨#[]⟩) (.slice none 0 0) (.slice none 0 0) (.slice none 0 0) (.map (some w.heap.size)) (.map (some (w.heap.size+1))) (.map none) (.int .i64 0) T
 rw [World.size_alloc,World.size_alloc] at hd
 exact ⟨hd,by omega,by omega,fun b e=>(by cases e),FR.nil _ _ _,World.ownsRow_nil _ _ _ _,fun b e=>(by cases e),(h1.alloc _).alloc _,rfl,h2.alloc _,rfl,fun b e=>(by cases e),rfl⟩
set_option maxHeartbeats 200000 in
theorem dcatch_idle (p:Addr) (w:World) :
  CallsD Tryz.prog 68 #[.pointer (some p)] .returning w fun e u' w'=>e=.returned (.tuple #[])∧u'=.returning∧w'=w:=by
 have hnn:∀ w:World,(binOp BinOp.eql 20 .nilIface .nilIface).run Tryz.prog w=.ok (.bool true) w:=fun _=>by kernel_rfl
 refine callsD_of_wpS Tryz.func68 rfl fun c₀ cs hu=>?_
 refine recover_none (by simp [recoverD,hu]) ?_
 simp only [Tryz.ntmps68,List.size_toArray,List.length_cons,List.length_nil,Nat.reduceAdd,Nat.reduceSub,Array.replicate_succ,Array.replicate_zero,List.push_toArray,List.append_toArray,List.nil_append,List.cons_append,Act.put,List.setIfInBounds_toArray,List.set_cons_succ,List.set_cons_zero]
 refine wpS_of_wp (wp_mono (Q:=fun e a w'=>e=.normal∧a.defers=[]∧w'=w) ?_ ?_)
 ·go_wp2
 ·rintro e a w' ⟨rfl,h1,rfl⟩
  exact ⟨h1,_,rfl,.tuple #[],by simp [results,Tryz.results68],rfl,hu,rfl⟩
set_option maxHeartbeats 1000000 in
theorem dcatch (fb:Nat) (c a:Int) (w:World) (h0:w.cell? ⟨fb,0,none⟩=some (.int .i64 0)) (h1:w.cell? ⟨fb,1,none⟩=some (.int .i64 0)) (f0:w.frozen? ⟨fb,0,none⟩=false) (f1:w.frozen? ⟨fb,1,none⟩=false) (hfb:fb<w.heap.size) :
  CallsD Tryz.prog 68 #[.pointer (some ⟨fb,0,none⟩)] (.panicking (Thrown c a)) w fun e u' w'=>e=.returned (.tuple #[])∧u'=.panicking [{ v:=.iface 28 (.agg #[.int .i64 c,.int .i64 a]),recovered:=true }]∧w'.cell? ⟨fb,0,none⟩=some (.int .i64 c)∧w'.cell? ⟨fb,1,none⟩=some (.int .i64 a)∧Fr fb w w':=by
 have c27:=kc28
 have hnn:∀ w:World,(binOp BinOp.eql 20 (.iface 28 (.agg #[.int .i64 c,.int .i64 a])) .nilIface).run Tryz.prog w=.ok (.bool false) w:=fun _=>by kernel_rfl
 have hta:∀ w:World,(Instr.typeAssert (.iface 28 (.agg #[.int .i64 c,.int .i64 a])) 20 28 true).run Tryz.prog w=.ok (.tuple #[.agg #[.int .i64 c,.int .i64 a],.bool true]) w:=fun _=>by kernel_rfl
 unfold Thrown
 refine callsD_of_wpS Tryz.func68 rfl fun c₀ cs hu=>?_
 refine recover_some (v:=.iface 28 (.agg #[.int .i64 c,.int .i64 a])) (cs':={ c₀ with mode:=.panicking [{ v:=.iface 28 (.agg #[.int .i64 c,.int .i64 a]),recovered:=true }] } :: cs) (by simp [recoverD,hu]) ?_
 simp only [Tryz.ntmps68,List.size_toArray,List.length_cons,List.length_nil,Nat.reduceAdd,Nat.reduceSub,Array.replicate_succ,Array.replicate_zero,List.push_toArray,List.append_toArray,List.nil_append,List.cons_append,Act.put,List.setIfInBounds_toArray,List.set_cons_succ,List.set_cons_zero]
 refine wpS_of_wp (wp_mono (Q:=fun e q w'=>e=.normal∧q.defers=[]∧w'.cell? ⟨fb,0,none⟩=some (.int .i64 c)∧w'.cell? ⟨fb,1,none⟩=some (.int .i64 a)∧Fr fb w w') ?_ ?_)
 ·go_wp2
  exact (((Fr.refl _ _).set _ _).set _ _).alloc _
 ·rintro e q w' ⟨rfl,h1,h2,h3,h4⟩
  exact ⟨h1,_,rfl,.tuple #[],by simp [results,Tryz.results68],rfl,rfl,h2,h3,h4⟩
theorem decl_fin {N D Bm Bd:Nat} {mp:Option Nat} {vv pv iv:Value} {m:ByteArray} {K:List Kid} {P:List (ProcD × Value)} {ms ns qs:List ByteArray} {a:Int} {w0:World} (h:DI w D Bm Bd mp vv pv iv m (varsK false K) P (importsK K) ms ns qs a) (hP:P.map (·.1)=procsK false K) (hn:(namesK K).length≤20) (hN:N+1<D) (B:Nat) (hBN:B≤N) (hB:Below B w0 w) (x y z p q:Value) :
  FR (fun b=>iv.ownBlock=some b∨mp=some b) (D+1) (((((w.setCell ⟨N,0,none⟩ x).setCell ⟨N,1,none⟩ y).setCell ⟨N,2,none⟩ z).setCell ⟨N+1,0,none⟩ p).setCell ⟨N+1,1,none⟩ q).drew vv pv (varsK false K) P ∧
  (((((w.setCell ⟨N,0,none⟩ x).setCell ⟨N,1,none⟩ y).setCell ⟨N,2,none⟩ z).setCell ⟨N+1,0,none⟩ p).setCell ⟨N+1,1,none⟩ q).drew.ownsRow (D+1) 9 1 iv (importsK K).length (strV (importsK K)) ∧
  Below B w0 (((((w.setCell ⟨N,0,none⟩ x).setCell ⟨N,1,none⟩ y).setCell ⟨N,2,none⟩ z).setCell ⟨N+1,0,none⟩ p).setCell ⟨N+1,1,none⟩ q).drew:=by
 refine ⟨?_,?_,?_⟩
 ·have h:=(((((h.fr.set (M:=N) (o:=0) (by omega) x).set (M:=N) (o:=1) (by omega) y).set (M:=N) (o:=2) (by omega) z).set (M:=N+1) (o:=0) (by omega) p).set (M:=N+1) (o:=1) (by omega) q).drew
  exact h
 ·have n0:iv.ownBlock≠some N:=fun e=>by have:=(h.oi.lt _ e).1;omega
  have n1:iv.ownBlock≠some (N+1):=fun e=>by have:=(h.oi.lt _ e).1;omega
  have r:=ownsRow_setCell_other (a:=⟨N+1,1,none⟩) (ownsRow_setCell_other (a:=⟨N+1,0,none⟩) (ownsRow_setCell_other (a:=⟨N,2,none⟩) (ownsRow_setCell_other (a:=⟨N,1,none⟩) (ownsRow_setCell_other (a:=⟨N,0,none⟩) h.oi n0 x) n0 y) n0 z) n1 p) n1 q
  generalize ((((w.setCell ⟨N,0,none⟩ x).setCell ⟨N,1,none⟩ y).setCell ⟨N,2,none⟩ z).setCell ⟨N+1,0,none⟩ p).setCell ⟨N+1,1,none⟩ q=W at *
  exact r.drew
 ·exact (((((hB.setCell hBN _).setCell hBN _).setCell hBN _).setCell (Nat.le_succ_of_le hBN) _).setCell (Nat.le_succ_of_le hBN) _).drew
def DeclOut (w:World) (m:ByteArray) (K:List Kid) (e:Ending) (w':World):Prop :=
 match lookD K [m] [] 1 with
 | some q=>e=.returned (.tuple #[.agg #[.string ⟨#[]⟩,.slice none 0 0,.slice none 0 0],.slice none 0 0,.agg #[.int .i64 q.1,.int .i64 q.2]])∧Below w.heap.size w w'
 | none=>∃ (X:Nat→Prop) (B:Nat) (vv pv iv:Value) (P:List (ProcD × Value)),w.heap.size≤B∧e=.returned (.tuple #[.agg #[.string m,vv,pv],iv,.agg #[.int .i64 0,.int .i64 0]])∧FR X B w' vv pv (varsK false K) P∧P.map (·.1)=procsK false K∧(namesK K).length≤20∧w'.ownsRow B 9 1 iv (importsK K).length (strV (importsK K))∧Below w.heap.size w w'
set_option maxHeartbeats 4000000 in
theorem oDeclare (m:ByteArray) (K:List Kid) (v:Value) (w:World) (hv:Lies (·<w.heap.size) w (.node 1 m 0 (K.map Kid.tree)) v) (hm16:m.size≤16) (hgood:∀ k∈K,k.good) (hcnt:cntL (K.map Kid.tree)≤1000) (hps:∀ k∈K,k.kids.length≤1000) :
  Calls Tryz.prog 31 #[v] w (DeclOut w m K):=by
 have c24:=kc25
 have c27:=kc28
 have c3:Tryz.prog.cellsOf 44=3:=cell3
 have c8:=kc134
 have hmm0:=@run_makeMap Tryz.prog
 have hmf:∀ (fn:Fn) (first cap:Array Value) (w:World),(Instr.makeFunc fn first cap).run Tryz.prog w=.ok (.func fn first cap) w:=fun _ _ _ _=>rfl
 obtain ⟨k1,x1,m1,a1,n1,d1,rfl⟩:=lies_shape hv
 obtain ⟨w3,hw3⟩:∃ w3,w3=((w.alloc (.cells #[.int .i64 k1,.string x1,.int .i64 m1,.slice a1 n1 d1] 25)).alloc (.cells #[.string ⟨#[]⟩,.slice none 0 0,.slice none 0 0] 44)).alloc (.cells #[.int .i64 0,.int .i64 0] 28):=⟨_,rfl⟩
 have hs3:w3.heap.size=w.heap.size+1+1+1:=by rw [hw3];simp
 have hb3:Below w.heap.size w w3:=by rw [hw3];exact ((bal _).alloc (by simp) _).alloc (by simp;omega) _
 have bF:Box3 w3 (w.heap.size+1) (.string ⟨#[]⟩) (.slice none 0 0) (.slice none 0 0):=by
  have:=(Box3.new (w.alloc (.cells #[.int .i64 k1,.string x1,.int .i64 m1,.slice a1 n1 d1] 25)) (.string ⟨#[]⟩) (.slice none 0 0) (.slice none 0 0) 44).alloc (.cells #[.int .i64 0,.int .i64 0] 28)
  rw [World.size_alloc] at this
  rw [hw3]
  exact this
 have bG:Box2 w3 (w.heap.size+1+1) (.int .i64 0) (.int .i64 0):=by
  have:=Box2.new ((w.alloc (.cells #[.int .i64 k1,.string x1,.int .i64 m1,.slice a1 n1 d1] 25)).alloc (.cells #[.string ⟨#[]⟩,.slice none 0 0,.slice none 0 0] 44)) (.int .i64 0) (.int .i64 0) 28
  rw [World.size_alloc,World.size_alloc] at this
  rw [hw3]
  exact this
 have hI:=DI.new w3 134
 have hv3:Lies (·<w3.heap.size) (((w3.alloc (.map #[] 0)).alloc (.map #[] 0)).alloc (.cells #[.string ⟨#[]⟩,.slice none 0 0,.slice none 0 0,.slice none 0 0,.map (some w3.heap.size),.map (some (w3.heap.size+1)),.map none,.int .i64 0] 134)) (.node 1 m 0 (K.map Kid.tree)) (.agg #[.int .i64 k1,.string x1,.int .i64 m1,.slice a1 n1 d1]) :=
  hv.to (fun b hb=>by show b<w3.heap.size;have:b<w.heap.size:=hb;omega) (fun b hb o=>by
   have h1:=hb3.cell (p:=⟨b,o,none⟩) hb
   have h2:=((((Below.refl w3.heap.size w3).alloc (jE _) (.map #[] 0)).alloc (by simp) (.map #[] 0)).alloc (by simp;omega) (.cells #[.string ⟨#[]⟩,.slice none 0 0,.slice none 0 0,.slice none 0 0,.map (some w3.heap.size),.map (some (w3.heap.size+1)),.map none,.int .i64 0] 134)).cell (p:=⟨b,o,none⟩) (by show b<w3.heap.size;have:b<w.heap.size:=hb;omega)
   exact h2.trans h1)
 have hM:=vMod m K _ _ hv3 hI hm16 hgood hcnt hps
 have hb34:=((((Below.refl w3.heap.size w3).alloc (jE _) (.map #[] 0)).alloc (by simp) (.map #[] 0)).alloc (by simp;omega) (.cells #[.string ⟨#[]⟩,.slice none 0 0,.slice none 0 0,.slice none 0 0,.map (some w3.heap.size),.map (some (w3.heap.size+1)),.map none,.int .i64 0] 134))
 have hs4:(((w3.alloc (.map #[] 0)).alloc (.map #[] 0)).alloc (.cells #[.string ⟨#[]⟩,.slice none 0 0,.slice none 0 0,.slice none 0 0,.map (some w3.heap.size),.map (some (w3.heap.size+1)),.map none,.int .i64 0] 134)).heap.size=w3.heap.size+3:=by simp
 obtain ⟨w4,hw4⟩:∃ w4,w4=(((w3.alloc (.map #[] 0)).alloc (.map #[] 0)).alloc (.cells #[.string ⟨#[]⟩,.slice none 0 0,.slice none 0 0,.slice none 0 0,.map (some w3.heap.size),.map (some (w3.heap.size+1)),.map none,.int .i64 0] 134)):=⟨_,rfl⟩
 rw [← hw4] at hM hb34 hs4
 clear hI hv3 hv
 rw [hs3] at hw4
 rw [hw3] at hw4
 rw [hs3] at hM
 go_enter_defers Tryz.func31,Tryz.ntmps31
 go_wp2_with (fail)
 rw [← hw4]
 refine hM.mono ?_
 clear hw4 hw3 hM
 rintro e w5 ⟨hb5,(⟨q,hq,rfl⟩|⟨hq,rfl,mp',vv',pv',iv',P',ms',ns',qs',a',hI5,hP5,hn20,hi6⟩)⟩
 ·have hb35:Below w3.heap.size w3 w5:=hb34.trans (by rw [hs3];exact hb5)
  have bG5:=bG.below hb35
  have bF5:=bF.below hb35
  have hz:=bG5.lt
  have key:=dcatch (w.heap.size+1+1) q.1 q.2 w5 bG5.c0 bG5.c1 bG5.f0 bG5.f1 hz
  have HK:Hid (Below w.heap.size w w5):=hb3.trans (hb35.mono hb3.size)
  have HQ:Hid (lookD K [m] [] 1=some q):=hq
  clear hq hb5 hb35 hb34
  go_wp2
  refine leaves_cons (f:=68) (args:=#[.pointer (some ⟨w.heap.size+1+1,0,none⟩)]) (by simp) (by simp [go_sem]) ?_
  refine key.mono ?_
  rintro e u' w6 ⟨rfl,rfl,c0,c1,hF6⟩
  have bF6:=bF5.block (w':=w6) (hF6.block _ (by omega) (by simp))
  obtain ⟨t0,t1,t2,_,_,_⟩:=id bF6
  have HK6:Below w.heap.size w w6:=⟨hF6.os.trans HK.out.os,hF6.tape.trans HK.out.tape,hF6.output.trans HK.out.output,Nat.le_trans HK.out.size hF6.size,fun j hj=>(hF6.block j (by have:=HK.out.size;omega) (by simp;omega)).trans (HK.out.block j hj)⟩
  refine ⟨.tuple #[.agg #[.string ⟨#[]⟩,.slice none 0 0,.slice none 0 0],.slice none 0 0,.agg #[.int .i64 q.1,.int .i64 q.2]],?_,?_⟩
  ·simp [results,Tryz.results31,go_sem,t0,t1,t2,c0,c1]
  ·unfold DeclOut
   rw [HQ.out]
   exact ⟨rfl,HK6⟩
 have hb35:Below w3.heap.size w3 w5:=hb34.trans (by rw [hs3];exact hb5)
 have bG5:=bG.below hb35
 have bF5:=bF.below hb35
 have hz:=bG5.lt
 have HK1:Hid (Below w.heap.size w w5):=hb3.trans (hb35.mono hb3.size)
 have HQ:Hid (lookD K [m] [] 1=none):=hq
 have HP:Hid (P'.map (·.1)=procsK false K∧(namesK K).length≤20∧(importsK K).length≤6):=⟨hP5,hn20,hi6⟩
 clear hq hb5 hb35 hb34 hP5 hn20 hi6
 obtain ⟨av,cv,rfl⟩:=hI5.fr.shapeV
 obtain ⟨ap,cp,rfl⟩:=hI5.fr.shapeP
 obtain ⟨ai,ci,rfl,_,_⟩:=lexs.own_shape hI5.oi
 obtain ⟨m0,m1,m2,m3,_,_,_,_,_⟩:=id hI5.dc
 obtain ⟨t0,t1,t2,t3,t4,t5⟩:=id bF5
 obtain ⟨s0,s1,s2,s3⟩:=id bG5
 have hDlt:=hI5.dc.lt
 have HF:Hid _:=decl_fin (N:=w.heap.size+1) hI5 HP.out.1 HP.out.2.1 (by omega) _ (Nat.le_succ _) HK1.out (.string m) (.slice av (varsK false K).length cv) (.slice ap P'.length cp) (.int .i64 0) (.int .i64 0)
 go_wp2
 go_region
 all_goals
  go_wp2
  refine leaves_cons (f:=68) (args:=#[.pointer (some ⟨w.heap.size+1+1,0,none⟩)]) (by simp) (by simp [go_sem]) ?_
  refine (dcatch_idle _ _).mono ?_
  rintro e u' w6 ⟨rfl,rfl,hw6⟩
  subst hw6
  refine ⟨.tuple #[.agg #[.string m,.slice av (varsK false K).length cv,.slice ap P'.length cp],.slice ai (importsK K).length ci,.agg #[.int .i64 0,.int .i64 0]],?_,?_⟩
  ·simp [results,Tryz.results31,go_sem,t0,t1,t2,s0,s1]
  ·unfold DeclOut
   rw [HQ.out]
   exact ⟨_,_,_,_,_,_,by omega,rfl,HF.out.1,HP.out.1,HP.out.2.1,HF.out.2⟩
end
end face
namespace chk
open Go.RowKit Go.Shelf Go.Maps
open syn face
section
variable {w w':World}
set_option maxHeartbeats 200000 in
theorem gcatch_idle (p:Addr) (w:World) :
  CallsD Tryz.prog 41 #[.pointer (some p)] .returning w fun e u' w'=>e=.returned (.tuple #[])∧u'=.returning∧w'=w:=by
 have hnn:∀ w:World,(binOp BinOp.eql 20 .nilIface .nilIface).run Tryz.prog w=.ok (.bool true) w:=fun _=>by kernel_rfl
 refine callsD_of_wpS Tryz.func41 rfl fun c₀ cs hu=>?_
 refine recover_none (by simp [recoverD,hu]) ?_
 simp only [Tryz.ntmps41,List.size_toArray,List.length_cons,List.length_nil,Nat.reduceAdd,Nat.reduceSub,Array.replicate_succ,Array.replicate_zero,List.push_toArray,List.append_toArray,List.nil_append,List.cons_append,Act.put,List.setIfInBounds_toArray,List.set_cons_succ,List.set_cons_zero]
 refine wpS_of_wp (wp_mono (Q:=fun e a w'=>e=.normal∧a.defers=[]∧w'=w) ?_ ?_)
 ·go_wp2
 ·rintro e a w' ⟨rfl,h1,rfl⟩
  exact ⟨h1,_,rfl,.tuple #[],by simp [results,Tryz.results41],rfl,hu,rfl⟩
set_option maxHeartbeats 1000000 in
theorem gcatch (fb:Nat) (c a:Int) (w:World) (h0:w.cell? ⟨fb,0,none⟩=some (.int .i64 0)) (h1:w.cell? ⟨fb,1,none⟩=some (.int .i64 0)) (f0:w.frozen? ⟨fb,0,none⟩=false) (f1:w.frozen? ⟨fb,1,none⟩=false) (hfb:fb<w.heap.size) :
  CallsD Tryz.prog 41 #[.pointer (some ⟨fb,0,none⟩)] (.panicking (Thrown c a)) w fun e u' w'=>e=.returned (.tuple #[])∧u'=.panicking [{ v:=.iface 28 (.agg #[.int .i64 c,.int .i64 a]),recovered:=true }]∧w'.cell? ⟨fb,0,none⟩=some (.int .i64 c)∧w'.cell? ⟨fb,1,none⟩=some (.int .i64 a)∧Fr fb w w':=by
 have c27:=kc28
 have hnn:∀ w:World,(binOp BinOp.eql 20 (.iface 28 (.agg #[.int .i64 c,.int .i64 a])) .nilIface).run Tryz.prog w=.ok (.bool false) w:=fun _=>by kernel_rfl
 have hta:∀ w:World,(Instr.typeAssert (.iface 28 (.agg #[.int .i64 c,.int .i64 a])) 20 28 true).run Tryz.prog w=.ok (.tuple #[.agg #[.int .i64 c,.int .i64 a],.bool true]) w:=fun _=>by kernel_rfl
 unfold Thrown
 refine callsD_of_wpS Tryz.func41 rfl fun c₀ cs hu=>?_
 refine recover_some (v:=.iface 28 (.agg #[.int .i64 c,.int .i64 a])) (cs':={ c₀ with mode:=.panicking [{ v:=.iface 28 (.agg #[.int .i64 c,.int .i64 a]),recovered:=true }] } :: cs) (by simp [recoverD,hu]) ?_
 simp only [Tryz.ntmps41,List.size_toArray,List.length_cons,List.length_nil,Nat.reduceAdd,Nat.reduceSub,Array.replicate_succ,Array.replicate_zero,List.push_toArray,List.append_toArray,List.nil_append,List.cons_append,Act.put,List.setIfInBounds_toArray,List.set_cons_succ,List.set_cons_zero]
 refine wpS_of_wp (wp_mono (Q:=fun e q w'=>e=.normal∧q.defers=[]∧w'.cell? ⟨fb,0,none⟩=some (.int .i64 c)∧w'.cell? ⟨fb,1,none⟩=some (.int .i64 a)∧Fr fb w w') ?_ ?_)
 ·go_wp2
  exact (((Fr.refl _ _).set _ _).set _ _).alloc _
 ·rintro e q w' ⟨rfl,h1,h2,h3,h4⟩
  exact ⟨h1,_,rfl,.tuple #[],by simp [results,Tryz.results41],rfl,rfl,h2,h3,h4⟩
def GO (w:World) (r:Option (Int × Int)) (e:Ending) (w':World):Prop:=e=.returned (.agg #[.int .i64 (r.getD (0,0)).1,.int .i64 (r.getD (0,0)).2])∧Below w.heap.size w w'
set_option maxHeartbeats 4000000 in
theorem oGoOver {Gb gn:Nat} {gf:ByteArray→Option FV} (given:List FaceD) (m:ByteArray) (K:List Kid) (v:Value) (w:World) (hG:∀ z,(gf z).map (·.1)=given.find? (fun f=>eqS f.module z)) (hGi:∀ z q,gf z=some q→FaceIn w (fvV q) q.1) (hGok:∀ f∈given,FaceOk f) (mg:MapF w Gb gn (fun z=>fvO (gf z))) (hmx:HasMax w)
  (hv:Lies (·<w.heap.size) w (.node 1 m 0 (K.map Kid.tree)) v) (hKl:K.length≤900) (hgood:∀ k∈K,k.good∧kidOk k) (hps:∀ k∈K,k.kids.length≤1000) (hcnt:cntL (K.map Kid.tree)≤900000) (hown:FaceOk (faceK true m K)) :
  Calls Tryz.prog 21 #[v,.map (some Gb)] w (GO w (moF (faceK true m K) given K [] 1)):=by
 have c24:=kc25
 have c27:=kc28
 have c8:=kc89
 have hmm0:=@run_makeMap Tryz.prog
 have hmf:∀ (fn:Fn) (first cap:Array Value) (w:World),(Instr.makeFunc fn first cap).run Tryz.prog w=.ok (.func fn first cap) w:=fun _ _ _ _=>rfl
 unfold Lies at hv
 obtain ⟨a,c,rfl,_,hk⟩:=hv
 rw [List.length_map] at *
 have hKs:K≠[]→∃ g o,a=some ⟨g,o,none⟩∧g<w.heap.size∧LiesAt (·<w.heap.size) w (K.map Kid.tree) g o:=fun hne=>hk (by simpa using hne)
 clear hk
 obtain ⟨w4,hw4⟩:∃ w4,w4=((((w.alloc (.cells #[.int .i64 1,.string m,.int .i64 0,.slice a K.length c] 25)).alloc (.cells #[.int .i64 0,.int .i64 0] 28)).alloc (.map #[] 0)).alloc (.cells #[.int .i64 1,.string m,.int .i64 0,.slice a K.length c,.map (some Gb),.map (some (w.heap.size+1+1)),.slice none 0 0,.int .i64 0] 89)):=⟨_,rfl⟩
 have hs3:(((w.alloc (.cells #[.int .i64 1,.string m,.int .i64 0,.slice a K.length c] 25)).alloc (.cells #[.int .i64 0,.int .i64 0] 28)).alloc (.map #[] 0)).heap.size=w.heap.size+1+1+1:=by simp
 have hb4:Below w.heap.size w w4:=by rw [hw4];exact (((bal _).alloc (by simp) _).alloc (by simp;omega) _).alloc (by simp;omega) _
 have hbox:BoxC w4 (w.heap.size+1+1+1) #[.int .i64 1,.string m,.int .i64 0,.slice a K.length c,.map (some Gb),.map (some (w.heap.size+1+1)),.slice none 0 0,.int .i64 0] 89:=by
  have:=BoxC.new (((w.alloc (.cells #[.int .i64 1,.string m,.int .i64 0,.slice a K.length c] 25)).alloc (.cells #[.int .i64 0,.int .i64 0] 28)).alloc (.map #[] 0)) #[.int .i64 1,.string m,.int .i64 0,.slice a K.length c,.map (some Gb),.map (some (w.heap.size+1+1)),.slice none 0 0,.int .i64 0] 89
  rw [hs3] at this
  rw [hw4]
  exact this
 have bG:Box2 w4 (w.heap.size+1) (.int .i64 0) (.int .i64 0):=by
  have:=Box2.new (w.alloc (.cells #[.int .i64 1,.string m,.int .i64 0,.slice a K.length c] 25)) (.int .i64 0) (.int .i64 0) 28
  rw [World.size_alloc] at this
  rw [hw4]
  have hb:=((Below.refl ((w.alloc (.cells #[.int .i64 1,.string m,.int .i64 0,.slice a K.length c] 25)).alloc (.cells #[.int .i64 0,.int .i64 0] 28)).heap.size ((w.alloc (.cells #[.int .i64 1,.string m,.int .i64 0,.slice a K.length c] 25)).alloc (.cells #[.int .i64 0,.int .i64 0] 28))).alloc (jE _) (.map #[] 0)).alloc (by simp) (.cells #[.int .i64 1,.string m,.int .i64 0,.slice a K.length c,.map (some Gb),.map (some (w.heap.size+1+1)),.slice none 0 0,.int .i64 0] 89)
  exact this.below hb
 have hmp:MapF w4 (w.heap.size+1+1) 0 (fun _=>none):=by
  have:=MapF.made ((w.alloc (.cells #[.int .i64 1,.string m,.int .i64 0,.slice a K.length c] 25)).alloc (.cells #[.int .i64 0,.int .i64 0] 28))
  rw [World.size_alloc,World.size_alloc] at this
  rw [hw4]
  exact this.below (bal _)
 obtain ⟨w2,hw2⟩:∃ w2,w2=((w.alloc (.cells #[.int .i64 1,.string m,.int .i64 0,.slice a K.length c] 25)).alloc (.cells #[.int .i64 0,.int .i64 0] 28)):=⟨_,rfl⟩
 have hs2:w2.heap.size=w.heap.size+1+1:=by rw [hw2];simp
 have hb2:Below w.heap.size w w2:=by rw [hw2];exact (bal _).alloc (by simp) _
 have hb24:Below w2.heap.size w2 w4:=by rw [hw4,hw2];exact (bal _).alloc (by simp) _
 have h0:M0 w2 w4 (w.heap.size+1+1+1) Gb (w.heap.size+1+1) gn gf m a K.length c 0 :=
  ⟨hb24,by omega,hbox.cell 1 rfl,hbox.cell 3 rfl,hbox.cell 4 rfl,hbox.cell 5 rfl,hbox.cell 6 rfl,hbox.cell 7 rfl,fun k=>hbox.fz k,hmp,by omega,by omega,hasMax_below hmx hb2,mg.below hb2⟩
 have hM:=oModule given hG (fun z q hq=>(hGi z q hq).below hb2) hGok m K a c w4 h0 (fun hne=>by
  obtain ⟨g,o,e,hg,hat⟩:=hKs hne
  exact ⟨g,o,e,by omega,LiesAt.below hg hat hb2⟩) hKl hgood hps hcnt hown
 clear h0 hmp hbox hKs hG hGi hGok
 have bG2:Box2 w2 (w.heap.size+1) (.int .i64 0) (.int .i64 0):=by
  have:=Box2.new (w.alloc (.cells #[.int .i64 1,.string m,.int .i64 0,.slice a K.length c] 25)) (.int .i64 0) (.int .i64 0) 28
  rw [World.size_alloc] at this
  rw [hw2]
  exact this
 clear hw2 hb4 bG
 generalize moF (faceK true m K) given K [] 1=R at *
 go_enter_defers Tryz.func21,Tryz.ntmps21
 go_wp2_with (fail)
 rw [← hw4]
 refine hM.mono ?_
 clear hw4 hM hb24
 rintro e w5 ⟨hb5,hq⟩
 have bG5:=bG2.below hb5
 have hz:=bG5.lt
 have HK:Hid (Below w.heap.size w w5):=hb2.trans (hb5.mono hb2.size)
 cases R with
 | some q =>
  obtain rfl:e=.panicked (Thrown q.1 q.2):=hq
  have key:=gcatch (w.heap.size+1) q.1 q.2 w5 bG5.c0 bG5.c1 bG5.f0 bG5.f1 hz
  clear hb5
  go_wp2
  refine leaves_cons (f:=41) (args:=#[.pointer (some ⟨w.heap.size+1,0,none⟩)]) (by simp) (by simp [go_sem]) ?_
  refine key.mono ?_
  rintro e u' w6 ⟨rfl,rfl,c0,c1,hF6⟩
  have HK6:Below w.heap.size w w6:=⟨hF6.os.trans HK.out.os,hF6.tape.trans HK.out.tape,hF6.output.trans HK.out.output,Nat.le_trans HK.out.size hF6.size,fun j hj=>(hF6.block j (by have:=HK.out.size;omega) (by simp;omega)).trans (HK.out.block j hj)⟩
  refine ⟨.agg #[.int .i64 q.1,.int .i64 q.2],?_,?_⟩
  ·simp [results,Tryz.results21,go_sem,c0,c1]
  ·exact ⟨rfl,HK6⟩
 | none =>
  obtain rfl:e=.returned (.tuple #[]):=hq
  obtain ⟨s0,s1,s2,s3⟩:=id bG5
  have HK6:Hid (Below w.heap.size w ((w5.setCell ⟨w.heap.size+1,0,none⟩ (.int .i64 0)).setCell ⟨w.heap.size+1,1,none⟩ (.int .i64 0))):=(HK.out.setCell (Nat.le_succ _) _).setCell (Nat.le_succ _) _
  clear hb5
  go_wp2
  refine leaves_cons (f:=41) (args:=#[.pointer (some ⟨w.heap.size+1,0,none⟩)]) (by simp) (by simp [go_sem]) ?_
  refine (gcatch_idle _ _).mono ?_
  rintro e u' w6 ⟨rfl,rfl,hw6⟩
  subst hw6
  refine ⟨.agg #[.int .i64 0,.int .i64 0],?_,?_⟩
  ·simp [results,Tryz.results21,go_sem,s0,s1]
  ·exact ⟨rfl,HK6.out⟩
end
end chk
namespace face
open Go.RowKit Go.Maps
open syn
theorem hasBoth_below {w w':World} (h:HasBoth w) (hb:Below w.heap.size w w'):HasBoth w':=⟨lexs.hasErr_below h.1 hb,hasOps_below h.2 hb⟩
set_option maxHeartbeats 4000000 in
theorem oOf_bad (x:ByteArray) (w:World) (hH:HasBoth w) (hc:(parse x).code≠0) :
  Calls Tryz.prog 16 #[.string x] w (OfRes w noFace [] (parse x).code (parse x).place):=by
 have c24:=kc25
 have c27:=kc28
 have c3:Tryz.prog.cellsOf 44=3:=cell3
 have hB:=Joins.below_alloc2 w (.cells #[.string ⟨#[]⟩,.slice none 0 0,.slice none 0 0] 44) (.cells #[.int .i64 0,.int .i64 0] 28)
 have hP:=oparse x ((w.alloc (.cells #[.string ⟨#[]⟩,.slice none 0 0,.slice none 0 0] 44)).alloc (.cells #[.int .i64 0,.int .i64 0] 28)) (hasBoth_below hH hB)
 unfold PsOut at hP
 have hcb:((parse x).code==0)=false:=beq_false_of_ne hc
 have hcn:((parse x).code != 0)=true:=by simp [bne,hcb]
 generalize (parse x).code=cc at hP hc hcb hcn
 generalize (parse x).place=pp at hP
 generalize (parse x).tree=tt at hP
 have bF:=(Box3.new w (.string ⟨#[]⟩) (.slice none 0 0) (.slice none 0 0) 44).alloc (.cells #[.int .i64 0,.int .i64 0] 28)
 have bG:=Box2.new (w.alloc (.cells #[.string ⟨#[]⟩,.slice none 0 0,.slice none 0 0] 44)) (.int .i64 0) (.int .i64 0) 28
 rw [World.size_alloc] at bG
 go_enter Tryz.func16,Tryz.ntmps16
 go_wp2_with (go_at_call 12;refine hP.mono ?_;rintro e w1 ⟨v,rfl,hly,hb1⟩;obtain ⟨k0,x0,m0,a0,n0,d0,rfl⟩:=lies_shape hly;have bF1:=((bF.below hb1).alloc (.cells #[.int .i64 k0,.string x0,.int .i64 m0,.slice a0 n0 d0] 25)).alloc (.cells #[.int .i64 cc,.int .i64 pp] 28);have bG1:=((bG.below hb1).alloc (.cells #[.int .i64 k0,.string x0,.int .i64 m0,.slice a0 n0 d0] 25)).alloc (.cells #[.int .i64 cc,.int .i64 pp] 28);have hB2:=(hB.trans (hb1.mono hB.size)).trans ((Joins.below_alloc2 w1 (.cells #[.int .i64 k0,.string x0,.int .i64 m0,.slice a0 n0 d0] 25) (.cells #[.int .i64 cc,.int .i64 pp] 28)).mono (hB.trans (hb1.mono hB.size)).size);obtain ⟨t0,t1,t2,t3,t4,t5⟩:=id bF1;obtain ⟨s0,s1,s2,s3⟩:=id bG1)
 have hsz:w.heap.size+1<w1.heap.size:=(bG.below hb1).lt
 go_region
 all_goals
  go_wp2
  refine bodyPost_ret (v:=.tuple #[.agg #[.string ⟨#[]⟩,.slice none 0 0,.slice none 0 0],.slice none 0 0,.agg #[.int .i64 cc,.int .i64 pp]]) (by simp [results,Tryz.results16,go_sem,t0,t1,t2,s0,s1]) rfl ⟨_,_,rfl,noFace_in _,noStrs_in _,?_⟩
  exact (((((hB2.setCell (jE _) _).setCell (jE _) _).setCell (jE _) _).setCell (Nat.le_succ _) _).setCell (Nat.le_succ _) _).drew
theorem of_put {w w5:World} {X:Nat→Prop} {B:Nat} {vv pv iv:Value} {V:List VarD} {P:List (ProcD × Value)} {L:List ByteArray} (hB:w.heap.size+2≤B) (hF:FR X B w5 vv pv V P) (hi:w5.ownsRow B 9 1 iv L.length (strV L)) (hb:Below w.heap.size w w5) (x y z p q:Value) :
  FR X B (((((w5.setCell ⟨w.heap.size,0,none⟩ x).setCell ⟨w.heap.size,1,none⟩ y).setCell ⟨w.heap.size,2,none⟩ z).setCell ⟨w.heap.size+1,0,none⟩ p).setCell ⟨w.heap.size+1,1,none⟩ q) vv pv V P ∧
  (((((w5.setCell ⟨w.heap.size,0,none⟩ x).setCell ⟨w.heap.size,1,none⟩ y).setCell ⟨w.heap.size,2,none⟩ z).setCell ⟨w.heap.size+1,0,none⟩ p).setCell ⟨w.heap.size+1,1,none⟩ q).ownsRow B 9 1 iv L.length (strV L) ∧
  Below w.heap.size w (((((w5.setCell ⟨w.heap.size,0,none⟩ x).setCell ⟨w.heap.size,1,none⟩ y).setCell ⟨w.heap.size,2,none⟩ z).setCell ⟨w.heap.size+1,0,none⟩ p).setCell ⟨w.heap.size+1,1,none⟩ q):=by
 refine ⟨?_,?_,?_⟩
 ·exact ((((hF.set (M:=w.heap.size) (o:=0) (by omega) x).set (M:=w.heap.size) (o:=1) (by omega) y).set (M:=w.heap.size) (o:=2) (by omega) z).set (M:=w.heap.size+1) (o:=0) (by omega) p).set (M:=w.heap.size+1) (o:=1) (by omega) q
 ·have n0:iv.ownBlock≠some w.heap.size:=fun e=>by have:=(hi.lt _ e).1;omega
  have n1:iv.ownBlock≠some (w.heap.size+1):=fun e=>by have:=(hi.lt _ e).1;omega
  exact ownsRow_setCell_other (a:=⟨w.heap.size+1,1,none⟩) (ownsRow_setCell_other (a:=⟨w.heap.size+1,0,none⟩) (ownsRow_setCell_other (a:=⟨w.heap.size,2,none⟩) (ownsRow_setCell_other (a:=⟨w.heap.size,1,none⟩) (ownsRow_setCell_other (a:=⟨w.heap.size,0,none⟩) hi n0 x) n0 y) n0 z) n1 p) n1 q
 ·exact ((((hb.setCell (jE _) _).setCell (jE _) _).setCell (jE _) _).setCell (Nat.le_succ _) _).setCell (Nat.le_succ _) _
theorem DeclOut.bad {w:World} {m:ByteArray} {K:List Kid} {q:Int × Int} {e:Ending} {w':World} (hq:lookD K [m] [] 1=some q):DeclOut w m K e w' ↔ (e=.returned (.tuple #[.agg #[.string ⟨#[]⟩,.slice none 0 0,.slice none 0 0],.slice none 0 0,.agg #[.int .i64 q.1,.int .i64 q.2]])∧Below w.heap.size w w'):=by
 unfold DeclOut;rw [hq]
theorem DeclOut.ok {w:World} {m:ByteArray} {K:List Kid} {e:Ending} {w':World} (hq:lookD K [m] [] 1=none):DeclOut w m K e w' ↔ ∃ (X:Nat→Prop) (B:Nat) (vv pv iv:Value) (P:List (ProcD × Value)),w.heap.size≤B∧e=.returned (.tuple #[.agg #[.string m,vv,pv],iv,.agg #[.int .i64 0,.int .i64 0]])∧FR X B w' vv pv (varsK false K) P∧P.map (·.1)=procsK false K∧(namesK K).length≤20∧w'.ownsRow B 9 1 iv (importsK K).length (strV (importsK K))∧Below w.heap.size w w':=by
 unfold DeclOut;rw [hq]
set_option maxHeartbeats 8000000 in
theorem oOf_ok (x:ByteArray) (m:ByteArray) (K:List Kid) (w:World) (hH:HasBoth w) (hc:(parse x).code=0) (ht:(parse x).tree=.node 1 m 0 (K.map Kid.tree)) (hm16:m.size≤16) (hgood:∀ k∈K,k.good) (hK:cntL (K.map Kid.tree)≤1000) (hps:∀ k∈K,k.kids.length≤1000) :
  Calls Tryz.prog 16 #[.string x] w (DeclOut w m K):=by
 have c24:=kc25
 have c27:=kc28
 have c3:Tryz.prog.cellsOf 44=3:=cell3
 have hB:=Joins.below_alloc2 w (.cells #[.string ⟨#[]⟩,.slice none 0 0,.slice none 0 0] 44) (.cells #[.int .i64 0,.int .i64 0] 28)
 have hP:=oparse x ((w.alloc (.cells #[.string ⟨#[]⟩,.slice none 0 0,.slice none 0 0] 44)).alloc (.cells #[.int .i64 0,.int .i64 0] 28)) (hasBoth_below hH hB)
 unfold PsOut at hP
 rw [hc,ht] at hP
 generalize (parse x).place=pp at hP
 clear hc ht
 have bF:=(Box3.new w (.string ⟨#[]⟩) (.slice none 0 0) (.slice none 0 0) 44).alloc (.cells #[.int .i64 0,.int .i64 0] 28)
 have bG:=Box2.new (w.alloc (.cells #[.string ⟨#[]⟩,.slice none 0 0,.slice none 0 0] 44)) (.int .i64 0) (.int .i64 0) 28
 rw [World.size_alloc] at bG
 go_enter Tryz.func16,Tryz.ntmps16
 go_wp2_with first
  | (go_at_call 12;refine hP.mono ?_;rintro e w1 ⟨v,rfl,hly,hb1⟩;obtain ⟨a0,d0,rfl,hlyN⟩:=mod_shape hly;have hW0:=hB.trans (hb1.mono hB.size);have hWa:=Joins.below_alloc2 w1 (.cells #[.int .i64 1,.string m,.int .i64 0,.slice a0 K.length d0] 25) (.cells #[.int .i64 0,.int .i64 pp] 28);have hW:=hW0.trans (hWa.mono hW0.size);have hlyW:=hlyN.below hWa;have bFn:=(bF.below hb1).below hWa;have bGn:=(bG.below hb1).below hWa;have hsz:w.heap.size+1<w1.heap.size:=(bG.below hb1).lt;have hD:=oDeclare m K _ _ hlyW hm16 hgood hK hps)
  | fail
 cases hq:lookD K [m] [] 1 with
 | some q =>
  refine hD.mono ?_
  intro e w4 h4
  rw [DeclOut.bad hq] at h4
  obtain ⟨rfl,hb4⟩:=h4
  obtain ⟨t0,t1,t2,t3,t4,t5⟩:=bFn.below hb4
  obtain ⟨s0,s1,s2,s3⟩:=bGn.below hb4
  have HB:Hid (Below w.heap.size w w4):=hW.trans (hb4.mono hW.size)
  have HQ:Hid (lookD K [m] [] 1=some q):=hq
  clear hq bF bG bFn bGn hP hD hb4 hW hW0 hWa hB
  go_wp2
  refine bodyPost_ret (v:=.tuple #[.agg #[.string ⟨#[]⟩,.slice none 0 0,.slice none 0 0],.slice none 0 0,.agg #[.int .i64 q.1,.int .i64 q.2]]) (by simp [results,Tryz.results16,go_sem,t0,t1,t2,s0,s1]) rfl ?_
  rw [DeclOut.bad HQ.out]
  exact ⟨rfl,((((HB.out.setCell (jE _) _).setCell (jE _) _).setCell (jE _) _).setCell (Nat.le_succ _) _).setCell (Nat.le_succ _) _⟩
 | none =>
  refine hD.mono ?_
  intro e w4 h4
  rw [DeclOut.ok hq] at h4
  obtain ⟨X,B,vv,pv,iv,P,hBB,rfl,hF,hPm,hn,hi,hb4⟩:=h4
  obtain ⟨av,cv,rfl⟩:=hF.shapeV
  obtain ⟨ap,cp,rfl⟩:=hF.shapeP
  obtain ⟨ai,ci,rfl,_,_⟩:=lexs.own_shape hi
  obtain ⟨t0,t1,t2,t3,t4,t5⟩:=bFn.below hb4
  obtain ⟨s0,s1,s2,s3⟩:=bGn.below hb4
  have hsw:w1.heap.size≤B:=by have:=hWa.size;omega
  have HF:Hid _:=of_put (w:=w) (by omega) hF hi (hW.trans (hb4.mono hW.size)) (.string m) (.slice av (varsK false K).length cv) (.slice ap P.length cp) (.int .i64 0) (.int .i64 0)
  have HP:Hid (P.map (·.1)=procsK false K∧(namesK K).length≤20∧w.heap.size≤B):=⟨hPm,hn,by omega⟩
  have HQ:Hid (lookD K [m] [] 1=none):=hq
  clear hq bF bG bFn bGn hP hD hb4 hW hW0 hWa hB hF hi hPm hn
  go_wp2
  refine bodyPost_ret (v:=.tuple #[.agg #[.string m,.slice av (varsK false K).length cv,.slice ap P.length cp],.slice ai (importsK K).length ci,.agg #[.int .i64 0,.int .i64 0]]) (by simp [results,Tryz.results16,go_sem,t0,t1,t2,s0,s1]) rfl ?_
  rw [DeclOut.ok HQ.out]
  exact ⟨X,B,_,_,_,P,HP.out.2.2,rfl,HF.out.1,HP.out.1,HP.out.2.1,HF.out.2⟩
end face
namespace face
open lexs syn
structure Fine (t:Tok):Prop where
 kinds:t.kind=1∨t.kind=2∨t.kind=3
 ne:t.text≠[]
 word:t.kind=1→t.text.length≤16∧ltrB (t.text.headD 0)=true∧t.text.all insB=true
 num:t.kind=2→numE t.text=0
 sign:t.kind=3→ltrB (t.text.headD 0)=false
theorem take_run (p:UInt8→Bool) (l:List UInt8):l.take (run p l)=l.takeWhile p:=by
 unfold run
 induction l with
 | nil=>rfl
 | cons b r ih =>
  rw [List.takeWhile_cons]
  cases p b
  ·rfl
  ·simp [ih]
theorem step_fine {b:UInt8} {r:List UInt8} {K:Int} {n i:Nat} (h:stepL (b :: r)=.tok K n):Fine ⟨K,(b :: r).take n,i⟩:=by
 have hn:=(stepL_tok h).1
 obtain ⟨m,rfl⟩:∃ m,n=m+1:=⟨n - 1,by omega⟩
 have hh:((b :: r).take (m+1)).headD 0=b:=by simp
 have hne:(b :: r).take (m+1)≠[]:=by simp
 rw [stepL,List.headD_cons,stepB] at h
 by_cases h1:(b==32||b==10)=true
 ·rw [if_pos h1] at h;simp at h
 rw [if_neg h1] at h
 by_cases h2:(b==35)=true
 ·rw [if_pos h2] at h;simp at h
 rw [if_neg h2] at h
 cases h3:ltrB b
 ·rw [h3] at h
  simp only [Bool.false_eq_true,if_false] at h
  cases h4:digB b
  ·rw [h4] at h
   simp only [Bool.false_eq_true,if_false] at h
   split at h
   ·simp at h
   ·injection h with hk hm
    subst hk
    refine ⟨.inr (.inr rfl),hne,fun e=>by simp at e,fun e=>by simp at e,fun _=>?_⟩
    show ltrB (((b :: r).take (m+1)).headD 0)=false
    rw [hh]
    exact h3
  ·rw [h4] at h
   simp only [if_true] at h
   split at h
   ·rename_i he
    injection h with hk hm
    subst hk
    refine ⟨.inr (.inl rfl),hne,fun e=>by simp at e,fun _=>?_,fun e=>by simp at e⟩
    rw [← hm]
    simpa using he
   ·simp at h
 ·rw [h3] at h
  simp only [if_true] at h
  split at h
  ·simp at h
  ·rename_i h16
   injection h with hk hm
   subst hk
   refine ⟨.inl rfl,hne,fun _=>⟨?_,?_,?_⟩,fun e=>by simp at e,fun e=>by simp at e⟩
   ·show ((b :: r).take (m+1)).length≤16
    rw [List.length_take]
    omega
   ·show ltrB (((b :: r).take (m+1)).headD 0)=true
    rw [hh]
    exact h3
   ·show ((b :: r).take (m+1)).all insB=true
    rw [← hm,take_run]
    exact List.all_takeWhile
theorem scanL_fine:∀ (f:Nat) (l:List UInt8) (i:Nat) (acc toks:List Tok),scanL f l i acc=.ok toks→(∀ t∈acc,Fine t)→∀ t∈toks,Fine t
 | 0,l,i,acc,toks,h,ha=>by
  unfold scanL at h
  injection h with h
  subst h
  exact ha
 | f+1,[],i,acc,toks,h,ha=>by
  unfold scanL at h
  injection h with h
  subst h
  exact ha
 | f+1,b :: r,i,acc,toks,h,ha=>by
  cases hs:stepL (b :: r) with
  | skip n=>rw [scanL_skip hs] at h;exact scanL_fine f _ _ _ _ h ha
  | fault c=>rw [scanL_fault hs] at h;simp at h
  | tok k n =>
   rw [scanL_tok hs] at h
   refine scanL_fine f _ _ _ _ h ?_
   intro t ht
   rw [List.mem_append] at ht
   rcases ht with ht | ht
   ·exact ha t ht
   ·simp only [List.mem_singleton] at ht
    subst ht
    exact step_fine hs
theorem scan_fine {l:List UInt8} {toks:List Tok} (h:scan l=.ok toks):∀ t∈toks,Fine t:=by
 unfold scan at h
 split at h
 ·simp at h
 ·exact scanL_fine _ _ _ _ _ h (fun t ht=>by simp at ht)
def raw (t:Tok):ByteArray:=⟨t.text.toArray⟩
theorem raw_list (t:Tok):(raw t).data.toList=t.text:=rfl
theorem raw_size (t:Tok):(raw t).size=t.text.length:=by rw [← lexs.len_L,raw_list]
def ownName (t:Tok):Bool:=!(reserved.any fun y=>eqS y (raw t))&&t.kind==1
theorem bytes_ext {x y:ByteArray} (h:x.data.toList=y.data.toList):x=y:=WideShapes.bytes_inj h
theorem eqS_iff {x y:ByteArray}:eqS x y=true ↔ x=y:=by
 unfold eqS
 rw [beq_iff_eq,ByteArray.toList_eq,ByteArray.toList_eq]
 exact ⟨bytes_ext,fun h=>by rw [h]⟩
def tellsL (x:ByteArray):List Tok→Bool
 | [t]=>ownName t&&eqS (raw t) x
 | _=>false
def tells (x:ByteArray):Bool:=tellsL x (scan x.data.toList).toks
theorem isName_fine {t:Tok} (hg:Fine t) (h:ownName t=true):isName (raw t)=true:=by
 unfold ownName at h
 simp only [Bool.and_eq_true,beq_iff_eq] at h
 obtain ⟨h1,h2,h3⟩:=hg.word h.2
 have hsz:1≤(raw t).size:=by
  rw [raw_size]
  have:=hg.ne
  cases hl:t.text with
  | nil=>exact absurd hl this
  | cons b r=>simp
 unfold isName
 rw [raw_list]
 have hl:ltrI ((t.text.headD 0).toNat:Int)=true:=h2
 have ha:t.text.all (fun c=>insI (c.toNat:Int))=true:=h3
 rw [hl,ha,decide_eq_true ⟨hsz,by rw [raw_size];exact h1⟩,h.1]
 rfl
theorem run_all {l:List UInt8} (h:l.all insB=true):run insB l=l.length:=by
 apply run_eq
 ·intro j hj _
  exact List.all_eq_true.1 h _ (List.getElem_mem hj)
 ·exact .inl rfl
theorem scan_name {x:ByteArray} (h:isName x=true):scan x.data.toList=.ok [⟨1,x.data.toList,0⟩]:=by
 unfold isName at h
 simp only [Bool.and_eq_true,decide_eq_true_eq] at h
 obtain ⟨⟨⟨⟨h1,h16⟩,hl⟩,ha⟩,_⟩:=h
 have hlen:x.data.toList.length=x.size:=lexs.len_L x
 unfold scan
 rw [if_neg (by omega)]
 cases hx:x.data.toList with
 | nil=>rw [hx] at hlen;simp at hlen;omega
 | cons b r =>
  rw [hx] at hl ha hlen
  have hlb:ltrB b=true:=hl
  have hrun:run insB (b :: r)=(b :: r).length:=run_all ha
  have hb32:(b==32||b==10)=false:=by
   cases hb:(b==32||b==10) with
   | false=>rfl
   | true =>
    simp only [Bool.or_eq_true,beq_iff_eq] at hb
    rcases hb with rfl | rfl<;>simp [ltrB,ltrI] at hlb
  have hb35:(b==35)=false:=by
   cases hb:(b==35) with
   | false=>rfl
   | true =>
    simp only [beq_iff_eq] at hb
    subst hb
    simp [ltrB,ltrI] at hlb
  have hs:stepL (b :: r)=.tok 1 (b :: r).length:=by
   rw [stepL,List.headD_cons,stepB,hb32,hb35,hlb,hrun]
   simp only [Bool.false_eq_true,if_false,if_true]
   rw [if_neg (by omega)]
  rw [List.length_cons] at hs ⊢
  rw [scanL_tok hs]
  rw [List.drop_eq_nil_of_le (by simp),scanL_end,List.take_of_length_le (by simp)]
  rfl
theorem tells_eq (x:ByteArray):tells x=isName x:=by
 unfold tells
 cases hn:isName x with
 | true =>
  rw [scan_name hn]
  show (ownName _&&eqS _ x)=true
  have e:raw ⟨1,x.data.toList,0⟩=x:=bytes_ext rfl
  rw [e]
  unfold ownName
  rw [e]
  unfold isName at hn
  simp only [Bool.and_eq_true] at hn
  rw [hn.2,eqS_iff.2 rfl]
  rfl
 | false =>
  cases hs:scan x.data.toList with
  | err c p=>rfl
  | ok l =>
   show tellsL x l=false
   match l,hs with
   | [],_=>rfl
   | [t],hs =>
    show (ownName t&&eqS (raw t) x)=false
    cases ho:ownName t with
    | false=>rfl
    | true =>
     cases he:eqS (raw t) x with
     | false=>rfl
     | true =>
      have h1:=isName_fine (scan_fine hs t (by simp)) ho
      rw [eqS_iff.1 he,hn] at h1
      cases h1
   | _ :: _ :: _,_=>rfl
end face
end Go.Proofs.YtfopddgjdaoidaaGreatDoor
