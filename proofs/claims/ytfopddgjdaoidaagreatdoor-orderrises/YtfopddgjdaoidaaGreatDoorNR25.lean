/- What Order's check answers: a contract. (Written by mkordchk.py.) -/
import Derived.Test.YtfopddgjdaoidaaGreatDoorNR24
set_option linter.unusedVariables false
set_option linter.unusedSimpArgs false
set_option maxRecDepth 100000
namespace Go.Proofs.YtfopddgjdaoidaaGreatDoor
namespace ord
open Go.RowKit Go.Shelf Go.Maps Go.WideMaps
open syn face chk
set_option maxHeartbeats 1000000 in
theorem oIsMain (nm:ByteArray) (pb gv:Bool) (a:Option Addr) (n c:Nat) (wr gn:Int) (w:World) :
  Calls Tryz.prog 128 #[.agg #[.string nm,.bool pb,.slice a n c,.int .i64 wr,.bool gv,.int .i64 gn]] w fun e w'=>e=.returned (.bool (eqS nm ⟨#[109,97,105,110]⟩&&n==0&&wr==0&&!gv))∧Below w.heap.size w w':=by
 have c6:=kc80
 have hA:=(Below.refl w.heap.size w).alloc (jE _) (.cells #[.string nm,.bool pb,.slice a n c,.int .i64 wr,.bool gv,.int .i64 gn] 80)
 by_cases h1:nm.toList=[109,97,105,110]
 rotate_left
 ·have HM:Hid (eqS nm ⟨#[109,97,105,110]⟩=false):=by show _=_;rw [show eqS nm ⟨#[109,97,105,110]⟩=(nm.toList==[109,97,105,110]) from face.eqS_lit nm [109,97,105,110]];simpa using h1
  go_enter Tryz.func128,Tryz.ntmps128
  go_wp2
  go_ret
  exact ⟨by rw [HM.out];rfl,hA⟩
 ·have HM:Hid (eqS nm ⟨#[109,97,105,110]⟩=true):=by show _=_;rw [show eqS nm ⟨#[109,97,105,110]⟩=(nm.toList==[109,97,105,110]) from face.eqS_lit nm [109,97,105,110]];simpa using h1
  by_cases h2:n=0
  ·subst h2
   by_cases h3:wr=0
   ·subst h3
    cases gv
    ·go_enter Tryz.func128,Tryz.ntmps128
     go_wp2
     go_ret
     exact ⟨by rw [HM.out];rfl,hA⟩
    ·go_enter Tryz.func128,Tryz.ntmps128
     go_wp2
     go_ret
     exact ⟨by rw [HM.out];rfl,hA⟩
   ·have HE:Hid ((wr==0)=false):=by show _=_;simp [h3]
    go_enter Tryz.func128,Tryz.ntmps128
    go_wp2
    go_ret
    exact ⟨by rw [HM.out,HE.out];rfl,hA⟩
  ·have HE:Hid ((n==0)=false):=by show _=_;simp [h2]
   have h2':¬ ((n:Int)=0):=by omega
   go_enter Tryz.func128,Tryz.ntmps128
   go_wp2
   go_ret
   exact ⟨by rw [HM.out,HE.out];rfl,hA⟩
set_option maxHeartbeats 1000000 in
theorem oIndexP (l:List ProcD) (v:Value) (w:World) (hv:ProcsIn w v l) :
  Calls Tryz.prog 154 #[v,.func (.func 128) #[] #[]] w fun e w'=>∃ k:Int,e=.returned (.int .i64 k)∧decide (0≤k)=l.any isMainB∧Below w.heap.size w w':=by
 have c6:=kc80
 have hl:l.length≤4611686018427387903:=by obtain ⟨_,_,_,h,_⟩:=hv;exact h
 obtain ⟨ia,ic,rfl⟩:∃ a c,v=.slice a l.length c:=by obtain ⟨a,c,e,_⟩:=hv;exact ⟨a,c,e⟩
 go_enter Tryz.func154,Tryz.ntmps154
 go_wp2
 go_loopw [8] (fun u wr=>∃ k:Nat,k≤l.length∧u=.int .i64 k∧Below w.heap.size w wr∧Hid (∀ j (hj:j<l.length),j<k→isMainB l[j]=false)) (fun u _=>l.length - (intOf u).toNat)
 case atStart=>exact ⟨0,Nat.zero_le _,rfl,Below.refl _ _,fun j _ hj=>by omega⟩
 case round =>
  obtain ⟨k,hkl,rfl,hBr,HN⟩:=hrel
  by_cases hlt:k<l.length
  ·obtain ⟨g,o,rfl,q0,q1,⟨u,q2,hu⟩,q3,q4,q5⟩:∃ g o,ia=some ⟨g,o,none⟩∧wr.cell? ⟨g,o+k*6,none⟩=some (.string l[k].name)∧wr.cell? ⟨g,o+k*6+1,none⟩=some (.bool l[k].pub) ∧
  (∃ u,wr.cell? ⟨g,o+k*6+2,none⟩=some u∧IntsIn wr u l[k].params) ∧
  wr.cell? ⟨g,o+k*6+3,none⟩=some (.int .i64 l[k].writes)∧wr.cell? ⟨g,o+k*6+4,none⟩=some (.bool l[k].gives)∧wr.cell? ⟨g,o+k*6+5,none⟩=some (.int .i64 l[k].given):=by
    obtain ⟨a',c',e',_,hk'⟩:=hv.below hBr
    obtain ⟨g',o',e2,hc⟩:=hk' (by intro e;rw [e] at hlt;simp at hlt)
    injection e' with e1
    exact ⟨g',o',e1.trans e2,hc k hlt⟩
   obtain ⟨pa,pc,rfl,-,-⟩:=hu
   have hct:=oIsMain l[k].name l[k].pub l[k].gives pa l[k].params.length pc l[k].writes l[k].given wr
   generalize hV:(eqS l[k].name ⟨#[109,97,105,110]⟩&&l[k].params.length==0&&l[k].writes==0&&!l[k].gives)=V at hct
   cases V
   ·have HE:Hid (isMainB l[k]=false):=hV
    clear hV
    generalize l[k].params.length=pn at *
    generalize l[k].name=d0 at *
    generalize l[k].pub=d1 at *
    generalize l[k].writes=d3 at *
    generalize l[k].gives=d4 at *
    generalize l[k].given=d5 at *
    go_wp2_with (go_at_call 128;refine hct.mono ?_;rintro e w2 ⟨rfl,hb2⟩)
    go_roundw
    case rel=>exact ⟨k+1,by omega,by go_num,hBr.trans (hb2.mono hBr.size),fun j hj h1=>by
     rcases Nat.lt_or_ge j k with h | h
     ·exact HN.out j hj h
     ·have:j=k:=by omega
      subst this
      exact HE.out⟩
    case measure=>simp [intOf];omega
   ·have HE:Hid (l.any isMainB=true):=any_one hlt hV
    clear hV
    generalize l[k].params.length=pn at *
    generalize l[k].name=d0 at *
    generalize l[k].pub=d1 at *
    generalize l[k].writes=d3 at *
    generalize l[k].gives=d4 at *
    generalize l[k].given=d5 at *
    go_wp2_with (go_at_call 128;refine hct.mono ?_;rintro e w2 ⟨rfl,hb2⟩)
    go_ret
    exact ⟨(k:Int),rfl,by rw [HE.out];simp,hBr.trans (hb2.mono hBr.size)⟩
  ·have HE:Hid (l.any isMainB=false):=any_none (fun j hj=>HN.out j hj (by omega))
   clear HN
   go_wp2
   go_ret
   exact ⟨-1,rfl,by rw [HE.out];rfl,hBr⟩
theorem oContainsP (l:List ProcD) (v:Value) (w:World) (hv:ProcsIn w v l) :
  Calls Tryz.prog 127 #[v,.func (.func 128) #[] #[]] w fun e w'=>e=.returned (.bool (l.any isMainB))∧Below w.heap.size w w':=by
 have h:=oIndexP l v w hv
 obtain ⟨ia,ic,rfl⟩:∃ a c,v=.slice a l.length c:=by obtain ⟨a,c,e,_⟩:=hv;exact ⟨a,c,e⟩
 generalize l.any isMainB=V at *
 go_enter Tryz.func127,Tryz.ntmps127
 go_wp2_with (fail)
 refine h.mono ?_
 rintro e w1 ⟨k,rfl,hi,hw⟩
 go_wp2
 go_ret
 exact ⟨by rw [← hi];rfl,hw⟩
def MnE (w:World) (xs:List ByteArray) (e:Ending) (w':World):Prop :=
 Below w.heap.size w w'∧((∃ t,mainF xs=some t∧e=.panicked (ThrownT t))∨(mainF xs=none∧e=.returned (.tuple #[])))
theorem names_is {L:List MD} {xs:List ByteArray} (h:L.map (·.x)=xs):xs.map nameOf=nmOf L:=by
 rw [← h]
 simp [nmOf]
theorem imps_is {L:List MD} {xs:List ByteArray} (h:L.map (·.x)=xs):(xs.map fun x=>(tx x).I)=imOf L:=by
 rw [← h]
 simp [imOf]
theorem at_is {L:List MD} {xs:List ByteArray} (h:L.map (·.x)=xs) {i:Nat} (hi:i<L.length) (d:ByteArray):xs.getD i d=L[i].x:=by
 rw [← h]
 simp [hi]
set_option maxHeartbeats 1000000 in
theorem oFindMain (D:Nat) (mv:Value) (L:List MD) (xs:List ByteArray) (hx:L.map (·.x)=xs) (h6:L.length≤6) (w:World) (hP:PS w D mv L L.length (numF (nmOf L))) :
  Calls Tryz.prog 78 #[.pointer (some ⟨D+1,0,none⟩)] w (MnE w xs):=by
 have c5:=kc172
 have c3:Tryz.prog.cellsOf 44=3:=cell3
 have m0:=hP.box.cell 0 rfl
 have m1:=hP.box.cell 1 rfl
 have hlk:=map_look2 hP.map ⟨#[109,97,105,110]⟩ (by unfold maxLen;decide)
 have HM:Hid (mainF xs=match numF (nmOf L) ⟨#[109,97,105,110]⟩ with
   | none=>some (0,4,0)
   | some i=>if (tx (xs.getD i ⟨#[]⟩)).F.procs.any isMainB then none else some (0,4,0)):=by
  show _=_
  unfold mainF
  rw [names_is hx]
  cases numF (nmOf L) ⟨#[109,97,105,110]⟩<;>rfl
 cases hf:numF (nmOf L) ⟨#[109,97,105,110]⟩ with
 | none =>
  rw [hf] at hlk HM
  go_enter Tryz.func78,Tryz.ntmps78
  go_wp2_with (go_at_call 120;refine (oRefuse _ _ _ _).mono ?_;rintro e w2 ⟨rfl,hw2⟩;obtain rfl:=hw2.symm)
  exact ⟨rfl,Below.refl _ _,.inl ⟨_,HM.out,rfl⟩⟩
 | some i =>
  obtain ⟨hi,_⟩:=numF_at hf
  have hi':i<L.length:=by simpa [nmOf] using hi
  rw [hf] at hlk HM
  replace HM:Hid (mainF xs=if (tx L[i].x).F.procs.any isMainB then none else some (0,4,0)):=by
   show _=_
   rw [HM.out]
   show (if (tx (xs.getD i ⟨#[]⟩)).F.procs.any isMainB then none else some (0,4,0))=_
   rw [at_is hx hi']
  obtain ⟨g,mc,rfl⟩:=hP.slot (by omega)
  obtain ⟨_,_,_,q3,_⟩:=hP.at i hi'
  obtain ⟨⟨vv,pv,e1,hv,hp⟩,_,_⟩:=hP.md (List.getElem_mem hi')
  unfold fvV MD.q at e1
  injection e1 with e1
  simp only [List.toArray_eq_toArray_eq,Array.mk.injEq,List.cons.injEq,and_true] at e1
  obtain ⟨_,_,rfl⟩:=e1
  have hct:=oContainsP _ _ _ hp
  change Calls Tryz.prog _ _ _ (fun e w'=>e=.returned (.bool ((tx L[i].x).F.procs.any isMainB))∧_) at hct
  generalize (tx L[i].x).F.procs.any isMainB=V at *
  generalize L[i].pv=pv at *
  obtain ⟨pa,pn,pc,rfl⟩:∃ a n c,pv=.slice a n c:=by obtain ⟨a,c,e,_⟩:=hp;exact ⟨a,_,c,e⟩
  clear hp hv
  cases V
  ·go_enter Tryz.func78,Tryz.ntmps78
   go_wp2_with first
    | (go_at_call 127;refine hct.mono ?_;rintro e w2 ⟨rfl,hb2⟩)
    | (go_at_call 120;refine (oRefuse _ _ _ _).mono ?_;rintro e w3 ⟨rfl,hw2⟩;obtain rfl:=hw2.symm)
   exact ⟨rfl,hb2,.inl ⟨_,HM.out,rfl⟩⟩
  ·go_enter Tryz.func78,Tryz.ntmps78
   go_wp2_with (go_at_call 127;refine hct.mono ?_;rintro e w2 ⟨rfl,hb2⟩)
   go_end0
   exact ⟨hb2,.inr ⟨HM.out,rfl⟩⟩
def qOf (L:List MD) (d:MD) (y:ByteArray):FV:=(L.getD (numD (nmOf L) y) d).q
theorem imps_q {L:List MD} {xs:List ByteArray} (h:L.map (·.x)=xs) (d:MD):((tx d.x).I.map (qOf L d)).map (·.1)=impsF xs d.x:=by
 unfold impsF
 rw [List.map_map]
 apply List.map_congr_left
 intro y hy
 have key:∀ k,(L.getD k d).x=xs.getD k d.x:=fun k=>by
  subst h
  simp only [List.getD_eq_getElem?_getD,List.getElem?_map]
  cases L[k]?<;>rfl
 show (tx (L.getD (numD (nmOf L) y) d).x).F=_
 rw [names_is h,key]
theorem faces_own {w:World} {b:Nat} {fv:Value} {qs:List FV} (h:w.ownsRow b 44 3 fv qs.length (faceCells qs)) (hl:qs.length≤900) (hq:∀ q∈qs,FaceIn w (fvV q) q.1∧q.1.module.size≤16):FacesIn w fv qs:=by
 rcases h.2 with ⟨rfl,hn⟩|⟨g,cap,cur,rfl,_,_,h1,h2,_⟩
 ·exact ⟨none,0,by rw [hn],by omega,fun h=>absurd (List.eq_nil_of_length_eq_zero hn) h⟩
 ·refine ⟨some ⟨g,0,none⟩,cap,rfl,by omega,fun _=>⟨g,0,rfl,fun i hi=>?_⟩⟩
  obtain ⟨k0,k1,k2⟩:=faceCells_at qs i hi
  obtain ⟨hf,hm⟩:=hq _ (List.getElem_mem hi)
  simp only [Nat.zero_add]
  exact ⟨by rw [h.cellAt _ (by omega)];exact k0,by rw [h.cellAt _ (by omega)];exact k1,by rw [h.cellAt _ (by omega)];exact k2,hf,by unfold maxLen;omega⟩
theorem faceCells_snoc (l:List FV) (q:FV):faceCells (l++[q])=faceCells l++fcells q:=by simp [faceCells]
def ImE (w:World) (L:List MD) (d:MD) (e:Ending) (w':World):Prop :=
 ∃ fv,e=.returned fv∧FacesIn w' fv ((tx d.x).I.map (qOf L d))∧Below w.heap.size w w'
set_option maxHeartbeats 4000000 in
theorem oImported (D:Nat) (mv:Value) (L:List MD) (w:World) (hP:PS w D mv L L.length (numF (nmOf L))) (h6:L.length≤6) (d:MD) (hd:MdIn w d) (hin:∀ y∈(tx d.x).I,among (nmOf L) y=true) :
  Calls Tryz.prog 126 #[.pointer (some ⟨D+1,0,none⟩),.agg #[.string d.x,.string (nameOf d.x),d.vv,d.pv,d.iv]] w (ImE w L d):=by
 have c5:=kc172
 have c3:Tryz.prog.cellsOf 44=3:=cell3
 obtain ⟨i0,hi,hz0,hz1,hz2⟩:=info_parts infoF
 obtain ⟨hsm,hil⟩:=I_small hd.2.2
 obtain ⟨ua,n1,uc,pa,n2,pc,ia,ic,e1,e2,e3⟩:=hd.shape
 have hst:StrsIn w d.iv (tx d.x).I:=hd.2.1
 unfold ImE
 generalize hqs:(tx d.x).I.map (qOf L d)=qs
 have hql:qs.length=(tx d.x).I.length:=by rw [← hqs];simp
 have hqy:∀ k (h:k<(tx d.x).I.length),qs[k]?=some (qOf L d (tx d.x).I[k]):=fun k h=>by rw [← hqs];simp [h]
 rw [e3] at hst
 rw [e1,e2,e3]
 clear hd e1 e2 e3
 generalize (tx d.x).I=I at *
 generalize nameOf d.x=nm at *
 generalize d.x=x at *
 have hA:=(Below.refl w.heap.size w).alloc (jE _) (.cells #[.string x,.string nm,.slice ua n1 uc,.slice pa n2 pc,.slice ia I.length ic] 172)
 obtain ⟨b,hb⟩:∃ b,b=w.heap.size+1:=⟨_,rfl⟩
 have hsz:(w.alloc (.cells #[.string x,.string nm,.slice ua n1 uc,.slice pa n2 pc,.slice ia I.length ic] 172)).heap.size=b:=by rw [hb];simp
 have hP1:=hP.below hA
 have hst1:=strs_below hst hA
 go_enter Tryz.func126,Tryz.ntmps126
 go_wp2
 generalize hW1:w.alloc (.cells #[.string x,.string nm,.slice ua n1 uc,.slice pa n2 pc,.slice ia I.length ic] 172)=W1 at *
 go_loopw [5,11] (fun fv u wr=>∃ (k:Nat) (fa:Option Addr) (fc:Nat),k≤I.length∧u=.int .i64 k∧fv=.slice fa k fc∧wr.ownsRow b 44 3 (.slice fa k fc) k (faceCells (qs.take k))∧Below b W1 wr) (fun _ u _=>I.length - (intOf u).toNat)
 case atStart=>exact ⟨0,none,0,Nat.zero_le _,rfl,rfl,World.ownsRow_nil _ _ _ _,Below.refl _ _⟩
 case round =>
  obtain ⟨k,fa,fc,hkl,rfl,rfl,hrow,hBr⟩:=hrel
  by_cases hlt:k<I.length
  ·obtain ⟨g,o,rfl,hc⟩:∃ g o,ia=some ⟨g,o,none⟩∧wr.cell? ⟨g,o+k,none⟩=some (.string I[k]):=by
    obtain ⟨a',c',e',_,hk'⟩:=strs_below hst1 (by rw [hsz];exact hBr)
    obtain ⟨g',o',e2,hc⟩:=hk' (by intro e;rw [e] at hlt;simp at hlt)
    injection e' with e1
    exact ⟨g',o',e1.trans e2,hc k hlt⟩
   have hyk:=hin _ (List.getElem_mem hlt)
   have hys:=hsm _ (List.getElem_mem hlt)
   obtain ⟨i,hni,hiL',hnD⟩:=numF_some hyk
   have hiL:i<L.length:=by simpa [nmOf] using hiL'
   have hqk:=hqy k hlt
   have hqe:qOf L d I[k]=L[i].q:=by unfold qOf;rw [hnD];simp [hiL]
   rw [hqe] at hqk
   obtain ⟨gm,mc,rfl⟩:=hP1.slot (by omega)
   have hPr:=hP1.below (by rw [hsz];exact hBr)
   have hmd:=hPr.md (List.getElem_mem hiL)
   obtain ⟨va,m1,vc,qa,m2,qc,_,_,f1,f2,_⟩:=hmd.shape
   have hat:∀ W,PS W D (.slice (some ⟨gm,0,none⟩) L.length mc) L L.length (numF (nmOf L))→W.cell? ⟨gm,i*5+1,none⟩=some (.string (nameOf L[i].x))∧W.cell? ⟨gm,i*5+2,none⟩=some (.slice va m1 vc)∧W.cell? ⟨gm,i*5+3,none⟩=some (.slice qa m2 qc):=fun W hW=>by
    obtain ⟨_,h1,h2,h3,_⟩:=hW.at i hiL
    rw [f1] at h2
    rw [f2] at h3
    exact ⟨h1,h2,h3⟩
   have hlk:∀ W,PS W D (.slice (some ⟨gm,0,none⟩) L.length mc) L L.length (numF (nmOf L))→(Instr.lookup 136 (.map (some D)) (.string I[k]) false).run Tryz.prog W=.ok (.int .i64 (i:Int)) W:=fun W hW=>by
    have:=map_look hW.map I[k] (by unfold maxLen;omega)
    rw [hni] at this
    exact this
   have HQ:Hid (faceCells (qs.take (k+1))=faceCells (qs.take k)++[.string (nameOf L[i].x),.slice va m1 vc,.slice qa m2 qc]):=by
    show _=_
    rw [List.take_add_one,hqk]
    show faceCells (qs.take k++[L[i].q])=_
    rw [faceCells_snoc]
    unfold fcells MD.q
    rw [f1,f2]
    rfl
   clear hqk hqe hmd f1 f2 hyk hnD hni
   generalize I[k]=y at *
   generalize nameOf L[i].x=nq at *
   go_wp2
   have hS:=hPr.below (Below.refl wr.heap.size wr).drew
   replace hrow:=hrow.drew
   replace hBr:=hBr.drew
   refine wp_region_held_drew (S:=fun W=>PS W D (.slice (some ⟨gm,0,none⟩) L.length mc) L L.length (numF (nmOf L))) (by kernel_rfl) hS (fun hHeld=>?_)
   clear hHeld hPr hc
   generalize wr.drew=W at *
   refine tkR 0 (.slice fa k fc) hS ?_
   simp only [jA,jB,jC]
   refine tkR 1 (.pointer (some ⟨D+1,0,none⟩)) hS ?_
   simp only [jA,jB,jC]
   refine tkR 2 (.pointer (some ⟨D+1,0,none⟩)) hS ?_
   simp only [jA,jB,jC]
   refine tkR 3 (.pointer (some ⟨D+1,0,none⟩)) hS ?_
   simp only [jA,jB,jC]
   refine tkS (i:=4) (v:=.slice (some ⟨gm,0,none⟩) L.length mc) rfl rfl (Or.inl ⟨by rfl,fun w hSw=>by have z:=hSw.box.cell 0 rfl;go_simp⟩) hS ?_
   simp only [jA,jB,jC]
   refine tkR 5 (.pointer (some ⟨D+1,0,none⟩)) hS ?_
   simp only [jA,jB,jC]
   refine tkR 6 (.pointer (some ⟨D+1,0,none⟩)) hS ?_
   simp only [jA,jB,jC]
   refine tkR 7 (.pointer (some ⟨D+1,1,none⟩)) hS ?_
   simp only [jA,jB,jC]
   refine tkS (i:=8) (v:=.map (some D)) rfl rfl (Or.inl ⟨by rfl,fun w hSw=>by have z:=hSw.box.cell 1 rfl;go_simp⟩) hS ?_
   simp only [jA,jB,jC]
   refine tkR 9 (.string y) hS ?_
   simp only [jA,jB,jC]
   refine tkS (i:=10) (v:=.int .i64 (i:Int)) rfl rfl (Or.inl ⟨by rfl,fun w hSw=>by have z:=hlk w hSw;go_simp⟩) hS ?_
   simp only [jA,jB,jC]
   refine tkR 11 (.pointer (some ⟨gm,i*5,none⟩)) hS ?_
   simp only [jA,jB,jC]
   refine tkR 12 (.pointer (some ⟨gm,i*5+1,none⟩)) hS ?_
   simp only [jA,jB,jC]
   refine tkS (i:=13) (v:=.agg #[.string nq,.slice va m1 vc,.slice qa m2 qc] ) rfl rfl (Or.inl ⟨by rfl,fun w hSw=>by obtain ⟨z1,z2,z3⟩:=hat w hSw;go_simp⟩) hS ?_
   simp only [jA,jB,jC]
   refine oneH 14 fun KK hK=>?_
   go_simp
   have hsl:∀ j u,[Value.string nq,.slice va m1 vc,.slice qa m2 qc][j]?=some u→(W.alloc (.cells #[.string nq,.slice va m1 vc,.slice qa m2 qc] 44)).cell? ((⟨W.heap.size,0,none⟩:Addr).add j)=some u:=news_new _ #[.string nq,.slice va m1 vc,.slice qa m2 qc] _ _ rfl
   have hss:W.heap.size+1=(W.alloc (.cells #[.string nq,.slice va m1 vc,.slice qa m2 qc] 44)).heap.size:=by simp
   replace hBr:=hBr.alloc (by have:=hBr.size;omega) (.cells #[.string nq,.slice va m1 vc,.slice qa m2 qc] 44)
   replace hS:=hS.below (bal (.cells #[.string nq,.slice va m1 vc,.slice qa m2 qc] 44))
   replace hrow:=hrow.alloc (.cells #[.string nq,.slice va m1 vc,.slice qa m2 qc] 44)
   refine hK.out _ _ hS (fun hHeld=>?_)
   clear hK KK hHeld
   generalize W.alloc (.cells #[.string nq,.slice va m1 vc,.slice qa m2 qc] 44)=W3 at *
   generalize W.heap.size=s0 at *
   refine oneH 15 fun KK hK=>?_
   refine step_append_lies _ (by rfl) (.tmp 15) (.tmp 29) 22 (by rfl) b 44 i0 (.agg #[.string ⟨#[]⟩,.slice none 0 0,.slice none 0 0]) 3 64 Tryz.underlying22 hi hz0 hz1 hz2 rfl (by decide) (.slice fa k fc) k (faceCells (qs.take k)) (by simp [Act.eval,Act.put]) hrow ⟨s0,0,none⟩ 1 1 [.string nq,.slice va m1 vc,.slice qa m2 qc] (by simp [Act.eval,Act.put]) rfl hsl (by intro u hu;simp at hu;rcases hu with rfl | rfl | rfl<;>rfl) (by omega) (by unfold maxLen;omega) (by omega) (by have:=hBr.size;omega) (s0+1) hss.symm ?_
   intro g5 cap5 w5 hown5 hgrow5 hat5 hlt5
   rw [← HQ.out] at hown5
   have hB5:=hBr.grown hgrow5 (by have:=hBr.size;omega) (fun j e=>(hrow.lt _ e).1)
   have hS5:=hP1.below (by rw [hsz];exact hB5)
   clear hrow hBr hS
   refine hK.out _ _ hS5 (fun hHeld=>?_)
   clear hK KK hHeld
   have hS:=hS5
   rw [putd (d:=30)]
   rotate_left
   ·rfl
   simp only [jA,jB,jC]
   refine tkR 16 (.slice (some ⟨g5,0,none⟩) (k+1) cap5) hS ?_
   simp only [jA,jB,jC]
   refine wpAnyH_done (by kernel_rfl) ?_ _
   go_wp2
   go_roundw
   case rel=>exact ⟨k+1,_,_,by omega,by go_num,by go_num,hown5,hB5⟩
   case measure=>simp [intOf];omega
  ·have hkk:k=I.length:=by omega
   have hqt:qs.take k=qs:=by rw [List.take_of_length_le (by omega)]
   rw [hqt] at hrow
   have hBw:Below w.heap.size w wr:=hA.trans (hBr.mono (by omega))
   have hPr:=hP1.below (by rw [hsz];exact hBr)
   have HF:Hid (FacesIn wr (.slice fa k fc) qs):=faces_own (by rw [hql,← hkk];exact hrow) (by omega) (fun q hq=>by
    rw [← hqs] at hq
    obtain ⟨y,hy,rfl⟩:=List.mem_map.1 hq
    obtain ⟨i,hni,hiL',hnD⟩:=numF_some (hin y hy)
    have hiL:i<L.length:=by simpa [nmOf] using hiL'
    have hqe:qOf L d y=L[i].q:=by unfold qOf;rw [hnD];simp [hiL]
    rw [hqe]
    have hmd:=hPr.md (List.getElem_mem hiL)
    exact ⟨hmd.1,hmd.small⟩)
   clear hrow hBr hPr hP hP1 hst hst1
   go_wp2
   go_ret
   exact ⟨_,rfl,HF.out,hBw⟩
theorem chkF_drop {xs:List ByteArray} {t:List Nat} {k:Nat} (h:k<t.length):chkF xs (t.drop k)=if (ckF (xs.getD t[k] ⟨#[]⟩) (impsF xs (xs.getD t[k] ⟨#[]⟩)) (tx (xs.getD t[k] ⟨#[]⟩)).m (tx (xs.getD t[k] ⟨#[]⟩)).K).1≠0 then some ((t[k]:Int),(ckF (xs.getD t[k] ⟨#[]⟩) (impsF xs (xs.getD t[k] ⟨#[]⟩)) (tx (xs.getD t[k] ⟨#[]⟩)).m (tx (xs.getD t[k] ⟨#[]⟩)).K).1,(ckF (xs.getD t[k] ⟨#[]⟩) (impsF xs (xs.getD t[k] ⟨#[]⟩)) (tx (xs.getD t[k] ⟨#[]⟩)).m (tx (xs.getD t[k] ⟨#[]⟩)).K).2) else chkF xs (t.drop (k+1)):=by
 rw [List.drop_eq_getElem_cons h]
 rfl
def ChE (w:World) (xs:List ByteArray) (t:List Nat) (e:Ending) (w':World):Prop :=
 Below w.heap.size w w'∧((∃ r,chkF xs t=some r∧e=.panicked (ThrownT r))∨(chkF xs t=none∧e=.returned (.tuple #[])))
theorem node_shape {w w':World} {x:ByteArray} {r:Int × Int} {v:Value} (h1:r.1=0→Lies (fun b=>w.heap.size≤b∧b<w'.heap.size) w' (parse x).tree v) (h2:r.1≠0→v=noNodeV):∃ k y m a n c,v=.agg #[.int .i64 k,.string y,.int .i64 m,.slice a n c]:=by
 by_cases h:r.1=0
 ·obtain ⟨k,y,m,a,n,c,e⟩:=lies_shape (h1 h)
  exact ⟨k,y,m,a,n,c,e⟩
 ·exact ⟨_,_,_,_,_,_,h2 h⟩
theorem bput {N A:Nat} {w W:World} (h:Below N w W) (hA:N<A) (o:Nat) (v:Value):Below N w (W.setCell ⟨A,o,none⟩ v):=h.setCell (show N≤A by omega) v
set_option maxHeartbeats 8000000 in
theorem oChk (D:Nat) (mv:Value) (L:List MD) (xs:List ByteArray) (hx:L.map (·.x)=xs) (h6:L.length≤6) (h0:0<L.length) (w:World) (hH:HasAll w) (hP:PS w D mv L L.length (numF (nmOf L))) (hin:∀ m∈L,∀ y∈(tx m.x).I,among (nmOf L) y=true) (t:List Nat) (ht:Tk L.length t) (tv:Value) (hN:NatsIn w tv t) :
  Calls Tryz.prog 77 #[.pointer (some ⟨D+1,0,none⟩),tv] w (ChE w xs t):=by
 have c5:=kc172
 have c3:Tryz.prog.cellsOf 44=3:=cell3
 have c28:=kc28
 have c24:=kc25
 have hz25:∀ w:World,(zeroValue 25).run Tryz.prog w=.ok (.agg #[.int .i64 0,.string ⟨#[]⟩,.int .i64 0,.slice none 0 0]) w:=fun _=>by kernel_rfl
 have htl:=ht.len
 obtain ⟨g,mc,rfl⟩:=hP.slot h0
 obtain ⟨ta,tc,rfl⟩:∃ a c,tv=.slice a t.length c:=by obtain ⟨a,c,e,_⟩:=hN;exact ⟨a,c,e⟩
 go_enter Tryz.func77,Tryz.ntmps77
 go_wp2
 go_loopw [11] (fun u wr=>∃ k:Nat,k≤t.length∧u=.int .i64 k∧Below w.heap.size w wr∧Hid (chkF xs (t.drop k)=chkF xs t)) (fun u _=>t.length - (intOf u).toNat)
 case atStart=>exact ⟨0,Nat.zero_le _,rfl,Below.refl _ _,rfl⟩
 case round =>
  obtain ⟨k,hkl,rfl,hBr,HRR⟩:=hrel
  by_cases hlt:k<t.length
  ·obtain ⟨gt,rfl,hct⟩:∃ g,ta=some ⟨g,0,none⟩∧wr.cell? ⟨g,k,none⟩=some (.int .i64 (t[k]:Int)):=by
    obtain ⟨a',c',e',hk'⟩:=hN.below hBr
    obtain ⟨g',e2,hc⟩:=hk' (by intro e;rw [e] at hlt;simp at hlt)
    injection e' with e1
    exact ⟨g',e1.trans e2,hc k hlt⟩
   have HX:=show Hid _ from chkF_drop (xs:=xs) hlt
   have hi:t[k]<L.length:=ht.lt _ (List.getElem_mem hlt)
   generalize t[k]=i at *
   have hPr:=hP.below hBr
   have hHr:=hasAll_below hH hBr
   rw [at_is hx hi] at HX
   obtain ⟨q0,q1,q2,q3,q4⟩:=hPr.at i hi
   have hmd:=hPr.md (List.getElem_mem hi)
   have hinI:=hin _ (List.getElem_mem hi)
   obtain ⟨ua,n1,uc,pa,n2,pc,ia,ic,e1,e2,e3⟩:=hmd.shape
   have hIm:∀ W,Below wr.heap.size wr W→Calls Tryz.prog 126 #[.pointer (some ⟨D+1,0,none⟩),.agg #[.string L[i].x,.string (nameOf L[i].x),.slice ua n1 uc,.slice pa n2 pc,.slice ia (tx L[i].x).I.length ic]] W (ImE W L L[i]):=fun W hW=>by
    have:=oImported D _ L W (hPr.below hW) h6 L[i] (hmd.mono fun a v hc=>keep hc hW) hinI
    rw [e1,e2,e3] at this
    exact this
   have hCk:∀ W fv,Below wr.heap.size wr W→FacesIn W fv ((tx L[i].x).I.map (qOf L L[i]))→Calls Tryz.prog 9 #[.string L[i].x,fv] W (CkOut W L[i].x (ckF L[i].x (impsF xs L[i].x) (tx L[i].x).m (tx L[i].x).K)):=fun W fv hW hF=>by
    have:=oCheck L[i].x _ fv (tx L[i].x).m (tx L[i].x).K W (hasAll_below hHr hW) hF (txo L[i].x).shp
    rw [imps_q hx L[i]] at this
    exact this
   rw [e1] at q2
   rw [e2] at q3
   rw [e3] at q4
   have z0:=hPr.box.cell 0 rfl
   clear hmd e1 e2 e3 hinI hPr hHr
   unfold ImE at hIm
   generalize (tx L[i].x).I.map (qOf L L[i])=qs at *
   generalize (tx L[i].x).I.length=n3 at *
   generalize nameOf L[i].x=nm at *
   generalize ckF L[i].x (impsF xs L[i].x) (tx L[i].x).m (tx L[i].x).K=R at *
   generalize L[i].x=x at *
   generalize hNe:wr.heap.size=N at *
   have bN:BoxC (wr.alloc (.cells #[.string x,.string nm,.slice ua n1 uc,.slice pa n2 pc,.slice ia n3 ic] 172)).drew N #[.string x,.string nm,.slice ua n1 uc,.slice pa n2 pc,.slice ia n3 ic] 172:=hNe▸(BoxC.new wr #[.string x,.string nm,.slice ua n1 uc,.slice pa n2 pc,.slice ia n3 ic] 172).below (Below.refl _ _).drew
   have hBW:Below N wr (wr.alloc (.cells #[.string x,.string nm,.slice ua n1 uc,.slice pa n2 pc,.slice ia n3 ic] 172)).drew:=((Below.refl N wr).alloc (Nat.le_of_eq hNe.symm) (.cells #[.string x,.string nm,.slice ua n1 uc,.slice pa n2 pc,.slice ia n3 ic] 172)).drew
   go_wp2
   refine wp_mono (Q:=fun e a' w'=>match e with
    | .normal=>∃ (A C:Nat) (o21 o22 o23 o24 o25 o26 o27 o28 o29 o30:Value),N≤A∧N≤C∧a'={ tmps:=#[.pointer (some ⟨D+1,0,none⟩),.slice (some ⟨gt,0,none⟩) t.length tc,undef,undef,undef,.int .i64 i,.pointer (some ⟨N,0,none⟩),.pointer (some ⟨A,0,none⟩),.pointer (some ⟨C,0,none⟩),.slice (some ⟨gt,0,none⟩) t.length tc,.int .i64 t.length,.int .i64 k,.bool true,.pointer (some ⟨gt,k,none⟩),.int .i64 i,.pointer (some ⟨D+1,0,none⟩),.pointer (some ⟨D+1,0,none⟩),.pointer (some ⟨D+1,0,none⟩),.slice (some ⟨g,0,none⟩) L.length mc,.int .i64 i,.pointer (some ⟨g,i*5,none⟩),o21,o22,o23,o24,o25,o26,o27,o28,o29,o30,u31,u32,u33,u34,u35,u36,u37,u38,u39,u40],defers:=[] }∧BoxC w' C #[.int .i64 R.1,.int .i64 R.2] 28∧Below N wr w'
    | _=>False) ?_ ?_
   rotate_left
   ·clear hIm hCk bN hBW q0 q1 q2 q3 q4 hct z0
    rintro e a' w' hq
    cases e with
    | normal =>
     obtain ⟨A,C,o21,o22,o23,o24,o25,o26,o27,o28,o29,o30,hA,hC,rfl,bC,hBW⟩:=hq
     have hw':Below w.heap.size w w':=hBr.trans (hBW.mono (by have:=hBr.size;omega))
     have y0:=bC.cell 0 rfl
     have y1:=bC.cell 1 rfl
     by_cases hr:R.1=0
     ·have hrz:(R.1 != 0)=false:=by simp [hr]
      have HR2:Hid (chkF xs (t.drop (k+1))=chkF xs t):=by
       show _=_
       rw [← HRR.out,HX.out,if_neg (by simp [hr])]
      clear hr
      go_wp2
      go_roundw
      case rel=>exact ⟨k+1,by omega,by go_num,hw',HR2⟩
      case measure=>simp [intOf];omega
     ·have hrz:(R.1 != 0)=true:=by simp [hr]
      have HR2:Hid (chkF xs t=some ((i:Int),R.1,R.2)):=by
       show _=_
       rw [← HRR.out,HX.out,if_pos hr]
      clear hr
      go_wp2_with (go_at_call 120;refine (oRefuse _ _ _ _).mono ?_;rintro e w2 ⟨rfl,hw2⟩;obtain rfl:=hw2.symm)
      exact ⟨rfl,hw',.inl ⟨_,HR2.out,rfl⟩⟩
    | _=>exact hq.elim
   refine wp_region_held_drew (S:=fun W=>BoxC W N #[.string x,.string nm,.slice ua n1 uc,.slice pa n2 pc,.slice ia n3 ic] 172) (by kernel_rfl) bN (fun hHeld=>?_)
   clear hHeld q0 q1 q2 q3 q4 hct z0
   generalize (wr.alloc (.cells #[.string x,.string nm,.slice ua n1 uc,.slice pa n2 pc,.slice ia n3 ic] 172)).drew=W0 at *
   refine tkR 0 (.pointer (some ⟨N,0,none⟩)) bN ?_
   simp only [jA,jB,jC]
   refine tkS (i:=1) (v:=.string x) rfl rfl (Or.inl ⟨by rfl,fun w hSw=>by have z:=hSw.cell 0 rfl;go_simp⟩) bN ?_
   simp only [jA,jB,jC]
   refine tkR 2 (.pointer (some ⟨D+1,0,none⟩)) bN ?_
   simp only [jA,jB,jC]
   refine tkS (i:=3) (v:=.agg #[.string x,.string nm,.slice ua n1 uc,.slice pa n2 pc,.slice ia n3 ic] ) rfl rfl (Or.inl ⟨by rfl,fun w hSw=>by have z0:=hSw.cell 0 rfl;have z1:=hSw.cell 1 rfl;have z2:=hSw.cell 2 rfl;have z3:=hSw.cell 3 rfl;have z4:=hSw.cell 4 rfl;go_simp⟩) bN ?_
   simp only [jA,jB,jC]
   refine wpAnyH_ready (rs:=[4,9,10]) (by kernel_rfl) (by simp) ?_
   refine (AllReadyH.cons rfl (fun KK hK=>?_) (AllReadyH.cons rfl (fun KK hK=>?_) (AllReadyH.cons rfl (fun KK hK=>?_) AllReadyH.nil)))
   go_simp
   go_at_call 126
   refine (hIm W0 hBW).mono ?_
   rintro e W1 ⟨fv,rfl,hF,hb⟩
   obtain ⟨fa,fn,fc,rfl⟩:∃ a n c,fv=.slice a n c:=by obtain ⟨a,c,e,_⟩:=hF;exact ⟨a,_,c,e⟩
   replace hBW:=hBW.trans (hb.mono (by have:=bN.lt;omega))
   replace bN:=bN.below hb
   go_wp2
   refine hK.out _ _ bN (fun hHeld=>?_)
   clear hK KK hHeld hb
   refine wpAnyH_ready (rs:=[5,9,10]) (by kernel_rfl) (by simp) ?_
   refine (AllReadyH.cons rfl (fun KK hK=>?_) (AllReadyH.cons rfl (fun KK hK=>?_) (AllReadyH.cons rfl (fun KK hK=>?_) AllReadyH.nil)))
   go_simp
   go_at_call 9
   refine (hCk W1 _ hBW hF).mono ?_
   rintro e W2 ⟨v,rfl,hv1,hv2,hb⟩
   obtain ⟨k1,x1,m1,a1,l1,d1,rfl⟩:=node_shape hv1 hv2
   clear hv1 hv2 hF
   replace hBW:=hBW.trans (hb.mono (by have:=bN.lt;omega))
   replace bN:=bN.below hb
   go_wp2
   refine hK.out _ _ bN (fun hHeld=>?_)
   clear hK KK hHeld hb
   refine tkR 6 (.tuple #[.agg #[.int .i64 k1,.string x1,.int .i64 m1,.slice a1 l1 d1],.agg #[.int .i64 R.1,.int .i64 R.2] ] ) bN ?_
   simp only [jA,jB,jC]
   refine tkR 7 (.agg #[.int .i64 k1,.string x1,.int .i64 m1,.slice a1 l1 d1] ) bN ?_
   simp only [jA,jB,jC]
   refine tkR 8 (.agg #[.int .i64 R.1,.int .i64 R.2] ) bN ?_
   simp only [jA,jB,jC]
   refine wpAnyH_ready (rs:=[9,10]) (by kernel_rfl) (by simp) ?_
   refine (AllReadyH.cons rfl (fun KK hK=>?_) (AllReadyH.cons rfl (fun KK hK=>?_) AllReadyH.nil))
   go_simp
   have bA:=BoxC.new W2 #[.int .i64 0,.string ⟨#[]⟩,.int .i64 0,.slice none 0 0] 25
   have hA:N<W2.heap.size:=bN.lt
   replace hBW:=hBW.alloc (Nat.le_of_lt hA) (.cells #[.int .i64 0,.string ⟨#[]⟩,.int .i64 0,.slice none 0 0] 25)
   replace bN:=bN.alloc (.cells #[.int .i64 0,.string ⟨#[]⟩,.int .i64 0,.slice none 0 0] 25)
   have hAl:W2.heap.size<(W2.alloc (.cells #[.int .i64 0,.string ⟨#[]⟩,.int .i64 0,.slice none 0 0] 25)).heap.size:=by simp
   refine hK.out _ _ bN (fun hHeld=>?_)
   clear hK KK hHeld
   generalize W2.alloc (.cells #[.int .i64 0,.string ⟨#[]⟩,.int .i64 0,.slice none 0 0] 25)=W3 at *
   generalize W2.heap.size=A at *
   refine wpAnyH_ready (rs:=[10]) (by kernel_rfl) (by simp) ?_
   refine (AllReadyH.cons rfl (fun KK hK=>?_) AllReadyH.nil)
   go_simp
   have bC:=BoxC.new W3 #[.int .i64 0,.int .i64 0] 28
   have hC:N<W3.heap.size:=bN.lt
   replace hBW:=hBW.alloc (Nat.le_of_lt hC) (.cells #[.int .i64 0,.int .i64 0] 28)
   replace bA:=bA.alloc (.cells #[.int .i64 0,.int .i64 0] 28)
   have hAC:A≠W3.heap.size:=Nat.ne_of_lt hAl
   replace bN:=bN.alloc (.cells #[.int .i64 0,.int .i64 0] 28)
   have hCl:W3.heap.size<(W3.alloc (.cells #[.int .i64 0,.int .i64 0] 28)).heap.size:=by simp
   replace hAl:A<(W3.alloc (.cells #[.int .i64 0,.int .i64 0] 28)).heap.size:=by simp;omega
   refine hK.out _ _ bN (fun hHeld=>?_)
   clear hK KK hHeld
   generalize W3.alloc (.cells #[.int .i64 0,.int .i64 0] 28)=W4 at *
   generalize W3.heap.size=C at *
   rotate_left
   go_simp
   have bC:=BoxC.new W2 #[.int .i64 0,.int .i64 0] 28
   have hC:N<W2.heap.size:=bN.lt
   replace hBW:=hBW.alloc (Nat.le_of_lt hC) (.cells #[.int .i64 0,.int .i64 0] 28)
   replace bN:=bN.alloc (.cells #[.int .i64 0,.int .i64 0] 28)
   have hCl:W2.heap.size<(W2.alloc (.cells #[.int .i64 0,.int .i64 0] 28)).heap.size:=by simp
   refine hK.out _ _ bN (fun hHeld=>?_)
   clear hK KK hHeld
   generalize W2.alloc (.cells #[.int .i64 0,.int .i64 0] 28)=W3 at *
   generalize W2.heap.size=C at *
   refine wpAnyH_ready (rs:=[9]) (by kernel_rfl) (by simp) ?_
   refine (AllReadyH.cons rfl (fun KK hK=>?_) AllReadyH.nil)
   go_simp
   have bA:=BoxC.new W3 #[.int .i64 0,.string ⟨#[]⟩,.int .i64 0,.slice none 0 0] 25
   have hA:N<W3.heap.size:=bN.lt
   replace hBW:=hBW.alloc (Nat.le_of_lt hA) (.cells #[.int .i64 0,.string ⟨#[]⟩,.int .i64 0,.slice none 0 0] 25)
   replace bC:=bC.alloc (.cells #[.int .i64 0,.string ⟨#[]⟩,.int .i64 0,.slice none 0 0] 25)
   have hAC:W3.heap.size≠C:=(Nat.ne_of_lt hCl).symm
   replace bN:=bN.alloc (.cells #[.int .i64 0,.string ⟨#[]⟩,.int .i64 0,.slice none 0 0] 25)
   have hAl:W3.heap.size<(W3.alloc (.cells #[.int .i64 0,.string ⟨#[]⟩,.int .i64 0,.slice none 0 0] 25)).heap.size:=by simp
   replace hCl:C<(W3.alloc (.cells #[.int .i64 0,.string ⟨#[]⟩,.int .i64 0,.slice none 0 0] 25)).heap.size:=by simp;omega
   refine hK.out _ _ bN (fun hHeld=>?_)
   clear hK KK hHeld
   generalize W3.alloc (.cells #[.int .i64 0,.string ⟨#[]⟩,.int .i64 0,.slice none 0 0] 25)=W4 at *
   generalize W3.heap.size=A at *
   rotate_left
   go_simp
   have bA:=BoxC.new W1 #[.int .i64 0,.string ⟨#[]⟩,.int .i64 0,.slice none 0 0] 25
   have hA:N<W1.heap.size:=bN.lt
   replace hBW:=hBW.alloc (Nat.le_of_lt hA) (.cells #[.int .i64 0,.string ⟨#[]⟩,.int .i64 0,.slice none 0 0] 25)
   replace hF:=hF.below (bal (.cells #[.int .i64 0,.string ⟨#[]⟩,.int .i64 0,.slice none 0 0] 25))
   replace bN:=bN.alloc (.cells #[.int .i64 0,.string ⟨#[]⟩,.int .i64 0,.slice none 0 0] 25)
   have hAl:W1.heap.size<(W1.alloc (.cells #[.int .i64 0,.string ⟨#[]⟩,.int .i64 0,.slice none 0 0] 25)).heap.size:=by simp
   refine hK.out _ _ bN (fun hHeld=>?_)
   clear hK KK hHeld
   generalize W1.alloc (.cells #[.int .i64 0,.string ⟨#[]⟩,.int .i64 0,.slice none 0 0] 25)=W2 at *
   generalize W1.heap.size=A at *
   refine wpAnyH_ready (rs:=[5,10]) (by kernel_rfl) (by simp) ?_
   refine (AllReadyH.cons rfl (fun KK hK=>?_) (AllReadyH.cons rfl (fun KK hK=>?_) AllReadyH.nil))
   go_simp
   go_at_call 9
   refine (hCk W2 _ hBW hF).mono ?_
   rintro e W3 ⟨v,rfl,hv1,hv2,hb⟩
   obtain ⟨k1,x1,m1,a1,l1,d1,rfl⟩:=node_shape hv1 hv2
   clear hv1 hv2 hF
   replace hBW:=hBW.trans (hb.mono (by have:=bN.lt;omega))
   replace bN:=bN.below hb
   replace bA:=bA.below hb
   replace hAl:=Nat.lt_of_lt_of_le hAl hb.size
   go_wp2
   refine hK.out _ _ bN (fun hHeld=>?_)
   clear hK KK hHeld hb
   refine tkR 6 (.tuple #[.agg #[.int .i64 k1,.string x1,.int .i64 m1,.slice a1 l1 d1],.agg #[.int .i64 R.1,.int .i64 R.2] ] ) bN ?_
   simp only [jA,jB,jC]
   refine tkR 7 (.agg #[.int .i64 k1,.string x1,.int .i64 m1,.slice a1 l1 d1] ) bN ?_
   simp only [jA,jB,jC]
   refine tkR 8 (.agg #[.int .i64 R.1,.int .i64 R.2] ) bN ?_
   simp only [jA,jB,jC]
   refine wpAnyH_ready (rs:=[10]) (by kernel_rfl) (by simp) ?_
   refine (AllReadyH.cons rfl (fun KK hK=>?_) AllReadyH.nil)
   go_simp
   have bC:=BoxC.new W3 #[.int .i64 0,.int .i64 0] 28
   have hC:N<W3.heap.size:=bN.lt
   replace hBW:=hBW.alloc (Nat.le_of_lt hC) (.cells #[.int .i64 0,.int .i64 0] 28)
   replace bA:=bA.alloc (.cells #[.int .i64 0,.int .i64 0] 28)
   have hAC:A≠W3.heap.size:=Nat.ne_of_lt hAl
   replace bN:=bN.alloc (.cells #[.int .i64 0,.int .i64 0] 28)
   have hCl:W3.heap.size<(W3.alloc (.cells #[.int .i64 0,.int .i64 0] 28)).heap.size:=by simp
   replace hAl:A<(W3.alloc (.cells #[.int .i64 0,.int .i64 0] 28)).heap.size:=by simp;omega
   refine hK.out _ _ bN (fun hHeld=>?_)
   clear hK KK hHeld
   generalize W3.alloc (.cells #[.int .i64 0,.int .i64 0] 28)=W4 at *
   generalize W3.heap.size=C at *
   rotate_left
   go_simp
   have bC:=BoxC.new W2 #[.int .i64 0,.int .i64 0] 28
   have hC:N<W2.heap.size:=bN.lt
   replace hBW:=hBW.alloc (Nat.le_of_lt hC) (.cells #[.int .i64 0,.int .i64 0] 28)
   replace hF:=hF.below (bal (.cells #[.int .i64 0,.int .i64 0] 28))
   replace bA:=bA.alloc (.cells #[.int .i64 0,.int .i64 0] 28)
   have hAC:A≠W2.heap.size:=Nat.ne_of_lt hAl
   replace bN:=bN.alloc (.cells #[.int .i64 0,.int .i64 0] 28)
   have hCl:W2.heap.size<(W2.alloc (.cells #[.int .i64 0,.int .i64 0] 28)).heap.size:=by simp
   replace hAl:A<(W2.alloc (.cells #[.int .i64 0,.int .i64 0] 28)).heap.size:=by simp;omega
   refine hK.out _ _ bN (fun hHeld=>?_)
   clear hK KK hHeld
   generalize W2.alloc (.cells #[.int .i64 0,.int .i64 0] 28)=W3 at *
   generalize W2.heap.size=C at *
   refine wpAnyH_ready (rs:=[5]) (by kernel_rfl) (by simp) ?_
   refine (AllReadyH.cons rfl (fun KK hK=>?_) AllReadyH.nil)
   go_simp
   go_at_call 9
   refine (hCk W3 _ hBW hF).mono ?_
   rintro e W4 ⟨v,rfl,hv1,hv2,hb⟩
   obtain ⟨k1,x1,m1,a1,l1,d1,rfl⟩:=node_shape hv1 hv2
   clear hv1 hv2 hF
   replace hBW:=hBW.trans (hb.mono (by have:=bN.lt;omega))
   replace bN:=bN.below hb
   replace bA:=bA.below hb
   replace hAl:=Nat.lt_of_lt_of_le hAl hb.size
   replace bC:=bC.below hb
   replace hCl:=Nat.lt_of_lt_of_le hCl hb.size
   go_wp2
   refine hK.out _ _ bN (fun hHeld=>?_)
   clear hK KK hHeld hb
   refine tkR 6 (.tuple #[.agg #[.int .i64 k1,.string x1,.int .i64 m1,.slice a1 l1 d1],.agg #[.int .i64 R.1,.int .i64 R.2] ] ) bN ?_
   simp only [jA,jB,jC]
   refine tkR 7 (.agg #[.int .i64 k1,.string x1,.int .i64 m1,.slice a1 l1 d1] ) bN ?_
   simp only [jA,jB,jC]
   refine tkR 8 (.agg #[.int .i64 R.1,.int .i64 R.2] ) bN ?_
   simp only [jA,jB,jC]
   rotate_left
   go_simp
   have bC:=BoxC.new W1 #[.int .i64 0,.int .i64 0] 28
   have hC:N<W1.heap.size:=bN.lt
   replace hBW:=hBW.alloc (Nat.le_of_lt hC) (.cells #[.int .i64 0,.int .i64 0] 28)
   replace hF:=hF.below (bal (.cells #[.int .i64 0,.int .i64 0] 28))
   replace bN:=bN.alloc (.cells #[.int .i64 0,.int .i64 0] 28)
   have hCl:W1.heap.size<(W1.alloc (.cells #[.int .i64 0,.int .i64 0] 28)).heap.size:=by simp
   refine hK.out _ _ bN (fun hHeld=>?_)
   clear hK KK hHeld
   generalize W1.alloc (.cells #[.int .i64 0,.int .i64 0] 28)=W2 at *
   generalize W1.heap.size=C at *
   refine wpAnyH_ready (rs:=[5,9]) (by kernel_rfl) (by simp) ?_
   refine (AllReadyH.cons rfl (fun KK hK=>?_) (AllReadyH.cons rfl (fun KK hK=>?_) AllReadyH.nil))
   go_simp
   go_at_call 9
   refine (hCk W2 _ hBW hF).mono ?_
   rintro e W3 ⟨v,rfl,hv1,hv2,hb⟩
   obtain ⟨k1,x1,m1,a1,l1,d1,rfl⟩:=node_shape hv1 hv2
   clear hv1 hv2 hF
   replace hBW:=hBW.trans (hb.mono (by have:=bN.lt;omega))
   replace bN:=bN.below hb
   replace bC:=bC.below hb
   replace hCl:=Nat.lt_of_lt_of_le hCl hb.size
   go_wp2
   refine hK.out _ _ bN (fun hHeld=>?_)
   clear hK KK hHeld hb
   refine tkR 6 (.tuple #[.agg #[.int .i64 k1,.string x1,.int .i64 m1,.slice a1 l1 d1],.agg #[.int .i64 R.1,.int .i64 R.2] ] ) bN ?_
   simp only [jA,jB,jC]
   refine tkR 7 (.agg #[.int .i64 k1,.string x1,.int .i64 m1,.slice a1 l1 d1] ) bN ?_
   simp only [jA,jB,jC]
   refine tkR 8 (.agg #[.int .i64 R.1,.int .i64 R.2] ) bN ?_
   simp only [jA,jB,jC]
   refine wpAnyH_ready (rs:=[9]) (by kernel_rfl) (by simp) ?_
   refine (AllReadyH.cons rfl (fun KK hK=>?_) AllReadyH.nil)
   go_simp
   have bA:=BoxC.new W3 #[.int .i64 0,.string ⟨#[]⟩,.int .i64 0,.slice none 0 0] 25
   have hA:N<W3.heap.size:=bN.lt
   replace hBW:=hBW.alloc (Nat.le_of_lt hA) (.cells #[.int .i64 0,.string ⟨#[]⟩,.int .i64 0,.slice none 0 0] 25)
   replace bC:=bC.alloc (.cells #[.int .i64 0,.string ⟨#[]⟩,.int .i64 0,.slice none 0 0] 25)
   have hAC:W3.heap.size≠C:=(Nat.ne_of_lt hCl).symm
   replace bN:=bN.alloc (.cells #[.int .i64 0,.string ⟨#[]⟩,.int .i64 0,.slice none 0 0] 25)
   have hAl:W3.heap.size<(W3.alloc (.cells #[.int .i64 0,.string ⟨#[]⟩,.int .i64 0,.slice none 0 0] 25)).heap.size:=by simp
   replace hCl:C<(W3.alloc (.cells #[.int .i64 0,.string ⟨#[]⟩,.int .i64 0,.slice none 0 0] 25)).heap.size:=by simp;omega
   refine hK.out _ _ bN (fun hHeld=>?_)
   clear hK KK hHeld
   generalize W3.alloc (.cells #[.int .i64 0,.string ⟨#[]⟩,.int .i64 0,.slice none 0 0] 25)=W4 at *
   generalize W3.heap.size=A at *
   rotate_left
   go_simp
   have bA:=BoxC.new W2 #[.int .i64 0,.string ⟨#[]⟩,.int .i64 0,.slice none 0 0] 25
   have hA:N<W2.heap.size:=bN.lt
   replace hBW:=hBW.alloc (Nat.le_of_lt hA) (.cells #[.int .i64 0,.string ⟨#[]⟩,.int .i64 0,.slice none 0 0] 25)
   replace hF:=hF.below (bal (.cells #[.int .i64 0,.string ⟨#[]⟩,.int .i64 0,.slice none 0 0] 25))
   replace bC:=bC.alloc (.cells #[.int .i64 0,.string ⟨#[]⟩,.int .i64 0,.slice none 0 0] 25)
   have hAC:W2.heap.size≠C:=(Nat.ne_of_lt hCl).symm
   replace bN:=bN.alloc (.cells #[.int .i64 0,.string ⟨#[]⟩,.int .i64 0,.slice none 0 0] 25)
   have hAl:W2.heap.size<(W2.alloc (.cells #[.int .i64 0,.string ⟨#[]⟩,.int .i64 0,.slice none 0 0] 25)).heap.size:=by simp
   replace hCl:C<(W2.alloc (.cells #[.int .i64 0,.string ⟨#[]⟩,.int .i64 0,.slice none 0 0] 25)).heap.size:=by simp;omega
   refine hK.out _ _ bN (fun hHeld=>?_)
   clear hK KK hHeld
   generalize W2.alloc (.cells #[.int .i64 0,.string ⟨#[]⟩,.int .i64 0,.slice none 0 0] 25)=W3 at *
   generalize W2.heap.size=A at *
   refine wpAnyH_ready (rs:=[5]) (by kernel_rfl) (by simp) ?_
   refine (AllReadyH.cons rfl (fun KK hK=>?_) AllReadyH.nil)
   go_simp
   go_at_call 9
   refine (hCk W3 _ hBW hF).mono ?_
   rintro e W4 ⟨v,rfl,hv1,hv2,hb⟩
   obtain ⟨k1,x1,m1,a1,l1,d1,rfl⟩:=node_shape hv1 hv2
   clear hv1 hv2 hF
   replace hBW:=hBW.trans (hb.mono (by have:=bN.lt;omega))
   replace bN:=bN.below hb
   replace bA:=bA.below hb
   replace hAl:=Nat.lt_of_lt_of_le hAl hb.size
   replace bC:=bC.below hb
   replace hCl:=Nat.lt_of_lt_of_le hCl hb.size
   go_wp2
   refine hK.out _ _ bN (fun hHeld=>?_)
   clear hK KK hHeld hb
   refine tkR 6 (.tuple #[.agg #[.int .i64 k1,.string x1,.int .i64 m1,.slice a1 l1 d1],.agg #[.int .i64 R.1,.int .i64 R.2] ] ) bN ?_
   simp only [jA,jB,jC]
   refine tkR 7 (.agg #[.int .i64 k1,.string x1,.int .i64 m1,.slice a1 l1 d1] ) bN ?_
   simp only [jA,jB,jC]
   refine tkR 8 (.agg #[.int .i64 R.1,.int .i64 R.2] ) bN ?_
   simp only [jA,jB,jC]
   rotate_left
   go_simp
   have bA:=BoxC.new W0 #[.int .i64 0,.string ⟨#[]⟩,.int .i64 0,.slice none 0 0] 25
   have hA:N<W0.heap.size:=bN.lt
   replace hBW:=hBW.alloc (Nat.le_of_lt hA) (.cells #[.int .i64 0,.string ⟨#[]⟩,.int .i64 0,.slice none 0 0] 25)
   replace bN:=bN.alloc (.cells #[.int .i64 0,.string ⟨#[]⟩,.int .i64 0,.slice none 0 0] 25)
   have hAl:W0.heap.size<(W0.alloc (.cells #[.int .i64 0,.string ⟨#[]⟩,.int .i64 0,.slice none 0 0] 25)).heap.size:=by simp
   refine hK.out _ _ bN (fun hHeld=>?_)
   clear hK KK hHeld
   generalize W0.alloc (.cells #[.int .i64 0,.string ⟨#[]⟩,.int .i64 0,.slice none 0 0] 25)=W1 at *
   generalize W0.heap.size=A at *
   refine wpAnyH_ready (rs:=[4,10]) (by kernel_rfl) (by simp) ?_
   refine (AllReadyH.cons rfl (fun KK hK=>?_) (AllReadyH.cons rfl (fun KK hK=>?_) AllReadyH.nil))
   go_simp
   go_at_call 126
   refine (hIm W1 hBW).mono ?_
   rintro e W2 ⟨fv,rfl,hF,hb⟩
   obtain ⟨fa,fn,fc,rfl⟩:∃ a n c,fv=.slice a n c:=by obtain ⟨a,c,e,_⟩:=hF;exact ⟨a,_,c,e⟩
   replace hBW:=hBW.trans (hb.mono (by have:=bN.lt;omega))
   replace bN:=bN.below hb
   replace bA:=bA.below hb
   replace hAl:=Nat.lt_of_lt_of_le hAl hb.size
   go_wp2
   refine hK.out _ _ bN (fun hHeld=>?_)
   clear hK KK hHeld hb
   refine wpAnyH_ready (rs:=[5,10]) (by kernel_rfl) (by simp) ?_
   refine (AllReadyH.cons rfl (fun KK hK=>?_) (AllReadyH.cons rfl (fun KK hK=>?_) AllReadyH.nil))
   go_simp
   go_at_call 9
   refine (hCk W2 _ hBW hF).mono ?_
   rintro e W3 ⟨v,rfl,hv1,hv2,hb⟩
   obtain ⟨k1,x1,m1,a1,l1,d1,rfl⟩:=node_shape hv1 hv2
   clear hv1 hv2 hF
   replace hBW:=hBW.trans (hb.mono (by have:=bN.lt;omega))
   replace bN:=bN.below hb
   replace bA:=bA.below hb
   replace hAl:=Nat.lt_of_lt_of_le hAl hb.size
   go_wp2
   refine hK.out _ _ bN (fun hHeld=>?_)
   clear hK KK hHeld hb
   refine tkR 6 (.tuple #[.agg #[.int .i64 k1,.string x1,.int .i64 m1,.slice a1 l1 d1],.agg #[.int .i64 R.1,.int .i64 R.2] ] ) bN ?_
   simp only [jA,jB,jC]
   refine tkR 7 (.agg #[.int .i64 k1,.string x1,.int .i64 m1,.slice a1 l1 d1] ) bN ?_
   simp only [jA,jB,jC]
   refine tkR 8 (.agg #[.int .i64 R.1,.int .i64 R.2] ) bN ?_
   simp only [jA,jB,jC]
   refine wpAnyH_ready (rs:=[10]) (by kernel_rfl) (by simp) ?_
   refine (AllReadyH.cons rfl (fun KK hK=>?_) AllReadyH.nil)
   go_simp
   have bC:=BoxC.new W3 #[.int .i64 0,.int .i64 0] 28
   have hC:N<W3.heap.size:=bN.lt
   replace hBW:=hBW.alloc (Nat.le_of_lt hC) (.cells #[.int .i64 0,.int .i64 0] 28)
   replace bA:=bA.alloc (.cells #[.int .i64 0,.int .i64 0] 28)
   have hAC:A≠W3.heap.size:=Nat.ne_of_lt hAl
   replace bN:=bN.alloc (.cells #[.int .i64 0,.int .i64 0] 28)
   have hCl:W3.heap.size<(W3.alloc (.cells #[.int .i64 0,.int .i64 0] 28)).heap.size:=by simp
   replace hAl:A<(W3.alloc (.cells #[.int .i64 0,.int .i64 0] 28)).heap.size:=by simp;omega
   refine hK.out _ _ bN (fun hHeld=>?_)
   clear hK KK hHeld
   generalize W3.alloc (.cells #[.int .i64 0,.int .i64 0] 28)=W4 at *
   generalize W3.heap.size=C at *
   rotate_left
   go_simp
   have bC:=BoxC.new W2 #[.int .i64 0,.int .i64 0] 28
   have hC:N<W2.heap.size:=bN.lt
   replace hBW:=hBW.alloc (Nat.le_of_lt hC) (.cells #[.int .i64 0,.int .i64 0] 28)
   replace hF:=hF.below (bal (.cells #[.int .i64 0,.int .i64 0] 28))
   replace bA:=bA.alloc (.cells #[.int .i64 0,.int .i64 0] 28)
   have hAC:A≠W2.heap.size:=Nat.ne_of_lt hAl
   replace bN:=bN.alloc (.cells #[.int .i64 0,.int .i64 0] 28)
   have hCl:W2.heap.size<(W2.alloc (.cells #[.int .i64 0,.int .i64 0] 28)).heap.size:=by simp
   replace hAl:A<(W2.alloc (.cells #[.int .i64 0,.int .i64 0] 28)).heap.size:=by simp;omega
   refine hK.out _ _ bN (fun hHeld=>?_)
   clear hK KK hHeld
   generalize W2.alloc (.cells #[.int .i64 0,.int .i64 0] 28)=W3 at *
   generalize W2.heap.size=C at *
   refine wpAnyH_ready (rs:=[5]) (by kernel_rfl) (by simp) ?_
   refine (AllReadyH.cons rfl (fun KK hK=>?_) AllReadyH.nil)
   go_simp
   go_at_call 9
   refine (hCk W3 _ hBW hF).mono ?_
   rintro e W4 ⟨v,rfl,hv1,hv2,hb⟩
   obtain ⟨k1,x1,m1,a1,l1,d1,rfl⟩:=node_shape hv1 hv2
   clear hv1 hv2 hF
   replace hBW:=hBW.trans (hb.mono (by have:=bN.lt;omega))
   replace bN:=bN.below hb
   replace bA:=bA.below hb
   replace hAl:=Nat.lt_of_lt_of_le hAl hb.size
   replace bC:=bC.below hb
   replace hCl:=Nat.lt_of_lt_of_le hCl hb.size
   go_wp2
   refine hK.out _ _ bN (fun hHeld=>?_)
   clear hK KK hHeld hb
   refine tkR 6 (.tuple #[.agg #[.int .i64 k1,.string x1,.int .i64 m1,.slice a1 l1 d1],.agg #[.int .i64 R.1,.int .i64 R.2] ] ) bN ?_
   simp only [jA,jB,jC]
   refine tkR 7 (.agg #[.int .i64 k1,.string x1,.int .i64 m1,.slice a1 l1 d1] ) bN ?_
   simp only [jA,jB,jC]
   refine tkR 8 (.agg #[.int .i64 R.1,.int .i64 R.2] ) bN ?_
   simp only [jA,jB,jC]
   rotate_left
   go_simp
   have bC:=BoxC.new W1 #[.int .i64 0,.int .i64 0] 28
   have hC:N<W1.heap.size:=bN.lt
   replace hBW:=hBW.alloc (Nat.le_of_lt hC) (.cells #[.int .i64 0,.int .i64 0] 28)
   replace bA:=bA.alloc (.cells #[.int .i64 0,.int .i64 0] 28)
   have hAC:A≠W1.heap.size:=Nat.ne_of_lt hAl
   replace bN:=bN.alloc (.cells #[.int .i64 0,.int .i64 0] 28)
   have hCl:W1.heap.size<(W1.alloc (.cells #[.int .i64 0,.int .i64 0] 28)).heap.size:=by simp
   replace hAl:A<(W1.alloc (.cells #[.int .i64 0,.int .i64 0] 28)).heap.size:=by simp;omega
   refine hK.out _ _ bN (fun hHeld=>?_)
   clear hK KK hHeld
   generalize W1.alloc (.cells #[.int .i64 0,.int .i64 0] 28)=W2 at *
   generalize W1.heap.size=C at *
   refine wpAnyH_ready (rs:=[4]) (by kernel_rfl) (by simp) ?_
   refine (AllReadyH.cons rfl (fun KK hK=>?_) AllReadyH.nil)
   go_simp
   go_at_call 126
   refine (hIm W2 hBW).mono ?_
   rintro e W3 ⟨fv,rfl,hF,hb⟩
   obtain ⟨fa,fn,fc,rfl⟩:∃ a n c,fv=.slice a n c:=by obtain ⟨a,c,e,_⟩:=hF;exact ⟨a,_,c,e⟩
   replace hBW:=hBW.trans (hb.mono (by have:=bN.lt;omega))
   replace bN:=bN.below hb
   replace bA:=bA.below hb
   replace hAl:=Nat.lt_of_lt_of_le hAl hb.size
   replace bC:=bC.below hb
   replace hCl:=Nat.lt_of_lt_of_le hCl hb.size
   go_wp2
   refine hK.out _ _ bN (fun hHeld=>?_)
   clear hK KK hHeld hb
   refine wpAnyH_ready (rs:=[5]) (by kernel_rfl) (by simp) ?_
   refine (AllReadyH.cons rfl (fun KK hK=>?_) AllReadyH.nil)
   go_simp
   go_at_call 9
   refine (hCk W3 _ hBW hF).mono ?_
   rintro e W4 ⟨v,rfl,hv1,hv2,hb⟩
   obtain ⟨k1,x1,m1,a1,l1,d1,rfl⟩:=node_shape hv1 hv2
   clear hv1 hv2 hF
   replace hBW:=hBW.trans (hb.mono (by have:=bN.lt;omega))
   replace bN:=bN.below hb
   replace bA:=bA.below hb
   replace hAl:=Nat.lt_of_lt_of_le hAl hb.size
   replace bC:=bC.below hb
   replace hCl:=Nat.lt_of_lt_of_le hCl hb.size
   go_wp2
   refine hK.out _ _ bN (fun hHeld=>?_)
   clear hK KK hHeld hb
   refine tkR 6 (.tuple #[.agg #[.int .i64 k1,.string x1,.int .i64 m1,.slice a1 l1 d1],.agg #[.int .i64 R.1,.int .i64 R.2] ] ) bN ?_
   simp only [jA,jB,jC]
   refine tkR 7 (.agg #[.int .i64 k1,.string x1,.int .i64 m1,.slice a1 l1 d1] ) bN ?_
   simp only [jA,jB,jC]
   refine tkR 8 (.agg #[.int .i64 R.1,.int .i64 R.2] ) bN ?_
   simp only [jA,jB,jC]
   rotate_left
   go_simp
   have bC:=BoxC.new W0 #[.int .i64 0,.int .i64 0] 28
   have hC:N<W0.heap.size:=bN.lt
   replace hBW:=hBW.alloc (Nat.le_of_lt hC) (.cells #[.int .i64 0,.int .i64 0] 28)
   replace bN:=bN.alloc (.cells #[.int .i64 0,.int .i64 0] 28)
   have hCl:W0.heap.size<(W0.alloc (.cells #[.int .i64 0,.int .i64 0] 28)).heap.size:=by simp
   refine hK.out _ _ bN (fun hHeld=>?_)
   clear hK KK hHeld
   generalize W0.alloc (.cells #[.int .i64 0,.int .i64 0] 28)=W1 at *
   generalize W0.heap.size=C at *
   refine wpAnyH_ready (rs:=[4,9]) (by kernel_rfl) (by simp) ?_
   refine (AllReadyH.cons rfl (fun KK hK=>?_) (AllReadyH.cons rfl (fun KK hK=>?_) AllReadyH.nil))
   go_simp
   go_at_call 126
   refine (hIm W1 hBW).mono ?_
   rintro e W2 ⟨fv,rfl,hF,hb⟩
   obtain ⟨fa,fn,fc,rfl⟩:∃ a n c,fv=.slice a n c:=by obtain ⟨a,c,e,_⟩:=hF;exact ⟨a,_,c,e⟩
   replace hBW:=hBW.trans (hb.mono (by have:=bN.lt;omega))
   replace bN:=bN.below hb
   replace bC:=bC.below hb
   replace hCl:=Nat.lt_of_lt_of_le hCl hb.size
   go_wp2
   refine hK.out _ _ bN (fun hHeld=>?_)
   clear hK KK hHeld hb
   refine wpAnyH_ready (rs:=[5,9]) (by kernel_rfl) (by simp) ?_
   refine (AllReadyH.cons rfl (fun KK hK=>?_) (AllReadyH.cons rfl (fun KK hK=>?_) AllReadyH.nil))
   go_simp
   go_at_call 9
   refine (hCk W2 _ hBW hF).mono ?_
   rintro e W3 ⟨v,rfl,hv1,hv2,hb⟩
   obtain ⟨k1,x1,m1,a1,l1,d1,rfl⟩:=node_shape hv1 hv2
   clear hv1 hv2 hF
   replace hBW:=hBW.trans (hb.mono (by have:=bN.lt;omega))
   replace bN:=bN.below hb
   replace bC:=bC.below hb
   replace hCl:=Nat.lt_of_lt_of_le hCl hb.size
   go_wp2
   refine hK.out _ _ bN (fun hHeld=>?_)
   clear hK KK hHeld hb
   refine tkR 6 (.tuple #[.agg #[.int .i64 k1,.string x1,.int .i64 m1,.slice a1 l1 d1],.agg #[.int .i64 R.1,.int .i64 R.2] ] ) bN ?_
   simp only [jA,jB,jC]
   refine tkR 7 (.agg #[.int .i64 k1,.string x1,.int .i64 m1,.slice a1 l1 d1] ) bN ?_
   simp only [jA,jB,jC]
   refine tkR 8 (.agg #[.int .i64 R.1,.int .i64 R.2] ) bN ?_
   simp only [jA,jB,jC]
   refine wpAnyH_ready (rs:=[9]) (by kernel_rfl) (by simp) ?_
   refine (AllReadyH.cons rfl (fun KK hK=>?_) AllReadyH.nil)
   go_simp
   have bA:=BoxC.new W3 #[.int .i64 0,.string ⟨#[]⟩,.int .i64 0,.slice none 0 0] 25
   have hA:N<W3.heap.size:=bN.lt
   replace hBW:=hBW.alloc (Nat.le_of_lt hA) (.cells #[.int .i64 0,.string ⟨#[]⟩,.int .i64 0,.slice none 0 0] 25)
   replace bC:=bC.alloc (.cells #[.int .i64 0,.string ⟨#[]⟩,.int .i64 0,.slice none 0 0] 25)
   have hAC:W3.heap.size≠C:=(Nat.ne_of_lt hCl).symm
   replace bN:=bN.alloc (.cells #[.int .i64 0,.string ⟨#[]⟩,.int .i64 0,.slice none 0 0] 25)
   have hAl:W3.heap.size<(W3.alloc (.cells #[.int .i64 0,.string ⟨#[]⟩,.int .i64 0,.slice none 0 0] 25)).heap.size:=by simp
   replace hCl:C<(W3.alloc (.cells #[.int .i64 0,.string ⟨#[]⟩,.int .i64 0,.slice none 0 0] 25)).heap.size:=by simp;omega
   refine hK.out _ _ bN (fun hHeld=>?_)
   clear hK KK hHeld
   generalize W3.alloc (.cells #[.int .i64 0,.string ⟨#[]⟩,.int .i64 0,.slice none 0 0] 25)=W4 at *
   generalize W3.heap.size=A at *
   rotate_left
   go_simp
   have bA:=BoxC.new W2 #[.int .i64 0,.string ⟨#[]⟩,.int .i64 0,.slice none 0 0] 25
   have hA:N<W2.heap.size:=bN.lt
   replace hBW:=hBW.alloc (Nat.le_of_lt hA) (.cells #[.int .i64 0,.string ⟨#[]⟩,.int .i64 0,.slice none 0 0] 25)
   replace hF:=hF.below (bal (.cells #[.int .i64 0,.string ⟨#[]⟩,.int .i64 0,.slice none 0 0] 25))
   replace bC:=bC.alloc (.cells #[.int .i64 0,.string ⟨#[]⟩,.int .i64 0,.slice none 0 0] 25)
   have hAC:W2.heap.size≠C:=(Nat.ne_of_lt hCl).symm
   replace bN:=bN.alloc (.cells #[.int .i64 0,.string ⟨#[]⟩,.int .i64 0,.slice none 0 0] 25)
   have hAl:W2.heap.size<(W2.alloc (.cells #[.int .i64 0,.string ⟨#[]⟩,.int .i64 0,.slice none 0 0] 25)).heap.size:=by simp
   replace hCl:C<(W2.alloc (.cells #[.int .i64 0,.string ⟨#[]⟩,.int .i64 0,.slice none 0 0] 25)).heap.size:=by simp;omega
   refine hK.out _ _ bN (fun hHeld=>?_)
   clear hK KK hHeld
   generalize W2.alloc (.cells #[.int .i64 0,.string ⟨#[]⟩,.int .i64 0,.slice none 0 0] 25)=W3 at *
   generalize W2.heap.size=A at *
   refine wpAnyH_ready (rs:=[5]) (by kernel_rfl) (by simp) ?_
   refine (AllReadyH.cons rfl (fun KK hK=>?_) AllReadyH.nil)
   go_simp
   go_at_call 9
   refine (hCk W3 _ hBW hF).mono ?_
   rintro e W4 ⟨v,rfl,hv1,hv2,hb⟩
   obtain ⟨k1,x1,m1,a1,l1,d1,rfl⟩:=node_shape hv1 hv2
   clear hv1 hv2 hF
   replace hBW:=hBW.trans (hb.mono (by have:=bN.lt;omega))
   replace bN:=bN.below hb
   replace bA:=bA.below hb
   replace hAl:=Nat.lt_of_lt_of_le hAl hb.size
   replace bC:=bC.below hb
   replace hCl:=Nat.lt_of_lt_of_le hCl hb.size
   go_wp2
   refine hK.out _ _ bN (fun hHeld=>?_)
   clear hK KK hHeld hb
   refine tkR 6 (.tuple #[.agg #[.int .i64 k1,.string x1,.int .i64 m1,.slice a1 l1 d1],.agg #[.int .i64 R.1,.int .i64 R.2] ] ) bN ?_
   simp only [jA,jB,jC]
   refine tkR 7 (.agg #[.int .i64 k1,.string x1,.int .i64 m1,.slice a1 l1 d1] ) bN ?_
   simp only [jA,jB,jC]
   refine tkR 8 (.agg #[.int .i64 R.1,.int .i64 R.2] ) bN ?_
   simp only [jA,jB,jC]
   rotate_left
   go_simp
   have bA:=BoxC.new W1 #[.int .i64 0,.string ⟨#[]⟩,.int .i64 0,.slice none 0 0] 25
   have hA:N<W1.heap.size:=bN.lt
   replace hBW:=hBW.alloc (Nat.le_of_lt hA) (.cells #[.int .i64 0,.string ⟨#[]⟩,.int .i64 0,.slice none 0 0] 25)
   replace bC:=bC.alloc (.cells #[.int .i64 0,.string ⟨#[]⟩,.int .i64 0,.slice none 0 0] 25)
   have hAC:W1.heap.size≠C:=(Nat.ne_of_lt hCl).symm
   replace bN:=bN.alloc (.cells #[.int .i64 0,.string ⟨#[]⟩,.int .i64 0,.slice none 0 0] 25)
   have hAl:W1.heap.size<(W1.alloc (.cells #[.int .i64 0,.string ⟨#[]⟩,.int .i64 0,.slice none 0 0] 25)).heap.size:=by simp
   replace hCl:C<(W1.alloc (.cells #[.int .i64 0,.string ⟨#[]⟩,.int .i64 0,.slice none 0 0] 25)).heap.size:=by simp;omega
   refine hK.out _ _ bN (fun hHeld=>?_)
   clear hK KK hHeld
   generalize W1.alloc (.cells #[.int .i64 0,.string ⟨#[]⟩,.int .i64 0,.slice none 0 0] 25)=W2 at *
   generalize W1.heap.size=A at *
   refine wpAnyH_ready (rs:=[4]) (by kernel_rfl) (by simp) ?_
   refine (AllReadyH.cons rfl (fun KK hK=>?_) AllReadyH.nil)
   go_simp
   go_at_call 126
   refine (hIm W2 hBW).mono ?_
   rintro e W3 ⟨fv,rfl,hF,hb⟩
   obtain ⟨fa,fn,fc,rfl⟩:∃ a n c,fv=.slice a n c:=by obtain ⟨a,c,e,_⟩:=hF;exact ⟨a,_,c,e⟩
   replace hBW:=hBW.trans (hb.mono (by have:=bN.lt;omega))
   replace bN:=bN.below hb
   replace bA:=bA.below hb
   replace hAl:=Nat.lt_of_lt_of_le hAl hb.size
   replace bC:=bC.below hb
   replace hCl:=Nat.lt_of_lt_of_le hCl hb.size
   go_wp2
   refine hK.out _ _ bN (fun hHeld=>?_)
   clear hK KK hHeld hb
   refine wpAnyH_ready (rs:=[5]) (by kernel_rfl) (by simp) ?_
   refine (AllReadyH.cons rfl (fun KK hK=>?_) AllReadyH.nil)
   go_simp
   go_at_call 9
   refine (hCk W3 _ hBW hF).mono ?_
   rintro e W4 ⟨v,rfl,hv1,hv2,hb⟩
   obtain ⟨k1,x1,m1,a1,l1,d1,rfl⟩:=node_shape hv1 hv2
   clear hv1 hv2 hF
   replace hBW:=hBW.trans (hb.mono (by have:=bN.lt;omega))
   replace bN:=bN.below hb
   replace bA:=bA.below hb
   replace hAl:=Nat.lt_of_lt_of_le hAl hb.size
   replace bC:=bC.below hb
   replace hCl:=Nat.lt_of_lt_of_le hCl hb.size
   go_wp2
   refine hK.out _ _ bN (fun hHeld=>?_)
   clear hK KK hHeld hb
   refine tkR 6 (.tuple #[.agg #[.int .i64 k1,.string x1,.int .i64 m1,.slice a1 l1 d1],.agg #[.int .i64 R.1,.int .i64 R.2] ] ) bN ?_
   simp only [jA,jB,jC]
   refine tkR 7 (.agg #[.int .i64 k1,.string x1,.int .i64 m1,.slice a1 l1 d1] ) bN ?_
   simp only [jA,jB,jC]
   refine tkR 8 (.agg #[.int .i64 R.1,.int .i64 R.2] ) bN ?_
   simp only [jA,jB,jC]
   rotate_left
   all_goals
    refine oneH 11 fun KK hK=>?_
    have y0:=bA.cell 0 rfl
    have y1:=bA.cell 1 rfl
    have y2:=bA.cell 2 rfl
    have y3:=bA.cell 3 rfl
    have f0:=bA.fz 0
    have f1:=bA.fz 1
    have f2:=bA.fz 2
    have f3:=bA.fz 3
    go_simp
    have hNA:N≠A:=by omega
    replace bN:=(((bN.other (o:=0) hNA (.int .i64 k1)).other (o:=1) hNA (.string x1)).other (o:=2) hNA (.int .i64 m1)).other (o:=3) hNA (.slice a1 l1 d1)
    replace bC:=(((bC.other (o:=0) hAC.symm (.int .i64 k1)).other (o:=1) hAC.symm (.string x1)).other (o:=2) hAC.symm (.int .i64 m1)).other (o:=3) hAC.symm (.slice a1 l1 d1)
    replace hBW:=bput (bput (bput (bput hBW hA 0 (.int .i64 k1)) hA 1 (.string x1)) hA 2 (.int .i64 m1)) hA 3 (.slice a1 l1 d1)
    refine hK.out _ _ bN (fun hHeld=>?_)
    clear hK KK hHeld y0 y1 y2 y3 f0 f1 f2 f3 bA
    generalize (World.setCell _ ⟨A,3,none⟩ _)=W5 at *
    refine oneH 12 fun KK hK=>?_
    have y0:=bC.cell 0 rfl
    have y1:=bC.cell 1 rfl
    have f0:=bC.fz 0
    have f1:=bC.fz 1
    go_simp
    have hNC:N≠C:=by omega
    replace bN:=(bN.other (o:=0) hNC (.int .i64 R.1)).other (o:=1) hNC (.int .i64 R.2)
    replace bC:=(bC.set 0 (.int .i64 R.1)).set 1 (.int .i64 R.2)
    replace hBW:=bput (bput hBW hC 0 (.int .i64 R.1)) hC 1 (.int .i64 R.2)
    refine hK.out _ _ bN (fun hHeld=>?_)
    clear hK KK hHeld y0 y1 f0 f1
    refine wpAnyH_done (by kernel_rfl) ?_ _
    exact ⟨A,C,_,_,_,_,_,_,_,_,_,_,Nat.le_of_lt hA,Nat.le_of_lt hC,rfl,by simpa using bC,hBW⟩
  ·go_wp2
   go_end0
   refine ⟨hBr,.inr ⟨?_,rfl⟩⟩
   have hkk:k=t.length:=by omega
   rw [← HRR.out,hkk,List.drop_length]
   rfl
end ord
end Go.Proofs.YtfopddgjdaoidaaGreatDoor
