/- What the program's visit comes to at a variable and at a procedure: contracts. -/
import Derived.Test.YtfopddgjdaoidaaGreatDoorNM43
import Derived.Test.YtfopddgjdaoidaaGreatDoorNM40
set_option linter.unusedVariables false
set_option linter.unusedSimpArgs false
set_option maxRecDepth 100000
namespace Go.Proofs.YtfopddgjdaoidaaGreatDoor.face
open Go.RowKit Go.Maps
open syn
def onP {α:Type} (p:Bool) (x:α):List α:=if p then [x] else []
def varR (ns:List ByteArray) (x:ByteArray) (n:Option Int) (a:Int):Option (Int × Int):=if among ns x then some (5,a) else if 20≤ns.length then some (1,a) else rangeF n a
def procR (ns:List ByteArray) (x:ByteArray) (ps:List (ByteArray × Bool)) (a:Int):Option (Int × Int):=if among ns x then some (5,a) else if 20≤ns.length then some (1,a) else if 5<ps.length then some (1,a) else parD [] ps (a+1)
theorem inL_var (x:ByteArray) (p l:Bool) (n:Option Int):InL (Kid.var x p l n).kids:=by
  cases n with
  | none=>unfold Kid.kids InL;trivial
  | some k=>unfold Kid.kids InL InL;exact ⟨inT_leaf (.inr (by omega)),trivial⟩
theorem rangeF_ok {n:Option Int} {a:Int} (h:∀ k,n=some k→1≤k∧k≤64):rangeF n a=none:=by
  cases n with
  | none=>rfl
  | some k=>have:=h k rfl;show (if k<1∨64<k then _ else _)=_;rw [if_neg (by omega)]
theorem rangeF_bad {n:Option Int} {a:Int} (h:∃ k,n=some k∧(k<1∨64<k)):rangeF n a=some (6,a):=by
  obtain ⟨k,rfl,h⟩:=h
  show (if k<1∨64<k then _ else _)=_
  rw [if_pos h]
theorem varR_a {ns:List ByteArray} {x:ByteArray} {n:Option Int} {a:Int} (h:among ns x=true):varR ns x n a=some (5,a):=by unfold varR;rw [if_pos h]
theorem varR_b {ns:List ByteArray} {x:ByteArray} {n:Option Int} {a:Int} (h:among ns x=false) (h2:20≤ns.length):varR ns x n a=some (1,a):=by unfold varR;rw [if_neg (by simp [h]),if_pos h2]
theorem varR_c {ns:List ByteArray} {x:ByteArray} {n:Option Int} {a:Int} (h:among ns x=false) (h2:ns.length<20):varR ns x n a=rangeF n a:=by unfold varR;rw [if_neg (by simp [h]),if_neg (by omega)]
theorem procR_a {ns:List ByteArray} {x:ByteArray} {ps:List (ByteArray × Bool)} {a:Int} (h:among ns x=true):procR ns x ps a=some (5,a):=by unfold procR;rw [if_pos h]
theorem procR_b {ns:List ByteArray} {x:ByteArray} {ps:List (ByteArray × Bool)} {a:Int} (h:among ns x=false) (h2:20≤ns.length):procR ns x ps a=some (1,a):=by unfold procR;rw [if_neg (by simp [h]),if_pos h2]
theorem procR_c {ns:List ByteArray} {x:ByteArray} {ps:List (ByteArray × Bool)} {a:Int} (h:among ns x=false) (h2:ns.length<20) (h3:5<ps.length):procR ns x ps a=some (1,a):=by unfold procR;rw [if_neg (by simp [h]),if_neg (by omega),if_pos h3]
theorem procR_d {ns:List ByteArray} {x:ByteArray} {ps:List (ByteArray × Bool)} {a:Int} (h:among ns x=false) (h2:ns.length<20) (h3:ps.length≤5):procR ns x ps a=parD [] ps (a+1):=by unfold procR;rw [if_neg (by simp [h]),if_neg (by omega),if_neg (by omega)]
set_option maxHeartbeats 2000000 in
theorem vVar {D Bm Bd:Nat} {mp:Option Nat} {vv pv iv:Value} {mo:ByteArray} {V:List VarD} {P:List (ProcD × Value)} {is ms ns qs:List ByteArray} (x:ByteArray) (p l:Bool) (n:Option Int) (v:Value) (w:World) (at_:Int) (hv:Lies (·<Bm) w (Kid.var x p l n).tree v)
    (h:DI w D Bm Bd mp vv pv iv mo V P is ms ns qs at_) (h0:0≤at_) (hm:at_+cntT (Kid.var x p l n).tree≤1000000) (hx:x.size≤16) (hns:ns.length≤20) (hV:V.length≤20) :
    Calls Tryz.prog 69 #[.pointer (some ⟨D,0,none⟩),v] w (VR Bm w (varR ns x n at_) fun w'=>∃ vv',DI w' D Bm Bd mp vv' pv iv mo (V++onP p (varD x p l n)) P is ms (ns++[x]) qs (at_+cntT (Kid.var x p l n).tree)):=by
  have c24:Tryz.prog.cellsOf 25=4:=by kernel_rfl
  have hv0:=hv
  rw [Kid.tree_is] at hv
  unfold Lies at hv
  obtain ⟨a,c,rfl,hl,hk⟩:=hv
  have hin:=inL_var x p l n
  have hcT:cntT (Kid.var x p l n).tree=1+cntL (Kid.var x p l n).kids:=by rw [Kid.tree_is];unfold cntT;omega
  rw [hcT] at hm ⊢
  have hmm:=h.lm
  have hdd:=h.ld
  have hd:=h.dc.lt
  have hov:=(own_lt h).2.1
  have hlv:∀ k,vv.ownBlock=some k→k<w.heap.size:=fun k e=>(h.fr.ov.lt _ e).2
  have hA:=oAddVar x p l n _ (w.alloc (.cells #[.int .i64 (Kid.var x p l n).kind,.string (Kid.var x p l n).text,.int .i64 (Kid.var x p l n).num,.slice a (Kid.var x p l n).kids.length c] 25)) (Lies.alloc' hv0 (by omega) _) (h.below ((Below.refl _ _).alloc (jE _) _)) hx hns hV w.heap.size (by simp) hd (fun e=>by have:=hlv _ e;omega)
  simp only [Kid.kind,Kid.text] at *
  have hcp:=cntL_pos (Kid.var x p l n).kids
  generalize (Kid.var x p l n).num=m at *
  generalize (Kid.var x p l n).kids=ks at *
  have hB0:Below Bm w (w.alloc (.cells #[.int .i64 3,.string x,.int .i64 m,.slice a ks.length c] 25)):=(Below.refl _ _).alloc (by omega) _
  clear hv0 h
  go_enter Tryz.func69,Tryz.ntmps69
  go_wp2_with (fail)
  refine hA.mono ?_
  rintro e w1 ⟨hb1,(⟨hm1,rfl⟩ | ⟨hm1,hle,rfl⟩ | ⟨hm1,hlt,hr,rfl⟩ | ⟨hm1,hlt,hr,rfl,hkz,vv',hI1⟩)⟩
  · go_wp2
    exact ⟨rfl,hB0.trans hb1,.inl ⟨_,varR_a hm1,rfl⟩⟩
  · go_wp2
    exact ⟨rfl,hB0.trans hb1,.inl ⟨_,varR_b hm1 hle,rfl⟩⟩
  · go_wp2
    exact ⟨rfl,hB0.trans hb1,.inl ⟨_,(varR_c hm1 hlt).trans (rangeF_bad hr),rfl⟩⟩
  have q3:w1.cell? ⟨w.heap.size,3,none⟩=some (.slice a ks.length c):=(World.cell?_of_block (a:=⟨w.heap.size,3,none⟩) hkz.eq).trans (by simp)
  have HR:Hid (varR ns x n at_=none):=(varR_c hm1 hlt).trans (rangeF_ok hr)
  replace hI1:DI w1 D Bm Bd mp vv' pv iv mo (V++onP p (varD x p l n)) P is ms (ns++[x]) qs at_:=hI1
  have m7:=hI1.dc.c7
  have mf:=hI1.dc.fz 7
  have hI2:=hI1.setAt (at_+1)
  have hB2:=(hB0.trans hb1).setCell (p:=⟨D,7,none⟩) (by show Bm≤D;omega) (.int .i64 (at_+1))
  clear hI1 hA hb1 hB0 hr hkz
  go_wp2
  clear m7 mf q3
  go_loopw [75] (fun t wr=>∃ j:Nat,j≤ks.length∧t=.int .i64 j∧DI wr D Bm Bd mp vv' pv iv mo (V++onP p (varD x p l n)) P is ms (ns++[x]) qs (at_+1+cntL (ks.take j))∧Below Bm w wr) (fun t _=>ks.length - (intOf t).toNat)
  case atStart=>exact ⟨0,Nat.zero_le _,rfl,by simpa [cntL] using hI2,hB2⟩
  case round =>
    clear hI2 hB2
    obtain ⟨j,hj,rfl,hI,hB⟩:=hrel
    by_cases hlt:j<ks.length
    · obtain ⟨g,o,rfl,hg,hat⟩:=hk (by intro e;rw [e] at hlt;simp at hlt)
      obtain ⟨kk,xx,mm,aa,na,ca,c0,c1,c2,c3,hx⟩:=kid_at hat hg hB hlt
      have hs1:=cntL_take ks j hlt
      have hs2:=cntL_take_le ks (j+1)
      have hs3:=cntT_pos ks[j]
      have hs4:=cntL_pos (ks.take j)
      have hsz:=hB.size
      have hC:=vIn ks[j] _ (wr.alloc (.cells #[.int .i64 kk,.string xx,.int .i64 mm,.slice aa na ca] 25)) _ (Lies.alloc' hx (by omega) _) (inL_get hin j hlt) (hI.below ((Below.refl _ _).alloc (jE _) _)) (by omega) (by omega)
      have hgl:g<wr.heap.size:=by have:g<Bm:=hg;omega
      rw [show at_+1+cntL (ks.take j)+cntT ks[j]=at_+1+cntL (ks.take (j+1)) by omega] at hC
      clear hI hx hk hat
      go_wp2_with (go_at_call 69;refine hC.mono ?_;rintro e w1 ⟨rfl,hb1,hI1⟩)
      go_roundw
      case rel=>exact ⟨j+1,by omega,by go_num,hI1,(hB.alloc (by omega) _).trans hb1⟩
      case measure=>simp [intOf];omega
    · rw [List.take_of_length_le (by omega)] at hI
      go_wp2
      go_end0
      exact ⟨hB,.inr ⟨HR.out,rfl,vv',by rw [show at_+(1+cntL ks)=at_+1+cntL ks by omega];exact hI⟩⟩
/-! of a procedure -/
theorem parD_step {ps:List (ByteArray × Bool)} {j:Nat} (hj:j<ps.length) (a:Int) (r:Option (Int × Int)) (h:r=parD ((ps.take j).map (·.1)) (ps.drop j) a) :
    r=match enterR ((ps.take j).map (·.1)) ps[j].1 5 a with | some e=>some e | none=>parD ((ps.take (j+1)).map (·.1)) (ps.drop (j+1)) (a+1):=by
  rw [h,List.drop_eq_getElem_cons hj]
  have e:(ps.take (j+1)).map (·.1)=(ps.take j).map (·.1)++[ps[j].1]:=by rw [List.take_succ_eq_append_getElem hj,List.map_append];rfl
  rw [e]
  unfold enterR
  show (if _ then _ else _)=_
  split
  · rfl
  · split <;> rfl
theorem cnt_pars:∀ (ps:List (ByteArray × Bool)),cntL (ps.map parT)=ps.length
  | []=>rfl
  | q :: r=>by
    show cntT (parT q)+cntL (r.map parT)=((r.length+1:Nat):Int)
    rw [cnt_pars r]
    show cntL []+1+(r.length:Int)=_
    unfold cntL
    omega
theorem kids_take (ps:List (ByteArray × Bool)) (b:Tree) (j:Nat) (hj:j≤ps.length):cntL ((ps.map parT++[b]).take j)=j:=by
  rw [List.take_append_of_le_length (by simpa using hj),← List.map_take,cnt_pars,List.length_take]
  omega
set_option maxHeartbeats 4000000 in
theorem vProc {D Bm Bd:Nat} {mp:Option Nat} {vv pv iv:Value} {mo:ByteArray} {V:List VarD} {P:List (ProcD × Value)} {is ms ns qs:List ByteArray} (x:ByteArray) (p l:Bool) (gv:Option Bool) (ps:List (ByteArray × Bool)) (b:Tree) (v:Value) (w:World) (at_:Int) (hv:Lies (·<Bm) w (Kid.proc x p l gv ps b).tree v)
    (h:DI w D Bm Bd mp vv pv iv mo V P is ms ns qs at_) (h0:0≤at_) (hm:at_+cntT (Kid.proc x p l gv ps b).tree≤1000000) (hgood:(Kid.proc x p l gv ps b).good) (hns:ns.length≤20) (hP:P.length≤20) (hps:ps.length≤1000) :
    Calls Tryz.prog 69 #[.pointer (some ⟨D,0,none⟩),v] w (VR Bm w (procR ns x ps at_) fun w'=>∃ b0 pv' P' qs',DI w' D Bm Bd (some b0) vv pv' iv mo V P' is ms (ns++[x]) qs' (at_+cntT (Kid.proc x p l gv ps b).tree)∧P'.map (·.1)=P.map (·.1)++onP p (procD x p l gv ps)):=by
  have c24:Tryz.prog.cellsOf 25=4:=by kernel_rfl
  obtain ⟨hx,hpsz,hInT⟩:=hgood
  have hv0:=hv
  rw [Kid.tree_is] at hv
  unfold Lies at hv
  obtain ⟨a,c,rfl,hl,hk⟩:=hv
  have hcT:cntT (Kid.proc x p l gv ps b).tree=1+cntL (Kid.proc x p l gv ps b).kids:=by rw [Kid.tree_is];unfold cntT;omega
  rw [hcT] at hm ⊢
  have hmm:=h.lm
  have hdd:=h.ld
  have hd:=h.dc.lt
  have hlv:∀ k,pv.ownBlock=some k→k<w.heap.size:=fun k e=>(h.fr.op.lt _ e).2
  have hA:=oAddProc x p l gv ps b _ (w.alloc (.cells #[.int .i64 (Kid.proc x p l gv ps b).kind,.string (Kid.proc x p l gv ps b).text,.int .i64 (Kid.proc x p l gv ps b).num,.slice a (Kid.proc x p l gv ps b).kids.length c] 25)) (Lies.alloc' hv0 (by omega) _) (h.below ((Below.refl _ _).alloc (jE _) _)) hx hns hP hps hInT w.heap.size (by simp) hd (fun e=>by have:=hlv _ e;omega)
  have hks:(Kid.proc x p l gv ps b).kids=ps.map parT++[b]:=rfl
  simp only [Kid.kind,Kid.text] at *
  have hcp:=cntL_pos (Kid.proc x p l gv ps b).kids
  generalize (Kid.proc x p l gv ps b).num=m at *
  generalize (Kid.proc x p l gv ps b).kids=ks at *
  have hkl:ks.length=ps.length+1:=by rw [hks];simp
  have Hks:Hid (ks=ps.map parT++[b]):=hks
  have Hkl:Hid (ks.length=ps.length+1):=hkl
  have hB0:Below Bm w (w.alloc (.cells #[.int .i64 4,.string x,.int .i64 m,.slice a ks.length c] 25)):=(Below.refl _ _).alloc (by omega) _
  clear hv0 h hks hkl
  go_enter Tryz.func69,Tryz.ntmps69
  go_wp2_with (fail)
  refine hA.mono ?_
  rintro e w1 ⟨hb1,(⟨hm1,rfl⟩ | ⟨hm1,hle,rfl⟩ | ⟨hm1,hlt,hr,rfl⟩ | ⟨hm1,hlt,hr,rfl,hkz,b0,pv',P',hI1,hPP⟩)⟩
  · go_wp2
    exact ⟨rfl,hB0.trans hb1,.inl ⟨_,procR_a hm1,rfl⟩⟩
  · go_wp2
    exact ⟨rfl,hB0.trans hb1,.inl ⟨_,procR_b hm1 hle,rfl⟩⟩
  · go_wp2
    exact ⟨rfl,hB0.trans hb1,.inl ⟨_,procR_c hm1 hlt hr,rfl⟩⟩
  have q3:w1.cell? ⟨w.heap.size,3,none⟩=some (.slice a ks.length c):=(World.cell?_of_block (a:=⟨w.heap.size,3,none⟩) hkz.eq).trans (by simp)
  have HR:Hid (procR ns x ps at_=parD [] ps (at_+1)):=procR_d hm1 hlt hr
  have HPP:Hid (P'.map (·.1)=P.map (·.1)++onP p (procD x p l gv ps)):=hPP
  have m7:=hI1.dc.c7
  have mf:=hI1.dc.fz 7
  have hI2:=hI1.setAt (at_+1)
  have hB2:=(hB0.trans hb1).setCell (p:=⟨D,7,none⟩) (by show Bm≤D;omega) (.int .i64 (at_+1))
  clear hI1 hA hb1 hB0 hkz hPP
  obtain ⟨R,HRR⟩:∃ R,Hid (procR ns x ps at_=R):=⟨_,rfl⟩
  replace HR:Hid (R=parD [] ps (at_+1)):=HRR.out.symm.trans HR.out
  go_wp2
  clear m7 mf q3
  go_loopw [75] (fun t wr=>∃ j:Nat,j≤ks.length∧t=.int .i64 j∧DI wr D Bm Bd (some b0) vv pv' iv mo V P' is ms (ns++[x]) ((ps.take j).map (·.1)) (at_+1+cntL (ks.take j))∧Below Bm w wr∧Hid (R=parD ((ps.take j).map (·.1)) (ps.drop j) (at_+1+j))) (fun t _=>ks.length - (intOf t).toNat)
  case atStart=>exact ⟨0,Nat.zero_le _,rfl,by simpa [cntL] using hI2,hB2,by show _=_;rw [HR.out];simp⟩
  case round =>
    clear hI2 hB2 HR
    obtain ⟨j,hj,rfl,hI,hB,HR⟩:=hrel
    by_cases hlt:j<ks.length
    · obtain ⟨g,o,rfl,hg,hat⟩:=hk (by intro e;rw [e] at hlt;simp at hlt)
      obtain ⟨kk,xx,mm,aa,na,ca,c0,c1,c2,c3,hx⟩:=kid_at hat hg hB hlt
      have hs1:=cntL_take ks j hlt
      have hs2:=cntL_take_le ks (j+1)
      have hs3:=cntT_pos ks[j]
      have hs4:=cntL_pos (ks.take j)
      have hsz:=hB.size
      have hgl:g<wr.heap.size:=by have:g<Bm:=hg;omega
      have hlk:=Hkl.out
      by_cases hp:j<ps.length
      · have hkj:ks[j]=.node 5 ps[j].1 (bI ps[j].2) []:=by simp only [Hks.out];rw [List.getElem_append_left (by simpa using hp)];simp [parT]
        have hn1:cntL (ks.take j)=j:=by rw [Hks.out];exact kids_take ps b j (by omega)
        have hn2:cntL (ks.take (j+1))=j+1:=by rw [Hks.out,kids_take ps b (j+1) (by omega)];omega
        rw [hkj] at hx
        rw [hn1] at hI
        have hC:=vPar ps[j].1 _ _ (wr.alloc (.cells #[.int .i64 kk,.string xx,.int .i64 mm,.slice aa na ca] 25)) _ (Lies.alloc' hx (by omega) _) (hI.below ((Below.refl _ _).alloc (jE _) _)) (by omega) (by omega) (hpsz _ (List.getElem_mem hp)) (by simp;omega)
        have HS:=parD_step hp (at_+1+j) R HR.out
        have HT:Hid ((ps.take (j+1)).map (·.1)=(ps.take j).map (·.1)++[ps[j].1]):=by show _=_;rw [List.take_succ_eq_append_getElem hp,List.map_append];rfl
        have HN:Hid (cntL (ks.take (j+1))=j+1):=hn2
        clear hI hx hk hat hlk hn1 hn2 HR
        generalize ps[j].1=y at *
        generalize enterR ((ps.take j).map (·.1)) y 5 (at_+1+j)=E at *
        cases E with
        | some q =>
          have HE:Hid (R=some q):=HS
          clear HS
          go_wp2_with (fail)
          refine hC.mono ?_
          rintro e w2 ⟨hb2,(⟨q',e1,rfl⟩ | ⟨e1,_⟩)⟩
          · cases e1
            go_wp2
            exact ⟨rfl,(hB.alloc (by omega) _).trans hb2,.inl ⟨q,HRR.out.trans HE.out,rfl⟩⟩
          · cases e1
        | none =>
          have HE:Hid (R=parD ((ps.take (j+1)).map (·.1)) (ps.drop (j+1)) (at_+1+j+1)):=HS
          clear HS
          go_wp2_with (fail)
          refine hC.mono ?_
          rintro e w2 ⟨hb2,(⟨q',e1,_⟩ | ⟨_,rfl,hI2⟩)⟩
          · cases e1
          go_wp2
          go_roundw
          case rel=>exact ⟨j+1,by omega,by go_num,by rw [HN.out,HT.out,show at_+1+((j:Int)+1)=at_+1+j+1 by omega];exact hI2,(hB.alloc (by omega) _).trans hb2,by show _=_;rw [HE.out];congr 1;omega⟩
          case measure=>simp [intOf];omega
      · have hje:j=ps.length:=by omega
        have hkj:ks[j]=b:=by simp only [Hks.out];rw [List.getElem_append_right (by simp;omega)];simp
        rw [hkj] at hx hs1 hs3
        have hC:=vIn b _ (wr.alloc (.cells #[.int .i64 kk,.string xx,.int .i64 mm,.slice aa na ca] 25)) _ (Lies.alloc' hx (by omega) _) hInT (hI.below ((Below.refl _ _).alloc (jE _) _)) (by omega) (by omega)
        rw [show at_+1+cntL (ks.take j)+cntT b=at_+1+cntL (ks.take (j+1)) by omega,show ps.take j=ps.take (j+1) by rw [List.take_of_length_le (by omega),List.take_of_length_le (by omega)]] at hC
        have HE:Hid (R=parD ((ps.take (j+1)).map (·.1)) (ps.drop (j+1)) (at_+1+((j+1:Nat):Int))):=by
          show _=_
          rw [HR.out,List.drop_eq_nil_of_le (by omega),List.drop_eq_nil_of_le (by omega)]
          rfl
        clear hI hx hk hat hlk HR hje
        go_wp2_with (go_at_call 69;refine hC.mono ?_;rintro e w1 ⟨rfl,hb1,hI1⟩)
        go_roundw
        case rel=>exact ⟨j+1,by omega,by go_num,hI1,(hB.alloc (by omega) _).trans hb1,HE⟩
        case measure=>simp [intOf];omega
    · have hlk:=Hkl.out
      have HE:Hid (R=none):=by
        show _=_
        rw [HR.out,List.drop_eq_nil_of_le (by omega)]
        rfl
      rw [List.take_of_length_le (l:=ks) (by omega)] at hI
      clear hlk
      go_wp2
      go_end0
      exact ⟨hB,.inr ⟨HRR.out.trans HE.out,rfl,b0,pv',P',_,by rw [show at_+(1+cntL ks)=at_+1+cntL ks by omega];exact hI,HPP.out⟩⟩
end Go.Proofs.YtfopddgjdaoidaaGreatDoor.face
