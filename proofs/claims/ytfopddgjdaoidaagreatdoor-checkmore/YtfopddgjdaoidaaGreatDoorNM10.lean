/- What the program's local and set answer, once those that they call do: contracts. -/
import Derived.Test.YtfopddgjdaoidaaGreatDoorNM09
set_option linter.unusedVariables false
set_option linter.unusedSimpArgs false
set_option maxRecDepth 100000
namespace Go.Proofs.YtfopddgjdaoidaaGreatDoor.syn
open Go.RowKit
open lexs (Tok Fine own_shape)
section
variable {w w' w0:World} {r G B:Nat} {ts:List Tok} {s:St}
theorem callL_list {x:ByteArray} {f:Nat}:∀ {ks:List Tree} {s:St} {q:Tree × St},s.bad=false→callL ts f x ks s true=some q→∃ p,listL ts (exprF ts) f ks s=some p∧q=(.node 18 x 0 p.1,p.2):=by
  induction f with
  | zero=>intro ks s q hb h;unfold callL at h;simp at h
  | succ f ih =>
    intro ks s q hb h
    unfold callL at h
    rw [hb] at h
    simp only [Bool.not_false,Bool.and_self,if_true] at h
    obtain ⟨q1,h1,h2⟩:=bind_some_is h
    unfold listL
    rw [h1]
    simp only [Option.bind_some]
    unfold eat at h2
    cases he:eqS (txt ts q1.2) ⟨#[44]⟩
    · rw [he] at h2
      simp only [Bool.false_eq_true,if_false] at h2 ⊢
      cases f with
      | zero=>unfold callL at h2;simp at h2
      | succ f =>
        unfold callL at h2
        simp only [Bool.false_and,Bool.false_eq_true,if_false,Option.some.injEq] at h2
        exact ⟨_,rfl,h2.symm⟩
    · rw [he] at h2
      simp only [if_true] at h2 ⊢
      have hb1:q1.2.next.bad=false:=by
        cases hb1:q1.2.bad
        · exact hb1
        · rw [eqS_bad (by decide) hb1] at he
          cases he
      exact ih hb1 h2
theorem callF_list {x:ByteArray} {f:Nat} {q:Tree × St} (hb:(must ts ⟨#[40]⟩ s).bad=false) (h:callF ts (f+1) x s=some q):∃ p,listF ts (exprF ts) f (must ts ⟨#[40]⟩ s)=some p∧q=(.node 18 x 0 p.1,p.2):=by
  unfold callF at h
  unfold listF
  cases he:eqS (txt ts (must ts ⟨#[40]⟩ s)) ⟨#[41]⟩
  · rw [he] at h
    simp only [Bool.false_eq_true,if_false] at h ⊢
    exact callL_list hb h
  · rw [he] at h
    simp only [if_true,Option.some.injEq] at h ⊢
    exact ⟨_,rfl,h.symm⟩
set_option maxHeartbeats 1000000 in
theorem ocall {f:Nat} (ih:∀ {g:Nat},g≤f→Gives r G ts 216 (exprF ts g)) (hf:f≤100000) (x:ByteArray) {w:World} {s:St} {p:List Tree × St} (hL:Ld w r G ts s) (hq:listF ts (exprF ts) f s=some p) :
    Calls Tryz.prog 213 #[.pointer (some ⟨r,0,none⟩),.string x] w (OAns w r G ts (.node 18 x 0 p.1,p.2)):=by
  have c24:Tryz.prog.cellsOf 25=4:=by kernel_rfl
  have hmf:∀ (fn:Fn) (first cap:Array Value) (w:World),(Instr.makeFunc fn first cap).run Tryz.prog w=.ok (.func fn first cap) w:=fun _ _ _ _=>rfl
  have hr:=hL.lt
  have hB0:=Box4.new w (.int .i64 0) (.string empty) (.int .i64 0) (.slice none 0 0) 25
  go_enter Tryz.func213,Tryz.ntmps213
  go_wp2_with (fail)
  refine (olist_expr ih (fun g s q hb h=>(stuck ts g).e s q hb h) hf (hL.alloc _) hq).mono ?_
  rintro e w1 (⟨hb,rfl,hF1⟩ | ⟨hb,hlen,kv,rfl,hK⟩)
  · go_wp2
    exact ⟨rfl,OAns.lost rfl hb ((Fr.al _ _).trans hF1)⟩
  obtain ⟨a,c,rfl⟩:=hK.kids.shape
  have z1:=hK.fr.size
  rw [World.size_alloc] at z1
  obtain ⟨q0,q1',q2,q3,t0,t1,t2,t3⟩:=hB0.fr hK.fr (by omega)
  go_wp2
  refine bodyPost_ret (v:=.agg #[.int .i64 18,.string x,.int .i64 0,.slice a p.1.length c]) (by simp [results,Tryz.results213,go_sem,q0,q1',q2,q3]) rfl ?_
  refine OAns.fin hr ((Fr.al _ _).trans hK.fr) hK.ld (jE _) (Nat.lt_succ_self _) ?_
  exact hK.kids.lies (fun b hb=>⟨by have:=hb.1;rw [World.size_alloc] at this;exact this,hb.2.1⟩) (fun g hg=>by have:=hK.kids.blk hg;rw [World.size_alloc] at this;exact this) (by omega)
theorem isNum_is (hL:Ld w r G ts s) (hlt:s.i<ts.length):isNum ts s=(ts[s.i].kind==2):=by unfold isNum;rw [here_is hL.ok,lt_get hlt]
theorem isNum_not (hlt:¬ s.i<ts.length):isNum ts s=false:=by
  unfold isNum here
  rw [List.getElem?_eq_none (by omega)]
  cases s.bad <;> rfl
def atomF (ts:List Tok) (f:Nat) (s:St):Option (Tree × St) :=
  if eqS (txt ts s) ⟨#[40]⟩ then askedF ts f s
  else if isNum ts s then some (number ts s)
  else if eqS (txt ts (whole ts s).2) ⟨#[40]⟩ then callF ts f (whole ts s).1 (whole ts s).2 else placeF ts f (whole ts s).1 (whole ts s).2
theorem has_at (hL:Ld w r G ts s) (x:ByteArray) (hx:[x].all wordy=true) {b:Bool} (h:eqS (txt ts s) x=b) {M:Nat} {T:TypeId} (hM:M=w.heap.size) :
    Calls Tryz.prog 139 #[.pointer (some ⟨r,0,none⟩),.slice (some ⟨M,0,none⟩) 1 1] (w.alloc (.cells #[.string x] T)) fun e w'=>e=.returned (.bool b)∧Ld w' r G ts s∧Fr r w w' :=
  (ohas (hL.alloc _) [x] M 1 (by simp) hx (Words.one w x T hM)).mono fun e w' ⟨h1,h2⟩=>⟨by rw [h1,has_one h],by rw [h2];exact hL.alloc _,by rw [h2];exact Fr.al _ _⟩
theorem OAns.hand {w3:World} {q:Tree × St} {x0 x1 x2 x3:Value} {w2:World} (hr:r<w.heap.size) (hF:Fr r w w2) (hz:w.heap.size<w2.heap.size) (hb:q.2.bad=false) (hl:Lies (fun b=>w2.heap.size≤b∧b<w3.heap.size) w3 q.1 (.agg #[x0,x1,x2,x3])) (hL3:Ld w3 r G ts q.2) (hF3:Fr r w2 w3) :
    OAns w r G ts q (.returned (.agg #[x0,x1,x2,x3])) ((((w3.setCell ⟨w.heap.size,0,none⟩ x0).setCell ⟨w.heap.size,1,none⟩ x1).setCell ⟨w.heap.size,2,none⟩ x2).setCell ⟨w.heap.size,3,none⟩ x3) :=
  OAns.fin (t:=q.1) (s3:=q.2) hr (hF.trans hF3) hL3 (jE _) hz hl
set_option maxHeartbeats 2000000 in
theorem oatom {f:Nat} (hf:f≤100000) (ihA:Gives r G ts 215 (askedF ts f)) (ih0:∀ {g:Nat},g<f→Gives r G ts 216 (exprF ts g)):Gives r G ts 255 (atomF ts f):=by
  intro w s q hL hq
  have c24:Tryz.prog.cellsOf 25=4:=by kernel_rfl
  have c29:Tryz.prog.cellsOf 99=3:=by kernel_rfl
  have hr:=hL.lt
  have hB0:=Box4.new w (.int .i64 0) (.string empty) (.int .i64 0) (.slice none 0 0) 25
  have hL0:=hL.alloc (.cells #[.int .i64 0,.string empty,.int .i64 0,.slice none 0 0] 25)
  have hlen:=hL.len
  unfold atomF at hq
  cases hp:eqS (txt ts s) ⟨#[40]⟩
  case true =>
    rw [hp,if_pos rfl] at hq
    have hH:=has_at (T:=9) hL0 ⟨#[40]⟩ (by decide) hp (M:=w.heap.size+1) (by simp)
    go_enter Tryz.func255,Tryz.ntmps255
    go_wp2_with (fail)
    refine hH.mono ?_
    rintro e w1 ⟨rfl,hL1,hF1⟩
    have z1:=hF1.size
    rw [World.size_alloc] at z1
    go_wp2_with (fail)
    refine (ihA hL1 hq).mono ?_
    rintro e w9 (⟨hb9,rfl,hF9⟩ | ⟨hb9,v9,rfl,hl9,hL9,hF9⟩)
    · go_wp2
      exact ⟨rfl,OAns.lost rfl hb9 (((Fr.al _ _).trans hF1).trans hF9)⟩
    obtain ⟨k9,x9,m9,_,rfl,a9,n9,c9,rfl⟩:=hl9.shape
    obtain ⟨q0,q1',q2,q3,t0,t1,t2,t3⟩:=(hB0.fr hF1 (by omega)).fr hF9 (by omega)
    go_wp2
    exact bodyPost_ret (v:=.agg #[.int .i64 k9,.string x9,.int .i64 m9,.slice a9 n9 c9]) (by simp [results,Tryz.results255,go_sem,q0,q1',q2,q3]) rfl (OAns.hand hr ((Fr.al _ _).trans hF1) (by omega) hb9 hl9 hL9 hF9)
  case false =>
    rw [hp,if_neg (by decide)] at hq
    have hH:=has_at (T:=9) hL0 ⟨#[40]⟩ (by decide) hp (M:=w.heap.size+1) (by simp)
    cases hn:isNum ts s
    case true =>
      rw [hn,if_pos rfl] at hq
      simp only [Option.some.injEq] at hq
      subst hq
      have hlt:s.i<ts.length:=by
        rcases Nat.lt_or_ge s.i ts.length with h | h
        · exact h
        · rw [isNum_not (by omega)] at hn
          cases hn
      have hk:=(isNum_is hL hlt).symm.trans hn
      go_enter Tryz.func255,Tryz.ntmps255
      go_wp2_with (fail)
      refine hH.mono ?_
      rintro e w1 ⟨rfl,hL1,hF1⟩
      have z1:=hF1.size
      rw [World.size_alloc] at z1
      obtain ⟨a,cp,h0,h1,h2⟩:=hL1.c0
      obtain rfl:=h2 hlt
      obtain ⟨y0,y1,y2⟩:=hL1.tok s.i hlt
      have hnn:0<ts.length - s.i:=by omega
      have hnn':ts.length - s.i≤3000:=by omega
      generalize ts[s.i].kind=tk at *
      generalize ts.length - s.i=nl at *
      go_wp2_with (fail)
      refine (onumber hL1).mono ?_
      rintro e w9 (⟨hb9,rfl,hF9⟩ | ⟨hb9,v9,rfl,hl9,hL9,hF9⟩)
      · go_wp2
        exact ⟨rfl,OAns.lost rfl hb9 (((Fr.al _ _).trans hF1).trans hF9)⟩
      obtain ⟨k9,x9,m9,_,rfl,a9,n9,c9,rfl⟩:=hl9.shape
      obtain ⟨q0,q1',q2,q3,t0,t1,t2,t3⟩:=(hB0.fr hF1 (by omega)).fr hF9 (by omega)
      go_wp2
      exact bodyPost_ret (v:=.agg #[.int .i64 k9,.string x9,.int .i64 m9,.slice a9 n9 c9]) (by simp [results,Tryz.results255,go_sem,q0,q1',q2,q3]) rfl (OAns.hand hr ((Fr.al _ _).trans hF1) (by omega) hb9 hl9 hL9 hF9)
    case false =>
      rw [hn,if_neg (by decide)] at hq
      obtain ⟨f,rfl⟩:∃ f',f=f'+1:=by
        cases f with
        | zero=>unfold callF placeF at hq;simp at hq
        | succ f=>exact ⟨f,rfl⟩
      have ih:∀ {g:Nat},g≤f→Gives r G ts 216 (exprF ts g):=fun h=>ih0 (by omega)
      have hf':f≤100000:=by omega
      by_cases hlt:s.i<ts.length
      · have hk:=(isNum_is hL hlt).symm.trans hn
        go_enter Tryz.func255,Tryz.ntmps255
        go_wp2_with (fail)
        refine hH.mono ?_
        rintro e w1 ⟨rfl,hL1,hF1⟩
        have z1:=hF1.size
        rw [World.size_alloc] at z1
        obtain ⟨a,cp,h0,h1,h2⟩:=hL1.c0
        obtain rfl:=h2 hlt
        obtain ⟨y0,y1,y2⟩:=hL1.tok s.i hlt
        have hnn:0<ts.length - s.i:=by omega
        have hnn':ts.length - s.i≤3000:=by omega
        generalize ts[s.i].kind=tk at *
        generalize ts.length - s.i=nl at *
        go_wp2_with (fail)
        refine (olongName hL1).mono ?_
        rintro e w2 (⟨hb2,rfl,hF2⟩ | ⟨hb2,rfl,hL2,hF2⟩)
        · have HS:Hid (q.2=(whole ts s).2):=by
            rw [eqS_bad (by decide) hb2,if_neg (by decide)] at hq
            exact (stuck ts (f+1)).p _ _ _ hb2 hq
          go_wp2
          exact ⟨rfl,OAns.lost HS.out hb2 (((Fr.al _ _).trans hF1).trans hF2)⟩
        have z2:=hF2.size
        cases hp2:eqS (txt ts (whole ts s).2) ⟨#[40]⟩
        case true =>
          rw [hp2,if_pos rfl] at hq
          have em:=must_next hp2
          obtain ⟨p,hp3,rfl⟩:=callF_list (by rw [em];exact hb2) hq
          rw [em] at hp3
          clear em
          go_wp2_with (fail)
          refine (skip_yes hL2 ⟨#[40]⟩ (by decide) hp2 rfl).mono ?_
          rintro e w3 ⟨rfl,hL3,hF3⟩
          have z3:=hF3.size
          go_wp2_with (fail)
          refine (ocall ih hf' _ hL3 hp3).mono ?_
          rintro e w9 (⟨hb9,rfl,hF9⟩ | ⟨hb9,v9,rfl,hl9,hL9,hF9⟩)
          · go_wp2
            exact ⟨rfl,OAns.lost rfl hb9 (((((Fr.al _ _).trans hF1).trans hF2).trans hF3).trans hF9)⟩
          obtain ⟨k9,x9,m9,_,rfl,a9,n9,c9,rfl⟩:=hl9.shape
          obtain ⟨q0,q1',q2,q3,t0,t1,t2,t3⟩:=(((hB0.fr hF1 (by omega)).fr hF2 (by omega)).fr hF3 (by omega)).fr hF9 (by omega)
          go_wp2
          exact bodyPost_ret (v:=.agg #[.int .i64 k9,.string x9,.int .i64 m9,.slice a9 n9 c9]) (by simp [results,Tryz.results255,go_sem,q0,q1',q2,q3]) rfl (OAns.hand hr ((((Fr.al _ _).trans hF1).trans hF2).trans hF3) (by omega) hb9 hl9 hL9 hF9)
        case false =>
          rw [hp2,if_neg (by decide)] at hq
          go_wp2_with (fail)
          refine (skip_no hL2 ⟨#[40]⟩ (by decide) hp2 rfl).mono ?_
          rintro e w3 ⟨rfl,hL3,hF3⟩
          have z3:=hF3.size
          go_wp2_with (fail)
          refine (oplace (ih (jE _)) _ hL3 hq).mono ?_
          rintro e w9 (⟨hb9,rfl,hF9⟩ | ⟨hb9,v9,rfl,hl9,hL9,hF9⟩)
          · go_wp2
            exact ⟨rfl,OAns.lost rfl hb9 (((((Fr.al _ _).trans hF1).trans hF2).trans hF3).trans hF9)⟩
          obtain ⟨k9,x9,m9,_,rfl,a9,n9,c9,rfl⟩:=hl9.shape
          obtain ⟨q0,q1',q2,q3,t0,t1,t2,t3⟩:=(((hB0.fr hF1 (by omega)).fr hF2 (by omega)).fr hF3 (by omega)).fr hF9 (by omega)
          go_wp2
          exact bodyPost_ret (v:=.agg #[.int .i64 k9,.string x9,.int .i64 m9,.slice a9 n9 c9]) (by simp [results,Tryz.results255,go_sem,q0,q1',q2,q3]) rfl (OAns.hand hr ((((Fr.al _ _).trans hF1).trans hF2).trans hF3) (by omega) hb9 hl9 hL9 hF9)
      · go_enter Tryz.func255,Tryz.ntmps255
        go_wp2_with (fail)
        refine hH.mono ?_
        rintro e w1 ⟨rfl,hL1,hF1⟩
        have z1:=hF1.size
        rw [World.size_alloc] at z1
        obtain ⟨a,cp,h0,h1,h2⟩:=hL1.c0
        have hnn:ts.length - s.i=0:=by omega
        rw [hnn] at h0
        go_wp2_with (fail)
        refine (olongName hL1).mono ?_
        rintro e w2 (⟨hb2,rfl,hF2⟩ | ⟨hb2,rfl,hL2,hF2⟩)
        · have HS:Hid (q.2=(whole ts s).2):=by
            rw [eqS_bad (by decide) hb2,if_neg (by decide)] at hq
            exact (stuck ts (f+1)).p _ _ _ hb2 hq
          go_wp2
          exact ⟨rfl,OAns.lost HS.out hb2 (((Fr.al _ _).trans hF1).trans hF2)⟩
        have z2:=hF2.size
        cases hp2:eqS (txt ts (whole ts s).2) ⟨#[40]⟩
        case true =>
          rw [hp2,if_pos rfl] at hq
          have em:=must_next hp2
          obtain ⟨p,hp3,rfl⟩:=callF_list (by rw [em];exact hb2) hq
          rw [em] at hp3
          clear em
          go_wp2_with (fail)
          refine (skip_yes hL2 ⟨#[40]⟩ (by decide) hp2 rfl).mono ?_
          rintro e w3 ⟨rfl,hL3,hF3⟩
          have z3:=hF3.size
          go_wp2_with (fail)
          refine (ocall ih hf' _ hL3 hp3).mono ?_
          rintro e w9 (⟨hb9,rfl,hF9⟩ | ⟨hb9,v9,rfl,hl9,hL9,hF9⟩)
          · go_wp2
            exact ⟨rfl,OAns.lost rfl hb9 (((((Fr.al _ _).trans hF1).trans hF2).trans hF3).trans hF9)⟩
          obtain ⟨k9,x9,m9,_,rfl,a9,n9,c9,rfl⟩:=hl9.shape
          obtain ⟨q0,q1',q2,q3,t0,t1,t2,t3⟩:=(((hB0.fr hF1 (by omega)).fr hF2 (by omega)).fr hF3 (by omega)).fr hF9 (by omega)
          go_wp2
          exact bodyPost_ret (v:=.agg #[.int .i64 k9,.string x9,.int .i64 m9,.slice a9 n9 c9]) (by simp [results,Tryz.results255,go_sem,q0,q1',q2,q3]) rfl (OAns.hand hr ((((Fr.al _ _).trans hF1).trans hF2).trans hF3) (by omega) hb9 hl9 hL9 hF9)
        case false =>
          rw [hp2,if_neg (by decide)] at hq
          go_wp2_with (fail)
          refine (skip_no hL2 ⟨#[40]⟩ (by decide) hp2 rfl).mono ?_
          rintro e w3 ⟨rfl,hL3,hF3⟩
          have z3:=hF3.size
          go_wp2_with (fail)
          refine (oplace (ih (jE _)) _ hL3 hq).mono ?_
          rintro e w9 (⟨hb9,rfl,hF9⟩ | ⟨hb9,v9,rfl,hl9,hL9,hF9⟩)
          · go_wp2
            exact ⟨rfl,OAns.lost rfl hb9 (((((Fr.al _ _).trans hF1).trans hF2).trans hF3).trans hF9)⟩
          obtain ⟨k9,x9,m9,_,rfl,a9,n9,c9,rfl⟩:=hl9.shape
          obtain ⟨q0,q1',q2,q3,t0,t1,t2,t3⟩:=(((hB0.fr hF1 (by omega)).fr hF2 (by omega)).fr hF3 (by omega)).fr hF9 (by omega)
          go_wp2
          exact bodyPost_ret (v:=.agg #[.int .i64 k9,.string x9,.int .i64 m9,.slice a9 n9 c9]) (by simp [results,Tryz.results255,go_sem,q0,q1',q2,q3]) rfl (OAns.hand hr ((((Fr.al _ _).trans hF1).trans hF2).trans hF3) (by omega) hb9 hl9 hL9 hF9)
set_option maxHeartbeats 2000000 in
theorem oprefixed {f:Nat} (ihU:Gives r G ts 251 (unaryF ts f)) (ihA:Gives r G ts 255 (atomF ts f)):Gives r G ts 251 (unaryF ts (f+1)):=by
  intro w s q hL hq
  have c24:Tryz.prog.cellsOf 25=4:=by kernel_rfl
  have hr:=hL.lt
  have hB0:=Box4.new w (.int .i64 0) (.string empty) (.int .i64 0) (.slice none 0 0) 25
  have hL0:=hL.alloc (.cells #[.int .i64 0,.string empty,.int .i64 0,.slice none 0 0] 25)
  unfold unaryF at hq
  cases hm:eqS (txt ts s) ⟨#[45]⟩
  case true =>
    rw [hm,if_pos rfl] at hq
    obtain ⟨q1,h1,h2⟩:=bind_some_is hq
    simp only [Option.some.injEq] at h2
    subst h2
    have hE:=skip_yes (T:=9) hL0 ⟨#[45]⟩ (by decide) hm (M:=w.heap.size+1) (by simp)
    go_enter Tryz.func251,Tryz.ntmps251
    go_wp2_with (fail)
    refine hE.mono ?_
    rintro e w1 ⟨rfl,hL1,hF1⟩
    have z1:=hF1.size
    rw [World.size_alloc] at z1
    go_wp2_with (fail)
    refine (ihU hL1 h1).mono ?_
    rintro e w2 (⟨hb2,rfl,hF2⟩ | ⟨hb2,v2,rfl,hl2,hL2,hF2⟩)
    · go_wp2
      exact ⟨rfl,OAns.lost rfl hb2 (((Fr.al _ _).trans hF1).trans hF2)⟩
    obtain ⟨k,y,m,_,rfl,a,n,c,rfl⟩:=hl2.shape
    have z2:=hF2.size
    have hz:w.heap.size<w2.heap.size:=by omega
    obtain ⟨q0,q1',q2,q3,t0,t1,t2,t3⟩:=(hB0.fr hF1 (by omega)).fr hF2 (by omega)
    go_wp2
    refine bodyPost_ret (v:=.agg #[.int .i64 20,.string empty,.int .i64 0,.slice (some ⟨w2.heap.size,0,none⟩) 1 1]) (by simp [results,Tryz.results251,go_sem,q0,q1',q2,q3,hz,empty]) rfl ?_
    have hput:=Fr.put w2 w.heap.size (.int .i64 20) (.string empty) (.int .i64 0) (.slice (some ⟨w2.heap.size,0,none⟩) 1 1)
    have hl3:=(hl2.fr (show w.heap.size<w1.heap.size by omega) hput).low (show w.heap.size≤w1.heap.size by omega)
    exact .inr ⟨hb2,_,rfl,hl3.rowed (by simp;omega) (by simp),(hL2.put4 (by omega) _ _ _ _).alloc _,((((Fr.al _ _).trans hF1).trans hF2).put4 (jE _) _ _ _ _).alloc _⟩
  case false =>
    rw [hm,if_neg (by decide)] at hq
    have hE:=skip_no (T:=9) hL0 ⟨#[45]⟩ (by decide) hm (M:=w.heap.size+1) (by simp)
    cases hx:eqS (txt ts s) ⟨#[33]⟩
    case true =>
      rw [hx,if_pos rfl] at hq
      obtain ⟨q1,h1,h2⟩:=bind_some_is hq
      simp only [Option.some.injEq] at h2
      subst h2
      go_enter Tryz.func251,Tryz.ntmps251
      go_wp2_with (fail)
      refine hE.mono ?_
      rintro e w0 ⟨rfl,hL00,hF0⟩
      go_wp2_with (fail)
      refine (skip_yes hL00 ⟨#[33]⟩ (by decide) hx rfl).mono ?_
      rintro e w1 ⟨rfl,hL1,hF1'⟩
      have hF1:=hF0.trans hF1'
      have z1:=hF1.size
      rw [World.size_alloc] at z1
      go_wp2_with (fail)
      refine (ihU hL1 h1).mono ?_
      rintro e w2 (⟨hb2,rfl,hF2⟩ | ⟨hb2,v2,rfl,hl2,hL2,hF2⟩)
      · go_wp2
        exact ⟨rfl,OAns.lost rfl hb2 (((Fr.al _ _).trans hF1).trans hF2)⟩
      obtain ⟨k,y,m,_,rfl,a,n,c,rfl⟩:=hl2.shape
      have z2:=hF2.size
      have hz:w.heap.size<w2.heap.size:=by omega
      obtain ⟨q0,q1',q2,q3,t0,t1,t2,t3⟩:=(hB0.fr hF1 (by omega)).fr hF2 (by omega)
      go_wp2
      refine bodyPost_ret (v:=.agg #[.int .i64 21,.string empty,.int .i64 0,.slice (some ⟨w2.heap.size,0,none⟩) 1 1]) (by simp [results,Tryz.results251,go_sem,q0,q1',q2,q3,hz,empty]) rfl ?_
      have hput:=Fr.put w2 w.heap.size (.int .i64 21) (.string empty) (.int .i64 0) (.slice (some ⟨w2.heap.size,0,none⟩) 1 1)
      have hl3:=(hl2.fr (show w.heap.size<w1.heap.size by omega) hput).low (show w.heap.size≤w1.heap.size by omega)
      exact .inr ⟨hb2,_,rfl,hl3.rowed (by simp;omega) (by simp),(hL2.put4 (by omega) _ _ _ _).alloc _,((((Fr.al _ _).trans hF1).trans hF2).put4 (jE _) _ _ _ _).alloc _⟩
    case false =>
      rw [hx,if_neg (by decide)] at hq
      go_enter Tryz.func251,Tryz.ntmps251
      go_wp2_with (fail)
      refine hE.mono ?_
      rintro e w0 ⟨rfl,hL00,hF0⟩
      go_wp2_with (fail)
      refine (skip_no hL00 ⟨#[33]⟩ (by decide) hx rfl).mono ?_
      rintro e w1 ⟨rfl,hL1,hF1'⟩
      have hF1:=hF0.trans hF1'
      have z1:=hF1.size
      rw [World.size_alloc] at z1
      go_wp2_with (fail)
      refine (ihA hL1 (q:=q) hq).mono ?_
      rintro e w9 (⟨hb9,rfl,hF9⟩ | ⟨hb9,v9,rfl,hl9,hL9,hF9⟩)
      · go_wp2
        exact ⟨rfl,OAns.lost rfl hb9 (((Fr.al _ _).trans hF1).trans hF9)⟩
      obtain ⟨k9,x9,m9,_,rfl,a9,n9,c9,rfl⟩:=hl9.shape
      obtain ⟨q0,q1',q2,q3,t0,t1,t2,t3⟩:=(hB0.fr hF1 (by omega)).fr hF9 (by omega)
      go_wp2
      exact bodyPost_ret (v:=.agg #[.int .i64 k9,.string x9,.int .i64 m9,.slice a9 n9 c9]) (by simp [results,Tryz.results251,go_sem,q0,q1',q2,q3]) rfl (OAns.hand hr ((Fr.al _ _).trans hF1) (by omega) hb9 hl9 hL9 hF9)
end
end Go.Proofs.YtfopddgjdaoidaaGreatDoor.syn
namespace Go.Proofs.YtfopddgjdaoidaaGreatDoor.syn
open Go.RowKit
open lexs (Tok Fine)
section
variable {r G:Nat} {ts:List Tok}
structure GoodX (r G:Nat) (ts:List Tok) (f:Nat):Prop where
  e:Gives r G ts 216 (exprF ts f)
  b1:Gives r G ts 232 (boundF ts f 1)
  b2:Gives r G ts 242 (boundF ts f 2)
  b3:Gives r G ts 251 (boundF ts f 3)
  u:Gives r G ts 251 (unaryF ts f)
  a:Gives r G ts 215 (askedF ts f)
  p:∀ (x:ByteArray) {w:World} {s:St} {q:Tree × St},Ld w r G ts s→placeF ts f x s=some q→Calls Tryz.prog 217 #[.pointer (some ⟨r,0,none⟩),.string x] w (OAns w r G ts q)
theorem goodX0:GoodX r G ts 0 :=
  ⟨fun {w s q} _ h=>by simp [exprF] at h,fun {w s q} _ h=>by simp [boundF] at h,fun {w s q} _ h=>by simp [boundF] at h,fun {w s q} _ h=>by simp [boundF] at h,fun {w s q} _ h=>by simp [unaryF] at h,fun {w s q} _ h=>by simp [askedF] at h,fun x {w s q} _ h=>by simp [placeF] at h⟩
theorem goodX (r G:Nat) (ts:List Tok) (F:Nat) (hF:F≤100000):∀ {f:Nat},f≤F→GoodX r G ts f:=by
  induction F with
  | zero => intro f hf;obtain rfl:f=0:=by omega
            exact goodX0
  | succ F ih =>
    intro f hf
    have IH:∀ {g:Nat},g≤F→GoodX r G ts g:=ih (by omega)
    rcases Nat.lt_or_ge f (F+1) with h | h
    · exact IH (by omega)
    obtain rfl:f=F+1:=by omega
    refine ⟨?_,osum fun h=>(IH h).b2,oproduct fun h=>(IH h).b3,?_,oprefixed (IH (jE _)).u (oatom (by omega) (IH (jE _)).a (fun h=>(IH (by omega)).e)),oenclosed (IH (jE _)).e,fun x {w s q} hL hq=>oplace (IH (jE _)).e x hL hq⟩
    · cases F with
      | zero =>
        intro w s q hL h
        unfold exprF at h
        rw [hL.ok] at h
        simp [boundF] at h
      | succ F=>exact oexpr fun h=>(IH (by omega)).b1
    · intro w s q hL h
      unfold boundF at h
      rw [if_pos (by decide)] at h
      exact (IH (jE _)).u hL h
end
end Go.Proofs.YtfopddgjdaoidaaGreatDoor.syn
namespace Go.Proofs.YtfopddgjdaoidaaGreatDoor.syn
open Go.RowKit
open lexs (Tok Fine own_shape)
section
variable {w w' w0:World} {r G B:Nat} {ts:List Tok} {s:St}
def localF (ts:List Tok) (f:Nat) (s:St):Option (Tree × St) :=
  (exprF ts f (must ts ⟨#[61]⟩ (name ts (label ts s).2).2)).bind fun x=>some (.node 7 (name ts (label ts s).2).1 (label ts s).1 [x.1],x.2)
def setF (ts:List Tok) (f:Nat) (s:St):Option (Tree × St) :=
  (placeF ts f (whole ts s).1 (whole ts s).2).bind fun x=>(exprF ts f (must ts ⟨#[61]⟩ x.2)).bind fun y=>some (.node 8 empty 0 [x.1,y.1],y.2)
set_option maxHeartbeats 2000000 in
theorem olocal {f:Nat} (ih:Gives r G ts 216 (exprF ts f)):Gives r G ts 211 (localF ts f):=by
  intro w s q hL hq
  have c24:Tryz.prog.cellsOf 25=4:=by kernel_rfl
  have hr:=hL.lt
  have hB0:=Box4.new w (.int .i64 0) (.string empty) (.int .i64 0) (.slice none 0 0) 25
  unfold localF at hq
  obtain ⟨q1,h1,h2⟩:=bind_some_is hq
  simp only [Option.some.injEq] at h2
  subst h2
  clear hq
  have S1:Hid ((label ts s).2.bad=true→q1.2=(label ts s).2):=fun hb=>by
    have e1:=name_st (ts:=ts) hb
    rw [e1,must_st (by decide) hb] at h1
    exact (stuck ts f).e _ _ hb h1
  have S2:Hid ((name ts (label ts s).2).2.bad=true→q1.2=(name ts (label ts s).2).2):=fun hb=>by
    rw [must_st (by decide) hb] at h1
    exact (stuck ts f).e _ _ hb h1
  have S3:Hid ((must ts ⟨#[61]⟩ (name ts (label ts s).2).2).bad=true→q1.2=must ts ⟨#[61]⟩ (name ts (label ts s).2).2):=fun hb=>(stuck ts f).e _ _ hb h1
  have hLab:=olabel (hL.alloc (.cells #[.int .i64 0,.string empty,.int .i64 0,.slice none 0 0] 25))
  generalize label ts s=lb at *
  obtain ⟨lm,ls⟩:=lb
  have hNam:=fun (w:World) (h:Ld w r G ts ls)=>oname h
  simp only at *
  generalize name ts ls=nb at *
  obtain ⟨nx,ns⟩:=nb
  simp only at *
  go_enter Tryz.func211,Tryz.ntmps211
  go_wp2_with (fail)
  refine hLab.mono ?_
  rintro e w1 (⟨hb,rfl,hF1⟩ | ⟨hb,rfl,hL1,hF1⟩)
  · go_wp2
    exact ⟨rfl,OAns.lost (S1.out hb) hb ((Fr.al _ _).trans hF1)⟩
  go_wp2_with (fail)
  refine (hNam _ hL1).mono ?_
  rintro e w2 (⟨hb2,rfl,hF2⟩ | ⟨hb2,rfl,hL2,hF2⟩)
  · go_wp2
    exact ⟨rfl,OAns.lost (S2.out hb2) hb2 (((Fr.al _ _).trans hF1).trans hF2)⟩
  go_wp2_with (fail)
  refine (take_must (hL2.alloc _) ⟨#[61]⟩ (by decide) (by simp)).mono ?_
  rintro e w3 ⟨y3,⟨hb3,rfl,hF3⟩ | ⟨hb3,rfl,hL3,hF3⟩⟩
  · go_wp2
    exact ⟨rfl,OAns.lost (S3.out hb3) hb3 ((((Fr.al _ _).trans hF1).trans hF2).trans ((Fr.al _ _).trans hF3))⟩
  go_wp2_with (fail)
  refine (ih hL3 h1).mono ?_
  rintro e w4 (⟨hb4,rfl,hF4⟩ | ⟨hb4,v4,rfl,hl4,hL4,hF4⟩)
  · go_wp2
    exact ⟨rfl,OAns.lost rfl hb4 (((((Fr.al _ _).trans hF1).trans hF2).trans ((Fr.al _ _).trans hF3)).trans hF4)⟩
  obtain ⟨k,x,m,_,rfl,a,n,c,rfl⟩:=hl4.shape
  have z1:=hF1.size
  have z2:=hF2.size
  have z3:=hF3.size
  have z4:=hF4.size
  rw [World.size_alloc] at z1 z3
  obtain ⟨q0,q1',q2,q3,t0,t1,t2,t3⟩:=((((hB0.fr hF1 (by omega)).fr hF2 (by omega)).alloc _).fr hF3 (by omega)).fr hF4 (by omega)
  obtain ⟨p0,p1,p2,p3,u0,u1,u2,u3⟩:=((Box4.new w2 (.int .i64 7) (.string nx) (.int .i64 lm) (.slice none 0 0) 25).fr hF3 (by omega)).fr hF4 (by omega)
  have hz0:w.heap.size<w4.heap.size:=by omega
  have hz2:w2.heap.size<w4.heap.size:=by omega
  go_wp2
  refine bodyPost_ret (v:=.agg #[.int .i64 7,.string nx,.int .i64 lm,.slice (some ⟨w4.heap.size,0,none⟩) 1 1]) (by simp [results,Tryz.results211,go_sem,q0,q1',q2,q3,hz0,hz2]) rfl ?_
  have hFw:Fr r w w4:=((((Fr.al _ _).trans hF1).trans hF2).trans ((Fr.al _ _).trans hF3)).trans hF4
  have l5:=hl4.frP (x:=w2.heap.size) ((Fr.refl w2.heap.size w4).set 3 (.slice (some ⟨w4.heap.size,0,none⟩) 1 1)) (fun b hb=>⟨hb.2,by omega⟩) (fun b hb=>(⟨hb.1,by rw [World.size_setCell];exact hb.2⟩:w3.heap.size≤b∧b<(w4.setCell ⟨w2.heap.size,3,none⟩ (.slice (some ⟨w4.heap.size,0,none⟩) 1 1)).heap.size))
  have hput:=Fr.put (w4.setCell ⟨w2.heap.size,3,none⟩ (.slice (some ⟨w4.heap.size,0,none⟩) 1 1)) w.heap.size (.int .i64 7) (.string nx) (.int .i64 lm) (.slice (some ⟨w4.heap.size,0,none⟩) 1 1)
  exact .inr ⟨hb4,_,rfl,((l5.fr (show w.heap.size<w3.heap.size by omega) hput).low (show w.heap.size≤w3.heap.size by omega)).rowed (by simp;omega) (by simp),((hL4.set (by omega) 3 _).put4 (by omega) _ _ _ _).alloc _,((hFw.setNew (by omega) _).put4 (jE _) _ _ _ _).alloc _⟩
set_option maxHeartbeats 2000000 in
theorem oset {f:Nat} (ihP:∀ (x:ByteArray) {w:World} {s:St} {q:Tree × St},Ld w r G ts s→placeF ts f x s=some q→Calls Tryz.prog 217 #[.pointer (some ⟨r,0,none⟩),.string x] w (OAns w r G ts q)) (ih:Gives r G ts 216 (exprF ts f)):Gives r G ts 218 (setF ts f):=by
  intro w s q hL hq
  have c24:Tryz.prog.cellsOf 25=4:=by kernel_rfl
  have hr:=hL.lt
  have hB0:=Box4.new w (.int .i64 0) (.string empty) (.int .i64 0) (.slice none 0 0) 25
  unfold setF at hq
  obtain ⟨q1,h1,h2⟩:=bind_some_is hq
  obtain ⟨q2,h3,h4⟩:=bind_some_is h2
  simp only [Option.some.injEq] at h4
  subst h4
  clear hq h2
  have S2:Hid (q1.2.bad=true→q2.2=q1.2):=fun hb=>by
    rw [must_st (by decide) hb] at h3
    exact (stuck ts f).e _ _ hb h3
  have S1:Hid ((whole ts s).2.bad=true→q2.2=(whole ts s).2):=fun hb=>by
    have e1:=(stuck ts f).p _ _ _ hb h1
    rw [S2.out (by rw [e1];exact hb),e1]
  have S3:Hid ((must ts ⟨#[61]⟩ q1.2).bad=true→q2.2=must ts ⟨#[61]⟩ q1.2):=fun hb=>(stuck ts f).e _ _ hb h3
  have hLab:=olongName (hL.alloc (.cells #[.int .i64 0,.string empty,.int .i64 0,.slice none 0 0] 25))
  generalize whole ts s=lb at *
  obtain ⟨nx,ns⟩:=lb
  simp only at *
  go_enter Tryz.func218,Tryz.ntmps218
  go_wp2_with (fail)
  refine hLab.mono ?_
  rintro e w1 (⟨hb,rfl,hF1⟩ | ⟨hb,rfl,hL1,hF1⟩)
  · go_wp2
    exact ⟨rfl,OAns.lost (S1.out hb) hb ((Fr.al _ _).trans hF1)⟩
  go_wp2_with (fail)
  refine (ihP nx hL1 h1).mono ?_
  rintro e w2 (⟨hb2,rfl,hF2⟩ | ⟨hb2,v2,rfl,hl2,hL2,hF2⟩)
  · go_wp2
    exact ⟨rfl,OAns.lost (S2.out hb2) hb2 (((Fr.al _ _).trans hF1).trans hF2)⟩
  obtain ⟨k,x,m,_,rfl,a,n,c,rfl⟩:=hl2.shape
  go_wp2_with (fail)
  refine (take_must (hL2.alloc _) ⟨#[61]⟩ (by decide) (by simp)).mono ?_
  rintro e w3 ⟨y3,⟨hb3,rfl,hF3⟩ | ⟨hb3,rfl,hL3,hF3⟩⟩
  · go_wp2
    exact ⟨rfl,OAns.lost (S3.out hb3) hb3 ((((Fr.al _ _).trans hF1).trans hF2).trans ((Fr.al _ _).trans hF3))⟩
  have z1:=hF1.size
  have z2:=hF2.size
  have z3:=hF3.size
  rw [World.size_alloc] at z1 z3
  have hB1:=(Box4.new w2 (.int .i64 k) (.string x) (.int .i64 m) (.slice a n c) 25).fr hF3 (by omega)
  have hB3:=(((hB0.fr hF1 (by omega)).fr hF2 (by omega)).alloc _).fr hF3 (by omega)
  obtain ⟨p0,p1,p2,p3,u0,u1,u2,u3⟩:=id hB1
  have hFw:Fr r w w3:=(((Fr.al _ _).trans hF1).trans hF2).trans ((Fr.al _ _).trans hF3)
  by_cases hbq:q2.2.bad=true
  · go_wp2
    refine wp_region_any (by kernel_rfl) ?_
    change wpAny _ _ _ _ _ _ _ (World.drew _)
    refine tk0 (i:=1) (v:=.pointer (some ⟨r,0,none⟩)) rfl (Or.inl ⟨by rfl,fun w=>by go_simp⟩) ?_
    refine wpAny_ready (rs:=[0,2]) (by kernel_rfl) (by simp) ?_
    refine AllReady.cons rfl (fun K hK=>?_) ?_
    · go_simp
      refine hK _ _ ?_
      clear hK K
      refine wpAny_ready (rs:=[2]) (by kernel_rfl) (by simp) ?_
      refine AllReady.cons rfl (fun K hK=>?_) AllReady.nil
      go_simp
      go_at_call 216
      refine (ih.lost (hL3.drewN 1) h3 hbq).mono ?_
      rintro e w4 ⟨rfl,hF4⟩
      go_wp2
      exact ⟨rfl,OAns.lost rfl hbq ((hFw.drewN 1).trans hF4)⟩
    refine AllReady.cons rfl (fun K hK=>?_) AllReady.nil
    go_simp
    go_at_call 216
    refine (ih.lost (hL3.drewN 1) h3 hbq).mono ?_
    rintro e w4 ⟨rfl,hF4⟩
    go_wp2
    exact ⟨rfl,OAns.lost rfl hbq ((hFw.drewN 1).trans hF4)⟩
  · have hbq':q2.2.bad=false:=by simpa using hbq
    go_wp2
    go_region_with (go_at_call 216;refine (ih.fine (hL3.drewN 1) h3 hbq').mono ?_;rintro e w4 ⟨v4,rfl,hl4,hL4,hF4⟩;obtain ⟨k4,x4,m4,_,rfl,a4,n4,c4,rfl⟩:=hl4.shape;obtain ⟨g0,g1,g2,g3,_,_,_,_⟩:=(hB1.drewN 1).fr hF4 (by omega);obtain ⟨f0,f1,f2,f3,i0,i1,i2,i3⟩:=(hB3.drewN 1).fr hF4 (by omega);have y4:w.heap.size<w4.heap.size:=((hB3.drewN 1).fr hF4 (by omega)).lt)
    all_goals
      go_wp2
      refine bodyPost_ret (v:=.agg #[.int .i64 8,.string empty,.int .i64 0,.slice (some ⟨w4.heap.size,0,none⟩) 2 2]) (by simp [results,Tryz.results218,go_sem,f0,f1,f2,f3,y4,empty]) rfl ?_
      have hF34:Fr r w3 w4:=((Fr.refl r w3).drewN 1).trans hF4
      have y3':=hF34.size
      have m3':Lies (fun b=>w.heap.size<b∧b<w4.heap.size) w4 q2.1 (.agg #[.int .i64 k4,.string x4,.int .i64 m4,.slice a4 n4 c4]):=hl4.to (fun b hb=>by
        have h1:w3.heap.size≤b:=hb.1
        exact ⟨by omega,hb.2⟩) (fun _ _ _=>rfl)
      have n3':Lies (fun b=>w.heap.size<b∧b<w4.heap.size) w4 q1.1 (.agg #[.int .i64 k,.string x,.int .i64 m,.slice a n c]):=hl2.frP (x:=r) (((Fr.al _ _).trans hF3).trans hF34) (fun b hb=>⟨hb.2,by omega⟩) (fun b hb=>⟨by omega,by omega⟩)
      have hput:=Fr.put w4 w.heap.size (.int .i64 8) (.string empty) (.int .i64 0) (.slice (some ⟨w4.heap.size,0,none⟩) 2 2)
      have n4':=n3'.frP (x:=w.heap.size) hput (fun b hb=>⟨hb.2,by omega⟩) (fun b hb=>hb)
      have m4':=m3'.frP (x:=w.heap.size) hput (fun b hb=>⟨hb.2,by omega⟩) (fun b hb=>hb)
      exact .inr ⟨hbq',_,rfl,n4'.rowed2P m4' (fun b hb=>by simpa using hb.2) (fun b hb=>⟨by omega,by simp;omega⟩) (by simp) ⟨by omega,by simp⟩,(hL4.put4 (by omega) _ _ _ _).alloc _,((hFw.trans hF34).put4 (jE _) _ _ _ _).alloc _⟩
end
end Go.Proofs.YtfopddgjdaoidaaGreatDoor.syn
