/- What the program's list answers, once what it calls does: a contract. -/
import Derived.Test.YtfopddgjdaoidaaGreatDoorNM08
set_option linter.unusedVariables false
set_option linter.unusedSimpArgs false
set_option maxRecDepth 100000
namespace Go.Proofs.YtfopddgjdaoidaaGreatDoor.syn
open Go.RowKit
open lexs (Tok Fine own_shape)
section
variable (ts:List Tok) (item:Nat→St→Option (Tree × St))
def listL:Nat→List Tree→St→Option (List Tree × St)
  | 0,_,_=>none
  | f+1,ks,s=>(item f s).bind fun q=>if eqS (txt ts q.2) ⟨#[44]⟩ then listL f (ks++[q.1]) q.2.next else some (ks++[q.1],must ts ⟨#[41]⟩ q.2)
def listF (f:Nat) (s:St):Option (List Tree × St):=if eqS (txt ts s) ⟨#[41]⟩ then some ([],s.next) else listL ts item f [] s
end
section
variable {w w' w0:World} {r G B:Nat} {ts:List Tok} {s:St} {kv:Value} {ks:List Tree}
structure KO (w0:World) (B r G:Nat) (ts:List Tok) (w:World) (s:St) (kv:Value) (ks:List Tree):Prop where
  ld:Ld w r G ts s
  low:r<w0.heap.size
  b0:w0.heap.size≤B
  fr:Fr r w0 w
  kids:Kids B (fun b=>B≤b∧b<w.heap.size∧some b≠kv.ownBlock) w kv ks
theorem KO.nr (h:KO w0 B r G ts w s kv ks):kv.ownBlock≠some r:=fun e=>by have h1:=(h.kids.blk e).1;have h2:=h.low;have h3:=h.b0;omega
theorem KO.step (h:KO w0 B r G ts w s kv ks) {s':St} (hL:Ld w' r G ts s') (hF:Fr r w w'):KO w0 B r G ts w' s' kv ks :=
  ⟨hL,h.low,h.b0,h.fr.trans hF,h.kids.grown hF (.inr h.nr) (fun b hb=>⟨hb.2.1,by have:=h.low;have:=h.b0;simp;omega⟩) (fun b hb=>⟨hb.1,Nat.lt_of_lt_of_le hb.2.1 hF.size,hb.2.2⟩)⟩
theorem KO.set (h:KO w0 B r G ts w s kv ks) {N:Nat} (hN:w0.heap.size≤N) (hB:N<B) (o:Nat) (v:Value):KO w0 B r G ts (w.setCell ⟨N,o,none⟩ v) s kv ks :=
  ⟨h.ld.set (by have:=h.low;omega) o v,h.low,h.b0,h.fr.setNew hN v,h.kids.grown ((Fr.refl N w).set o v) (.inr (fun e=>by have:=(h.kids.blk e).1;omega)) (fun b hb=>⟨hb.2.1,by simp;omega⟩) (fun b hb=>⟨hb.1,by rw [World.size_setCell];exact hb.2.1,hb.2.2⟩)⟩
theorem KO.pushed {vs:List Q4} (h:KO w0 B r G ts w s kv ks) (ho:w.ownsRow B 25 4 kv ks.length (flat4 vs)) (ha:AllLie (fun b=>B≤b∧b<w.heap.size∧some b≠kv.ownBlock) w ks vs)
    {t:Tree} {q:Q4} (hl:Lies (fun b=>B≤b∧b<w.heap.size∧some b≠kv.ownBlock) w t q.v) {w4:World} {v':Value} {o:Obj} (hown':w4.ownsRow B 25 4 v' (ks.length+1) (flat4 vs++[q.1,q.2.1,q.2.2.1,q.2.2.2]))
    (hgrow:(w.alloc o).grownBy w4 kv.ownBlock) (hfr:v'.ownBlock=kv.ownBlock∨v'.ownBlock=some (w.heap.size+1)):KO w0 B r G ts w4 s v' (ks++[t]):=by
  have hG:w.grownBy w4 kv.ownBlock:=grown_trans (World.grownBy_alloc w _ _) hgrow
  have s4:=hG.size
  have hlow:=h.low
  have hb0:=h.b0
  have hQ:∀ b,(B≤b∧b<w.heap.size∧some b≠kv.ownBlock)→(B≤b∧b<w4.heap.size∧some b≠v'.ownBlock):=fun b hb=>⟨hb.1,by omega,fun e=>by
    rcases hfr with e' | e'
    · exact hb.2.2 (e.trans e')
    · rw [e'] at e
      have:b=w.heap.size+1:=by simpa using e
      omega⟩
  have hsame:∀ b,(B≤b∧b<w.heap.size∧some b≠kv.ownBlock)→∀ j,w4.cell? ⟨b,j,none⟩=w.cell? ⟨b,j,none⟩:=fun b hb j=>World.cell?_of_block (a:=⟨b,j,none⟩) (hG.block b hb.2.1 hb.2.2)
  refine ⟨h.ld.keep hG (fun k e=>by have h1:=(h.kids.blk e).1;omega),h.low,h.b0,?_,vs++[q],?_,AllLie.snoc (hl.to hQ hsame) (ha.to hQ hsame)⟩
  · exact ⟨hG.os.trans h.fr.os,hG.tape.trans h.fr.tape,hG.output.trans h.fr.output,Nat.le_trans h.fr.size hG.size,fun j hj hn=>(hG.block j (Nat.lt_of_lt_of_le hj h.fr.size) (fun e=>by have:=(h.kids.blk e.symm).1;omega)).trans (h.fr.block j hj hn)⟩
  · rw [flat4_snoc,List.length_append]
    exact hown'
theorem KO.one {t:Tree} {y0 y1 y2 y3:Value} {M:Nat} (hL:Ld w r G ts s) (hlow:r<w0.heap.size) (hb0:w0.heap.size≤B) (hF:Fr r w0 w) (hB:B≤w.heap.size) (hM:M=w.heap.size) (hl:Lies (fun b=>B≤b∧b<w.heap.size) w t (.agg #[y0,y1,y2,y3])) :
    KO w0 B r G ts (w.alloc (.cells #[y0,y1,y2,y3] 25)) s (.slice (some ⟨M,0,none⟩) 1 1) [t]:=by
  subst hM
  refine ⟨hL.alloc _,hlow,hb0,hF.alloc _,[(y0,y1,y2,y3)],World.ownsRow_lit w #[y0,y1,y2,y3] 1 hB (by decide) rfl,?_,trivial⟩
  exact hl.frP (x:=w.heap.size) (Fr.al _ _) (fun b hb=>⟨hb.2,by omega⟩) (fun b hb=>⟨hb.1,by rw [World.size_alloc];omega,fun e=>by
    have:b=w.heap.size:=by simpa [Value.ownBlock] using e
    omega⟩)
def OList (w:World) (r G:Nat) (ts:List Tok) (q:List Tree × St) (e:Ending) (w':World):Prop :=
  (q.2.bad=true∧e=.panicked (Pan ts q.2)∧Fr r w w')∨(q.2.bad=false∧q.1.length≤100001∧∃ kv,e=.returned kv∧KO w w.heap.size r G ts w' q.2 kv q.1)
theorem take_comma (hL:Ld w r G ts s) (h:eqS (txt ts s) ⟨#[44]⟩=true) {M:Nat} {T:TypeId} (hM:M=w.heap.size) :
    Calls Tryz.prog 107 #[.pointer (some ⟨r,0,none⟩),.slice (some ⟨M,0,none⟩) 2 2] (w.alloc (.cells #[.string ⟨#[44]⟩,.string ⟨#[41]⟩] T)) fun e w'=>∃ y,(y.toList==[44])=true∧e=.returned (.string y)∧Ld w' r G ts s.next∧Fr r w w':=by
  have hx:hasW ts s [⟨#[44]⟩,⟨#[41]⟩]=true:=by unfold hasW;simp [h]
  refine (otake_yes (hL.alloc _) [⟨#[44]⟩,⟨#[41]⟩] M 2 (by simp) (by decide) (Words.two w _ _ T hM) hx).mono ?_
  rintro e w' ⟨rfl,h2,h3⟩
  have hlt:=hasW_lt (by decide) hx
  refine ⟨_,?_,rfl,h2,(Fr.al _ _).trans h3⟩
  rw [← eqS_lit,← eq_raw (hL.good _ (List.getElem_mem hlt)) hL.ok (lt_get hlt) (by decide)]
  exact h
theorem take_end (hL:Ld w r G ts s) (h0:eqS (txt ts s) ⟨#[44]⟩=false) (h:eqS (txt ts s) ⟨#[41]⟩=true) {M:Nat} {T:TypeId} (hM:M=w.heap.size) :
    Calls Tryz.prog 107 #[.pointer (some ⟨r,0,none⟩),.slice (some ⟨M,0,none⟩) 2 2] (w.alloc (.cells #[.string ⟨#[44]⟩,.string ⟨#[41]⟩] T)) fun e w'=>∃ y,(y.toList==[44])=false∧e=.returned (.string y)∧Ld w' r G ts s.next∧Fr r w w':=by
  have hx:hasW ts s [⟨#[44]⟩,⟨#[41]⟩]=true:=by unfold hasW;simp [h]
  refine (otake_yes (hL.alloc _) [⟨#[44]⟩,⟨#[41]⟩] M 2 (by simp) (by decide) (Words.two w _ _ T hM) hx).mono ?_
  rintro e w' ⟨rfl,h2,h3⟩
  have hlt:=hasW_lt (by decide) hx
  refine ⟨_,?_,rfl,h2,(Fr.al _ _).trans h3⟩
  rw [← eqS_lit,← eq_raw (hL.good _ (List.getElem_mem hlt)) hL.ok (lt_get hlt) (by decide)]
  exact h0
theorem take_none (hL:Ld w r G ts s) (h0:eqS (txt ts s) ⟨#[44]⟩=false) (h:eqS (txt ts s) ⟨#[41]⟩=false) {M:Nat} {T:TypeId} (hM:M=w.heap.size) :
    Calls Tryz.prog 107 #[.pointer (some ⟨r,0,none⟩),.slice (some ⟨M,0,none⟩) 2 2] (w.alloc (.cells #[.string ⟨#[44]⟩,.string ⟨#[41]⟩] T)) fun e w'=>e=.panicked (Pan ts s)∧Fr r w w':=by
  refine (otake_no (hL.alloc _) [⟨#[44]⟩,⟨#[41]⟩] M 2 (by simp) (by decide) (Words.two w _ _ T hM) (by unfold hasW;simp [h,h0])).mono ?_
  rintro e w' ⟨rfl,rfl⟩
  exact ⟨rfl,Fr.al _ _⟩
set_option maxHeartbeats 2000000 in
theorem olist_expr {item:Nat→St→Option (Tree × St)} {f:Nat} (ih:∀ {g:Nat},g≤f→Gives r G ts 216 (item g)) (hst:∀ (g:Nat) (s:St) (q:Tree × St),s.bad=true→item g s=some q→q.2=s) (hf:f≤100000) (hL:Ld w r G ts s) {q:List Tree × St} (hq:listF ts item f s=some q) :
    Calls Tryz.prog 176 #[.pointer (some ⟨r,0,none⟩),.func (.func 216) #[.pointer (some ⟨r,0,none⟩)] #[]] w (OList w r G ts q):=by
  have c24:Tryz.prog.cellsOf 25=4:=by kernel_rfl
  have hr:=hL.lt
  obtain ⟨i0,hi,hz0,hz1',hz2⟩:=info_parts nodeInfo
  unfold listF at hq
  cases he:eqS (txt ts s) ⟨#[41]⟩
  case true =>
    rw [he,if_pos rfl] at hq
    simp only [Option.some.injEq] at hq
    subst hq
    have hE:=skip_yes (T:=9) hL ⟨#[41]⟩ (by decide) he rfl
    have hok:s.next.bad=false:=hL.ok
    clear he
    go_enter Tryz.func176,Tryz.ntmps176
    go_wp2_with (fail)
    refine hE.mono ?_
    rintro e w1 ⟨rfl,hL1,hF1⟩
    go_wp2
    go_ret
    exact .inr ⟨hok,by simp,_,rfl,hL1,hr,jE _,hF1,Kids.nil _ _ _⟩
  case false =>
    rw [he,if_neg (by decide)] at hq
    have hE:=skip_no (T:=9) hL ⟨#[41]⟩ (by decide) he rfl
    clear he
    cases f with
    | zero=>unfold listL at hq;simp at hq
    | succ f =>
      unfold listL at hq
      obtain ⟨q1,h1,hq⟩:=bind_some_is hq
      have HQ:Hid ((if eqS (txt ts q1.2) ⟨#[44]⟩ then listL ts item f ([]++[q1.1]) q1.2.next else some ([]++[q1.1],must ts ⟨#[41]⟩ q1.2))=some q):=hq
      clear hq
      go_enter Tryz.func176,Tryz.ntmps176
      go_wp2_with (fail)
      refine hE.mono ?_
      rintro e w1 ⟨rfl,hL1,hF1⟩
      go_wp2_with (fail)
      refine (ih (Nat.le_succ _) hL1 h1).mono ?_
      rintro e w2 (⟨hb2,rfl,hF2⟩ | ⟨hb2,v2,rfl,hl2,hL2,hF2⟩)
      · have HS:Hid (q.2=q1.2):=by
          have:=HQ.out
          rw [eqS_bad (by decide) hb2,if_neg (by decide)] at this
          simp only [Option.some.injEq] at this
          show _=_
          rw [← this]
          exact must_st (by decide) hb2
        go_wp2
        exact ⟨rfl,.inl ⟨by rw [HS.out];exact hb2,by rw [HS.out],hF1.trans hF2⟩⟩
      obtain ⟨k2,x2,m2,_,rfl,a2,n2,c2,rfl⟩:=hl2.shape
      have z1:=hF1.size
      have z2:=hF2.size
      have hK0:=KO.one (B:=w.heap.size) hL2 hr (jE _) (hF1.trans hF2) (by omega) rfl (hl2.low z1)
      go_wp2
      go_loopg [5] f (fun k kv wr=>∃ (ks:List Tree) (s1:St),Hid ((if eqS (txt ts s1) ⟨#[44]⟩ then listL ts item k ks s1.next else some (ks,must ts ⟨#[41]⟩ s1))=some q)∧ks.length+k≤f+1∧KO w w.heap.size r G ts wr s1 kv ks)
      case atStart=>exact ⟨[]++[q1.1],q1.2,HQ.out,by simp;omega,hK0⟩
      case round =>
        obtain ⟨ks,s1,HL,hkf,hK⟩:=hrel
        clear HQ hK0
        obtain ⟨a,c,rfl⟩:=hK.kids.shape
        cases hcm:eqS (txt ts s1) ⟨#[44]⟩
        case false =>
          have hq2:=HL.out
          rw [hcm,if_neg (by decide)] at hq2
          simp only [Option.some.injEq] at hq2
          subst hq2
          cases hen:eqS (txt ts s1) ⟨#[41]⟩
          case false =>
            rw [must_fail hen]
            go_wp2_with (fail)
            refine (take_none hK.ld hcm hen rfl).mono ?_
            rintro e w3 ⟨rfl,hF3⟩
            go_wp2
            exact ⟨rfl,.inl ⟨rfl,rfl,hK.fr.trans hF3⟩⟩
          case true =>
            have hok:s1.next.bad=false:=hK.ld.ok
            go_wp2_with (fail)
            refine (take_end hK.ld hcm hen rfl).mono ?_
            rintro e w3 ⟨y,hy,rfl,hL3,hF3⟩
            go_wp2
            go_ret
            exact .inr ⟨by simp only [must_next hen];exact hok,by dsimp only;omega,_,rfl,by simp only [must_next hen];exact hK.step hL3 hF3⟩
        case true =>
          have hq2:=HL.out
          rw [hcm,if_pos rfl] at hq2
          clear HL
          cases gk with
          | zero=>unfold listL at hq2;simp at hq2
          | succ k =>
            unfold listL at hq2
            obtain ⟨q2,h2,hq3⟩:=bind_some_is hq2
            have HQ:Hid ((if eqS (txt ts q2.2) ⟨#[44]⟩ then listL ts item k (ks++[q2.1]) q2.2.next else some (ks++[q2.1],must ts ⟨#[41]⟩ q2.2))=some q):=hq3
            clear hq2 hq3
            go_wp2_with (fail)
            refine (take_comma hK.ld hcm rfl).mono ?_
            rintro e w3 ⟨y,hy,rfl,hL3,hF3⟩
            have hK3:=hK.step hL3 hF3
            go_wp2_with (fail)
            refine (ih (show k≤f+1 by omega) hL3 h2).mono ?_
            rintro e w4 (⟨hb4,rfl,hF4⟩ | ⟨hb4,v4,rfl,hl4,hL4,hF4⟩)
            · have HS:Hid (q.2=q2.2):=by
                have:=HQ.out
                rw [eqS_bad (by decide) hb4,if_neg (by decide)] at this
                simp only [Option.some.injEq] at this
                show _=_
                rw [← this]
                exact must_st (by decide) hb4
              go_wp2
              exact ⟨rfl,.inl ⟨by rw [HS.out];exact hb4,by rw [HS.out],(hK.fr.trans hF3).trans hF4⟩⟩
            obtain ⟨kc,yc,mc,_,rfl,ac,nc,cc,rfl⟩:=hl4.shape
            have hkb:∀ g,(Value.slice a ks.length c).ownBlock=some g→w.heap.size≤g∧g<w3.heap.size:=fun g hg=>hK3.kids.blk hg
            have hK4:=hK3.step hL4 hF4
            have zz:=hK4.fr.size
            have z3:=hK3.fr.size
            have hlc:Lies (fun b=>w.heap.size≤b∧b<w4.heap.size∧some b≠(Value.slice a ks.length c).ownBlock) w4 q2.1 (.agg #[.int .i64 kc,.string yc,.int .i64 mc,.slice ac nc cc]) :=
              hl4.to (fun b hb=>⟨by omega,hb.2,fun e=>by have:=(hkb b e.symm).2;omega⟩) (fun _ _ _=>rfl)
            obtain ⟨vs,ho,ha⟩:=hK4.kids
            have HA:Hid (AllLie (fun b=>w.heap.size≤b∧b<w4.heap.size∧some b≠(Value.slice a ks.length c).ownBlock) w4 ks vs):=ha
            have hlk:ks.length≤100001:=by omega
            clear ha
            go_wp2_with (at_builtin;refine wpList_append_fresh rfl (.tmp 16) (.tmp 19) 23 rfl w.heap.size 25 i0 (.agg #[.int .i64 0,.string ⟨#[]⟩,.int .i64 0,.slice none 0 0]) 4 56 Tryz.underlying23 hi hz0 hz1' hz2 rfl (by decide) _ _ _ rfl (ho.alloc _) ⟨w4.heap.size,0,none⟩ 1 1 [.int .i64 kc,.string yc,.int .i64 mc,.slice ac nc cc] rfl rfl (cells4_new _ _ _ _ _ _ _ rfl) (by intro u hu;simp at hu;rcases hu with rfl | rfl | rfl | rfl <;> rfl) (by unfold maxLen;omega) (by omega) (by simp <;> omega) (by decide) ?_;intro v' w5 hown' hgrow hfr;have hK5:=KO.pushed (q:=(.int .i64 kc,.string yc,.int .i64 mc,.slice ac nc cc)) (t:=q2.1) hK4 ho HA.out hlc hown' hgrow (by rcases hfr with e | e;exact .inl e;exact .inr (by rw [e];simp)))
            go_roundg k
            case rel=>exact ⟨_,q2.2,HQ.out,by rw [List.length_append];simp;omega,hK5⟩
            case measure=>omega
set_option maxHeartbeats 2000000 in
theorem olist_param {item:Nat→St→Option (Tree × St)} {f:Nat} (ih:∀ {g:Nat},g≤f→Gives r G ts 177 (item g)) (hst:∀ (g:Nat) (s:St) (q:Tree × St),s.bad=true→item g s=some q→q.2=s) (hf:f≤100000) (hL:Ld w r G ts s) {q:List Tree × St} (hq:listF ts item f s=some q) :
    Calls Tryz.prog 176 #[.pointer (some ⟨r,0,none⟩),.func (.func 177) #[.pointer (some ⟨r,0,none⟩)] #[]] w (OList w r G ts q):=by
  have c24:Tryz.prog.cellsOf 25=4:=by kernel_rfl
  have hr:=hL.lt
  obtain ⟨i0,hi,hz0,hz1',hz2⟩:=info_parts nodeInfo
  unfold listF at hq
  cases he:eqS (txt ts s) ⟨#[41]⟩
  case true =>
    rw [he,if_pos rfl] at hq
    simp only [Option.some.injEq] at hq
    subst hq
    have hE:=skip_yes (T:=9) hL ⟨#[41]⟩ (by decide) he rfl
    have hok:s.next.bad=false:=hL.ok
    clear he
    go_enter Tryz.func176,Tryz.ntmps176
    go_wp2_with (fail)
    refine hE.mono ?_
    rintro e w1 ⟨rfl,hL1,hF1⟩
    go_wp2
    go_ret
    exact .inr ⟨hok,by simp,_,rfl,hL1,hr,jE _,hF1,Kids.nil _ _ _⟩
  case false =>
    rw [he,if_neg (by decide)] at hq
    have hE:=skip_no (T:=9) hL ⟨#[41]⟩ (by decide) he rfl
    clear he
    cases f with
    | zero=>unfold listL at hq;simp at hq
    | succ f =>
      unfold listL at hq
      obtain ⟨q1,h1,hq⟩:=bind_some_is hq
      have HQ:Hid ((if eqS (txt ts q1.2) ⟨#[44]⟩ then listL ts item f ([]++[q1.1]) q1.2.next else some ([]++[q1.1],must ts ⟨#[41]⟩ q1.2))=some q):=hq
      clear hq
      go_enter Tryz.func176,Tryz.ntmps176
      go_wp2_with (fail)
      refine hE.mono ?_
      rintro e w1 ⟨rfl,hL1,hF1⟩
      go_wp2_with (fail)
      refine (ih (Nat.le_succ _) hL1 h1).mono ?_
      rintro e w2 (⟨hb2,rfl,hF2⟩ | ⟨hb2,v2,rfl,hl2,hL2,hF2⟩)
      · have HS:Hid (q.2=q1.2):=by
          have:=HQ.out
          rw [eqS_bad (by decide) hb2,if_neg (by decide)] at this
          simp only [Option.some.injEq] at this
          show _=_
          rw [← this]
          exact must_st (by decide) hb2
        go_wp2
        exact ⟨rfl,.inl ⟨by rw [HS.out];exact hb2,by rw [HS.out],hF1.trans hF2⟩⟩
      obtain ⟨k2,x2,m2,_,rfl,a2,n2,c2,rfl⟩:=hl2.shape
      have z1:=hF1.size
      have z2:=hF2.size
      have hK0:=KO.one (B:=w.heap.size) hL2 hr (jE _) (hF1.trans hF2) (by omega) rfl (hl2.low z1)
      go_wp2
      go_loopg [5] f (fun k kv wr=>∃ (ks:List Tree) (s1:St),Hid ((if eqS (txt ts s1) ⟨#[44]⟩ then listL ts item k ks s1.next else some (ks,must ts ⟨#[41]⟩ s1))=some q)∧ks.length+k≤f+1∧KO w w.heap.size r G ts wr s1 kv ks)
      case atStart=>exact ⟨[]++[q1.1],q1.2,HQ.out,by simp;omega,hK0⟩
      case round =>
        obtain ⟨ks,s1,HL,hkf,hK⟩:=hrel
        clear HQ hK0
        obtain ⟨a,c,rfl⟩:=hK.kids.shape
        cases hcm:eqS (txt ts s1) ⟨#[44]⟩
        case false =>
          have hq2:=HL.out
          rw [hcm,if_neg (by decide)] at hq2
          simp only [Option.some.injEq] at hq2
          subst hq2
          cases hen:eqS (txt ts s1) ⟨#[41]⟩
          case false =>
            rw [must_fail hen]
            go_wp2_with (fail)
            refine (take_none hK.ld hcm hen rfl).mono ?_
            rintro e w3 ⟨rfl,hF3⟩
            go_wp2
            exact ⟨rfl,.inl ⟨rfl,rfl,hK.fr.trans hF3⟩⟩
          case true =>
            have hok:s1.next.bad=false:=hK.ld.ok
            go_wp2_with (fail)
            refine (take_end hK.ld hcm hen rfl).mono ?_
            rintro e w3 ⟨y,hy,rfl,hL3,hF3⟩
            go_wp2
            go_ret
            exact .inr ⟨by simp only [must_next hen];exact hok,by dsimp only;omega,_,rfl,by simp only [must_next hen];exact hK.step hL3 hF3⟩
        case true =>
          have hq2:=HL.out
          rw [hcm,if_pos rfl] at hq2
          clear HL
          cases gk with
          | zero=>unfold listL at hq2;simp at hq2
          | succ k =>
            unfold listL at hq2
            obtain ⟨q2,h2,hq3⟩:=bind_some_is hq2
            have HQ:Hid ((if eqS (txt ts q2.2) ⟨#[44]⟩ then listL ts item k (ks++[q2.1]) q2.2.next else some (ks++[q2.1],must ts ⟨#[41]⟩ q2.2))=some q):=hq3
            clear hq2 hq3
            go_wp2_with (fail)
            refine (take_comma hK.ld hcm rfl).mono ?_
            rintro e w3 ⟨y,hy,rfl,hL3,hF3⟩
            have hK3:=hK.step hL3 hF3
            go_wp2_with (fail)
            refine (ih (show k≤f+1 by omega) hL3 h2).mono ?_
            rintro e w4 (⟨hb4,rfl,hF4⟩ | ⟨hb4,v4,rfl,hl4,hL4,hF4⟩)
            · have HS:Hid (q.2=q2.2):=by
                have:=HQ.out
                rw [eqS_bad (by decide) hb4,if_neg (by decide)] at this
                simp only [Option.some.injEq] at this
                show _=_
                rw [← this]
                exact must_st (by decide) hb4
              go_wp2
              exact ⟨rfl,.inl ⟨by rw [HS.out];exact hb4,by rw [HS.out],(hK.fr.trans hF3).trans hF4⟩⟩
            obtain ⟨kc,yc,mc,_,rfl,ac,nc,cc,rfl⟩:=hl4.shape
            have hkb:∀ g,(Value.slice a ks.length c).ownBlock=some g→w.heap.size≤g∧g<w3.heap.size:=fun g hg=>hK3.kids.blk hg
            have hK4:=hK3.step hL4 hF4
            have zz:=hK4.fr.size
            have z3:=hK3.fr.size
            have hlc:Lies (fun b=>w.heap.size≤b∧b<w4.heap.size∧some b≠(Value.slice a ks.length c).ownBlock) w4 q2.1 (.agg #[.int .i64 kc,.string yc,.int .i64 mc,.slice ac nc cc]) :=
              hl4.to (fun b hb=>⟨by omega,hb.2,fun e=>by have:=(hkb b e.symm).2;omega⟩) (fun _ _ _=>rfl)
            obtain ⟨vs,ho,ha⟩:=hK4.kids
            have HA:Hid (AllLie (fun b=>w.heap.size≤b∧b<w4.heap.size∧some b≠(Value.slice a ks.length c).ownBlock) w4 ks vs):=ha
            have hlk:ks.length≤100001:=by omega
            clear ha
            go_wp2_with (at_builtin;refine wpList_append_fresh rfl (.tmp 16) (.tmp 19) 23 rfl w.heap.size 25 i0 (.agg #[.int .i64 0,.string ⟨#[]⟩,.int .i64 0,.slice none 0 0]) 4 56 Tryz.underlying23 hi hz0 hz1' hz2 rfl (by decide) _ _ _ rfl (ho.alloc _) ⟨w4.heap.size,0,none⟩ 1 1 [.int .i64 kc,.string yc,.int .i64 mc,.slice ac nc cc] rfl rfl (cells4_new _ _ _ _ _ _ _ rfl) (by intro u hu;simp at hu;rcases hu with rfl | rfl | rfl | rfl <;> rfl) (by unfold maxLen;omega) (by omega) (by simp <;> omega) (by decide) ?_;intro v' w5 hown' hgrow hfr;have hK5:=KO.pushed (q:=(.int .i64 kc,.string yc,.int .i64 mc,.slice ac nc cc)) (t:=q2.1) hK4 ho HA.out hlc hown' hgrow (by rcases hfr with e | e;exact .inl e;exact .inr (by rw [e];simp)))
            go_roundg k
            case rel=>exact ⟨_,q2.2,HQ.out,by rw [List.length_append];simp;omega,hK5⟩
            case measure=>omega
end
end Go.Proofs.YtfopddgjdaoidaaGreatDoor.syn
