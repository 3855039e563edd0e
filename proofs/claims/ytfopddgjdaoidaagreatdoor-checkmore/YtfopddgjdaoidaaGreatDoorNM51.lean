/- The law CheckMore, walked. -/
import Derived.Test.YtfopddgjdaoidaaGreatDoorNM50
set_option linter.unusedVariables false
set_option linter.unusedSimpArgs false
set_option maxRecDepth 100000
namespace Go.Proofs.YtfopddgjdaoidaaGreatDoor.chk
open Go.RowKit Go.Shelf
open syn face
theorem ck_code {x:ByteArray} {fs:List FaceD} {m:ByteArray} {K:List Kid} (h:(ckF x fs m K).1=0):(parse x).code=0:=by
  unfold ckF at h
  split at h
  · cases h
  · split at h
    · exact absurd h (by assumption)
    · rename_i h2
      simpa using h2
theorem ckV {W w':World} {x:ByteArray} {r:Int × Int} {v:Value} (h1:r.1=0→Lies (fun b=>W.heap.size≤b∧b<w'.heap.size) w' (parse x).tree v) (h2:r.1≠0→v=noNodeV):∃ k y m a n c,v=.agg #[.int .i64 k,.string y,.int .i64 m,.slice a n c]:=by
  by_cases h0:r.1=0
  · exact lies_shape (h1 h0)
  · rw [h2 h0];exact ⟨_,_,_,_,_,_,rfl⟩
theorem news_far {w w':World} {s1 s0:Nat} {l:List Value} (h:∀ j u,l[j]?=some u→w.cell? ((⟨s1,0,none⟩:Addr).add j)=some u) (hg:w.grownBy w' (some s0)) (hlt:s1<w.heap.size) (hne:s1≠s0):∀ j u,l[j]?=some u→w'.cell? ((⟨s1,0,none⟩:Addr).add j)=some u:=fun j u hj=>by
  rw [WideShapes.add_plain] at *
  rw [hg.cell_far ⟨s1,0+j,none⟩ hlt (by show some s1≠some s0;simpa using hne)]
  have:=h j u hj
  rw [WideShapes.add_plain] at this
  exact this
theorem news_alloc {w:World} {s1:Nat} {l:List Value} (h:∀ j u,l[j]?=some u→w.cell? ((⟨s1,0,none⟩:Addr).add j)=some u) (o:Obj):∀ j u,l[j]?=some u→(w.alloc o).cell? ((⟨s1,0,none⟩:Addr).add j)=some u:=fun j u hj=>keep (h j u hj) ((Below.refl _ _).alloc (jE _) o)
set_option maxHeartbeats 4000000 in
theorem more_walk (x:ByteArray) (qs:List FV) (f:FaceD) (u fv:Value) (w:World) (hw:HasAll w) (hF:FacesIn w fv qs) (hu:FaceIn w u f) (hq64:qs.length+64≤2199023255552) (hfm:f.module.size≤maxLen) :
    Calls Tryz.prog 6 #[.string x,fv,u] w fun e w'=>e=.returned (.bool true)∧Below w.heap.size w w':=by
  have c24:Tryz.prog.cellsOf 25=4:=by kernel_rfl
  have c27:Tryz.prog.cellsOf 28=2:=by kernel_rfl
  have c3:Tryz.prog.cellsOf 44=3:=cell3
  obtain ⟨i0,hi,hz0,hz1,hz2⟩:=info_parts infoF
  obtain ⟨m,K,F,I,ec,ep,hsh,hOf,hbad,himp⟩:=of_facts x
  obtain ⟨fa,fc,rfl,hql,hz⟩:=id hF
  clear hz
  have hu':=hu
  obtain ⟨_,_,rfl,⟨ua,uc,rfl,_,_⟩,⟨ta,tc,rfl,_,_⟩⟩:=hu'
  obtain ⟨L1,HL1⟩:∃ L,Hid (f.vars.length=L):=⟨_,rfl⟩
  obtain ⟨L2,HL2⟩:∃ L,Hid (f.procs.length=L):=⟨_,rfl⟩
  rw [HL1.out,HL2.out] at hu ⊢
  have hv1:(Value.slice ua L1 uc).oneCell'=true:=rfl
  have hp1:(Value.slice ta L2 tc).oneCell'=true:=rfl
  generalize Value.slice ua L1 uc=vv at *
  generalize Value.slice ta L2 tc=pv at *
  have hb0:Below w.heap.size w (w.alloc (.cells #[.string f.module,vv,pv] 44)):=(Below.refl _ _).alloc (jE _) _
  have hQ0:BoxC (w.alloc (.cells #[.string f.module,vv,pv] 44)) w.heap.size #[.string f.module,vv,pv] 44:=BoxC.new w _ _
  have hw0:=hasAll_below hw hb0
  have hF0:=hF.below hb0
  have hu0:=hu.below hb0
  have hC1:=oCheckSmall _ hw0
  clear hF hu hw
  go_enter Tryz.func6,Tryz.ntmps6
  go_wp2_with (fail)
  generalize w.alloc (.cells #[.string f.module,vv,pv] 44)=W0 at *
  refine hC1.mono ?_
  rintro e w1 ⟨a1,d1,rfl,hb1⟩
  have hB2:=(hb1.trans ((((Below.refl w1.heap.size w1).alloc (jE _) (.cells #[.int .i64 1,.string ⟨#[109]⟩,.int .i64 0,.slice a1 0 d1] 25)).alloc (by simp) (.cells #[.int .i64 0,.int .i64 0] 28)).mono hb1.size))
  go_wp2_with (fail)
  generalize ((w1.alloc (.cells #[.int .i64 1,.string ⟨#[109]⟩,.int .i64 0,.slice a1 0 d1] 25)).alloc (.cells #[.int .i64 0,.int .i64 0] 28))=W2 at *
  have hw2:=hasAll_below hw0 hB2
  have hF2:=hF0.below hB2
  have hu2:=hu0.below hB2
  have hQ2:=hQ0.below hB2
  have hb2:=hb0.trans (hB2.mono hb0.size)
  clear hw0 hF0 hu0 hQ0 hb0 hB2 hb1 hC1
  refine (hOf W2 hw2.1).mono ?_
  rintro e w3 ⟨fv3,lv3,rfl,⟨_,_,rfl,⟨ua,uc,rfl,_,_⟩,⟨ta,tc,rfl,_,_⟩⟩,hI3,hb3⟩
  have hA3:=Joins.below_alloc2 w3 (.cells #[.string F.module,.slice ua F.vars.length uc,.slice ta F.procs.length tc] 44) (.cells #[.int .i64 ec,.int .i64 ep] 28)
  have hE3:BoxC ((w3.alloc (.cells #[.string F.module,.slice ua F.vars.length uc,.slice ta F.procs.length tc] 44)).alloc (.cells #[.int .i64 ec,.int .i64 ep] 28)) (w3.heap.size+1) #[.int .i64 ec,.int .i64 ep] 28:=by
    have:=BoxC.new (w3.alloc (.cells #[.string F.module,.slice ua F.vars.length uc,.slice ta F.procs.length tc] 44)) #[.int .i64 ec,.int .i64 ep] 28
    rw [World.size_alloc] at this
    exact this
  have hB3:=hb3.trans (hA3.mono hb3.size)
  have hI4:=hI3.below hA3
  obtain ⟨ia,ic,rfl,hIl,_⟩:=id hI3
  go_wp2_with (fail)
  generalize ((w3.alloc (.cells #[.string F.module,.slice ua F.vars.length uc,.slice ta F.procs.length tc] 44)).alloc (.cells #[.int .i64 ec,.int .i64 ep] 28))=W4 at *
  have hw4:=hasAll_below hw2 hB3
  have hF4:=hF2.below hB3
  have hu4:=hu2.below hB3
  have hQ4:=hQ2.below hB3
  have hb4:=hb2.trans (hB3.mono hb2.size)
  clear hw2 hF2 hu2 hQ2 hb2 hB3 hb3 hA3 hI3 hOf
  generalize w3.heap.size=N3 at *
  have hCk:=fun W hW (v:Value) (rs:List FV) (hFW:FacesIn W v rs)=>oCheck x rs v m K W hW hFW hsh
  refine (hCk W4 hw4 _ _ hF4).mono ?_
  have HR:Hid (∀ fs,fs=qs.map (·.1)→ckF x fs m K=ckF x (qs.map (·.1)) m K):=fun fs h=>by rw [h]
  obtain ⟨R,HR⟩:∃ R,Hid (ckF x (qs.map (·.1)) m K=R):=⟨_,rfl⟩
  have hbadR:ec≠0→R.1≠0:=fun h=>HR.out ▸ hbad h _
  clear hbad
  rw [HR.out]
  obtain ⟨rc,rp⟩:=R
  rintro e w5 ⟨v5,rfl,h51,h52,hb5⟩
  obtain ⟨k5,y5,m5,a5,n5,d5,rfl⟩:=ckV h51 h52
  simp only at h51 h52 hbadR
  have hA5:=Joins.below_alloc2 w5 (.cells #[.int .i64 k5,.string y5,.int .i64 m5,.slice a5 n5 d5] 25) (.cells #[.int .i64 rc,.int .i64 rp] 28)
  have hN6:BoxC ((w5.alloc (.cells #[.int .i64 k5,.string y5,.int .i64 m5,.slice a5 n5 d5] 25)).alloc (.cells #[.int .i64 rc,.int .i64 rp] 28)) w5.heap.size #[.int .i64 k5,.string y5,.int .i64 m5,.slice a5 n5 d5] 25:=(BoxC.new w5 _ _).alloc _
  have hG6:BoxC ((w5.alloc (.cells #[.int .i64 k5,.string y5,.int .i64 m5,.slice a5 n5 d5] 25)).alloc (.cells #[.int .i64 rc,.int .i64 rp] 28)) (w5.heap.size+1) #[.int .i64 rc,.int .i64 rp] 28:=by
    have:=BoxC.new (w5.alloc (.cells #[.int .i64 k5,.string y5,.int .i64 m5,.slice a5 n5 d5] 25)) #[.int .i64 rc,.int .i64 rp] 28
    rw [World.size_alloc] at this
    exact this
  have hB5:=hb5.trans (hA5.mono hb5.size)
  have hw6:=hasAll_below hw4 hB5
  have hF6:=hF4.below hB5
  have hu6:=hu4.below hB5
  have hQ6:=hQ4.below hB5
  have hI6:=hI4.below hB5
  have hE6:=hE3.below hB5
  have hb6:=hb4.trans (hB5.mono hb4.size)
  have h51':rc=0→Lies (·<((w5.alloc (.cells #[.int .i64 k5,.string y5,.int .i64 m5,.slice a5 n5 d5] 25)).alloc (.cells #[.int .i64 rc,.int .i64 rp] 28)).heap.size) ((w5.alloc (.cells #[.int .i64 k5,.string y5,.int .i64 m5,.slice a5 n5 d5] 25)).alloc (.cells #[.int .i64 rc,.int .i64 rp] 28)) (parse x).tree (.agg #[.int .i64 k5,.string y5,.int .i64 m5,.slice a5 n5 d5]):=fun h=>(h51 h).to (fun b hb=>Nat.lt_of_lt_of_le hb.2 hA5.size) (fun b hb o=>hA5.cell (p:=⟨b,o,none⟩) hb.2)
  have HM:=show Hid _ from himp
  have H52:=show Hid _ from h52
  have H51:=show Hid _ from h51'
  have r0:=hE6.cell 0 rfl
  have r1:=hG6.cell 0 rfl
  have r2:=hQ6.cell 0 rfl
  have r3:=hQ6.cell 1 rfl
  have r4:=hQ6.cell 2 rfl
  clear himp h51 h51' h52 hI4 hw4 hF4 hu4 hQ4 hE3 hb4 hB5 hA5 hb5
  by_cases he:ec=0
  · subst he
    have hHas:=oHas I f.module _ _ hI6
    cases ha:among I f.module with
    | true =>
      rw [ha] at hHas
      have hI0:0<I.length:=by
        cases I with
        | nil=>cases ha
        | cons _ _=>simp
      clear ha HM
      obtain ⟨il,hil⟩:∃ n,I.length=n:=⟨_,rfl⟩
      rw [hil] at hHas hI0 ⊢
      clear hil
      have hM:=fun W hb=>oMay f _ W (hasAll_below hw6 hb).1.1 (hu6.below hb)
      cases hm:mayB f with
      | true =>
        rw [hm] at hM
        clear hm
        go_wp2_with first
          | (go_at_call 17;refine hHas.mono ?_;rintro e w7 ⟨rfl,rfl⟩)
          | (go_at_call 18;refine (hM _ (Below.refl _ _)).mono ?_;rintro e w7 ⟨rfl,hb7⟩)
        go_ret
        exact ⟨rfl,hb6.trans (hb7.mono hb6.size)⟩
      | false =>
        rw [hm] at hM
        clear hm
        go_wp2_with first
          | (go_at_call 17;refine hHas.mono ?_;rintro e w7 ⟨rfl,rfl⟩)
          | (go_at_call 18;refine (hM _ (Below.refl _ _)).mono ?_;rintro e w7 ⟨rfl,hb7⟩)
        go_ret
        exact ⟨rfl,hb6.trans (hb7.mono hb6.size)⟩
    | false =>
      rw [ha] at hHas
      have HA:Hid (among I f.module=false):=ha
      clear ha
      have hM:=fun W hb=>oMay f _ W (hasAll_below hw6 hb).1.1 (hu6.below hb)
      cases hm:mayB f with
      | false =>
        rw [hm] at hM
        clear hm
        go_wp2_with first
          | (go_at_call 17;refine hHas.mono ?_;rintro e w7 ⟨rfl,rfl⟩)
          | (go_at_call 18;first | (refine (hM _ (Below.refl _ _)).mono ?_;rintro e w7 ⟨rfl,hb7⟩;have r5:=(hQ6.below hb7).cell 0 rfl;have r6:=(hQ6.below hb7).cell 1 rfl;have r7:=(hQ6.below hb7).cell 2 rfl) | (refine (hM _ hb7).mono ?_;rintro e w8 ⟨rfl,hb8⟩))
        go_ret
        exact ⟨rfl,(hb6.trans (hb7.mono hb6.size)).trans (hb8.mono (hb6.trans (hb7.mono hb6.size)).size)⟩
      | true =>
        rw [hm] at hM
        have HMY:Hid (mayB f=true):=hm
        clear hm
        go_wp2_with first
          | (go_at_call 17;refine hHas.mono ?_;rintro e w7 ⟨rfl,rfl⟩)
          | (go_at_call 18;refine (hM _ (Below.refl _ _)).mono ?_;rintro e w7 ⟨rfl,hb7⟩)
        have hF7:=hF6.below hb7
        have hu7:=hu6.below hb7
        have hQ7:=hQ6.below hb7
        have hN7:=hN6.below hb7
        have hG7:=hG6.below hb7
        have hw7:=hasAll_below hw6 hb7
        have hB7:=hb6.trans (hb7.mono hb6.size)
        have H57:=show Hid _ from fun h:rc=0=>(H51.out h).to (Q:=(·<w7.heap.size)) (fun b hb=>Nat.lt_of_lt_of_le hb hb7.size) (fun b hb o=>hb7.cell (p:=⟨b,o,none⟩) hb)
        clear hF6 hu6 hQ6 hN6 hG6 hw6 H51 hI6 hE6 hHas hM hb7 hb6 r0 r1 r2 r3 r4
        generalize w5.heap.size=N5 at *
        have hqk:qs≠[]→∃ g o,fa=some ⟨g,o,none⟩∧∀ i (h:i<qs.length),w7.cell? ⟨g,o+i * 3,none⟩=some (.string qs[i].1.module):=by
          intro hq
          obtain ⟨a',c',e',_,hk⟩:=hF7
          obtain ⟨g,o,rfl,hc⟩:=hk hq
          injection e' with e1
          exact ⟨g,o,e1,fun i hi=>(hc i hi).1⟩
        go_loopw [14] (fun t wr=>∃ j:Nat,j≤qs.length∧t=.int .i64 j∧Below w7.heap.size w7 wr∧Hid (∀ i (h:i<qs.length),i<j→eqS qs[i].1.module f.module=false)) (fun t _=>qs.length - (intOf t).toNat)
        case atStart=>exact ⟨0,Nat.zero_le _,rfl,Below.refl _ _,fun i _ h=>by omega⟩
        case round =>
          obtain ⟨j,hj,rfl,hbr,HN⟩:=hrel
          have hQ8:=hQ7.below hbr
          have r2:wr.cell? ⟨w.heap.size,0,none⟩=some (.string f.module):=hQ8.cell 0 rfl
          by_cases hlt:j<qs.length
          · obtain ⟨g,o,rfl,hc⟩:=hqk (by intro e;rw [e] at hlt;simp at hlt)
            have q:=keep (hc j hlt) hbr
            clear hc hqk
            cases he:eqS qs[j].1.module f.module
            · have HE:Hid (eqS qs[j].1.module f.module=false):=he
              unfold eqS at he
              generalize qs[j].1.module=y at he q
              go_wp2
              go_region
              all_goals
                go_wp2
                go_roundw
                case rel=>exact ⟨j+1,by omega,by go_num,hbr.drew,fun i h h1=>by
                  rcases Nat.lt_or_ge i j with h3 | h3
                  · exact HN.out i h h3
                  · have:i=j:=by omega
                    subst this
                    exact HE.out⟩
                case measure=>simp [intOf];omega
            · unfold eqS at he
              generalize qs[j].1.module=y at he q
              go_wp2
              go_region
              all_goals
                go_wp2
                go_ret
                exact ⟨rfl,(hB7.trans (hbr.mono hB7.size)).drew⟩
          · have HE:Hid ((qs.map (·.1)).any (fun q=>eqS q.module f.module)=false):=by
              show _=_
              rw [List.any_eq_false]
              intro q hq
              obtain ⟨p,hp,rfl⟩:=List.mem_map.1 hq
              obtain ⟨i,hi,rfl⟩:=List.mem_iff_getElem.1 hp
              rw [HN.out i hi (by omega)]
              decide
            have r3:wr.cell? ⟨w.heap.size,1,none⟩=some vv:=hQ8.cell 1 rfl
            have r4:wr.cell? ⟨w.heap.size,2,none⟩=some pv:=hQ8.cell 2 rfl
            clear hqk HN
            go_wp2_with (fail)
            have hF8:=(hF7.below hbr)
            have HFA:Hid ((fa=none→qs.length=0)∧(∀ p,fa=some p→∀ j u,(faceCells qs)[j]?=some u→wr.cell? (p.add j)=some u)∧∀ u ∈ faceCells qs,u.oneCell'=true):=by
              obtain ⟨_,n2,n3⟩:=hF8.news
              refine ⟨fun e=>?_,fun p hp j u h=>?_,n3⟩
              · obtain ⟨_,_,e2,_,hk⟩:=hF8
                injection e2 with e2
                subst e2
                rcases Nat.eq_zero_or_pos qs.length with h | h
                · exact h
                · obtain ⟨g,o,e3,_⟩:=hk (by intro e;rw [e] at h;simp at h)
                  rw [e] at e3
                  cases e3
              · rcases List.eq_nil_or_concat qs with h0 | ⟨_,_,h0⟩
                · subst h0;simp [faceCells] at h
                · exact n2 p hp (by rw [h0];simp) j u h
            rename_i K0 hK0
            have HF:∀ (g6 cap6:Nat) (w6:World),Below wr.heap.size wr w6→w6.ownsRow wr.heap.size 44 3 (.slice (some ⟨g6,0,none⟩) (qs.length+1) cap6) (qs.length+1) (faceCells qs++[.string f.module,vv,pv])→∀ z1 z2 z3 z4 z5 z6 z7 z8 z9 z10 z11 z14 z16 z17 z18 z19 z20 z21 z22 z23 z24 z25 z26 z27 z28 z29 z30 z31 z32 z33 z34 z35 z36 z37 z38 z39 z40 z41 z42 z43 z44 z45 z46 z47 z48 z49 z50 z51 z52 z53 z54 z55 z56 z57 z58 z59 z60 z61 z62 z63 z64 z65 z66 z67 z68 z69 z70 z71 z72 z73 z74 z75 z76 z77 z78 z79 z80 z81 z82 z83 z84 z85 z86 z87 z88 z89 z90 z91 z92 z93 z94 z95 z96 z97 z98 z99 z100 z101 z102 z103:Value,K0 { tmps:=#[.string x,z1,z2,z3,z4,z5,z6,z7,z8,z9,z10,z11,.pointer (some ⟨N5,0,none⟩),.pointer (some ⟨N5+1,0,none⟩),z14,.slice (some ⟨g6,0,none⟩) (qs.length+1) cap6,z16,z17,z18,z19,z20,z21,z22,z23,z24,z25,z26,z27,z28,z29,z30,z31,z32,z33,z34,z35,z36,z37,z38,z39,z40,z41,z42,z43,z44,z45,z46,z47,z48,z49,z50,z51,z52,z53,z54,z55,z56,z57,z58,z59,z60,z61,z62,z63,z64,z65,z66,z67,z68,z69,z70,z71,z72,z73,z74,z75,z76,z77,z78,z79,z80,z81,z82,z83,z84,z85,z86,z87,z88,z89,z90,z91,z92,z93,z94,z95,z96,z97,z98,z99,z100,z101,z102,z103],defers:=[] } w6:=by
              intro g6 cap6 w6 hbW hown6 z1 z2 z3 z4 z5 z6 z7 z8 z9 z10 z11 z14 z16 z17 z18 z19 z20 z21 z22 z23 z24 z25 z26 z27 z28 z29 z30 z31 z32 z33 z34 z35 z36 z37 z38 z39 z40 z41 z42 z43 z44 z45 z46 z47 z48 z49 z50 z51 z52 z53 z54 z55 z56 z57 z58 z59 z60 z61 z62 z63 z64 z65 z66 z67 z68 z69 z70 z71 z72 z73 z74 z75 z76 z77 z78 z79 z80 z81 z82 z83 z84 z85 z86 z87 z88 z89 z90 z91 z92 z93 z94 z95 z96 z97 z98 z99 z100 z101 z102 z103
              refine hK0 _ _ ?_
              clear hK0
              have hb67:=hbr.trans (hbW.mono hbr.size)
              have hw6:=hasAll_below hw7 hb67
              have hF6:FacesIn w6 (.slice (some ⟨g6,0,none⟩) (qs.length+1) cap6) (qs++[(f,vv,pv)]):=by
                have e:faceCells (qs++[(f,vv,pv)])=faceCells qs++[.string f.module,vv,pv]:=by simp [faceCells,fcells]
                have h1:w6.ownsRow wr.heap.size 44 3 (.slice (some ⟨g6,0,none⟩) (qs.length+1) cap6) (qs++[(f,vv,pv)]).length (faceCells (qs++[(f,vv,pv)])):=by
                  rw [e,List.length_append]
                  exact hown6
                refine FacesIn.own h1 (by simp;omega) (fun q hq=>?_)
                rcases List.mem_append.1 hq with hq | hq
                · obtain ⟨i,hi,rfl⟩:=List.mem_iff_getElem.1 hq
                  obtain ⟨_,_,_,_,hk⟩:=hF8.below hbW
                  obtain ⟨g,o,_,hc⟩:=hk (by intro e;rw [e] at hi;simp at hi)
                  exact ⟨(hc i hi).2.2.2.1,(hc i hi).2.2.2.2⟩
                · obtain rfl:q=(f,vv,pv):=by simpa using hq
                  exact ⟨hu7.below hb67,hfm⟩
              have hR2:ckF x ((qs++[(f,vv,pv)]).map (·.1)) m K=(rc,rp):=by
                rw [List.map_append,List.map_cons,List.map_nil,ckF_more x _ f m K HMY.out HE.out (fun z hz=>not_among HA.out (by rw [HM.out trivial];exact imports_mem K z hz))]
                exact HR.out
              have hC6:=hCk w6 hw6 _ _ hF6
              rw [hR2] at hC6
              have hN6:=hN7.below hb67
              have hG6:=hG7.below hb67
              have H5:Hid (rc=0→Lies (·<w6.heap.size) w6 (parse x).tree (.agg #[.int .i64 k5,.string y5,.int .i64 m5,.slice a5 n5 d5])):=fun h=>(H57.out h).to (fun b hb=>Nat.lt_of_lt_of_le hb hb67.size) (fun b hb o=>hb67.cell (p:=⟨b,o,none⟩) hb)
              have HB6:Hid (Below w.heap.size w w6):=hB7.trans (hb67.mono hB7.size)
              have HC:Hid (rc=0→(parse x).code=0):=fun h=>ck_code (by rw [HR.out];exact h)
              clear hF6 hF8 hw6 hw7 hN7 hG7 hu7 hF7 hQ7 hB7 hbr hbW hown6 hb67 HFA HE HA HMY HM H57 hCk r2 r3 r4 hQ8
              obtain ⟨t,HL5,HL9,hkk⟩:∃ t,Hid (Lies (·<w6.heap.size) w6 t (.agg #[.int .i64 k5,.string y5,.int .i64 m5,.slice a5 n5 d5]))∧Hid (∀ w9 v,(rc=0→Lies (fun b=>w6.heap.size≤b∧b<w9.heap.size) w9 (parse x).tree v)→(rc≠0→v=noNodeV)→Lies (·<w9.heap.size) w9 t v)∧((k5==1)=true∨(k5==1)=false∧(rc != 0)=true):=by
                by_cases h0:rc=0
                · have hL:=H5.out h0
                  refine ⟨(parse x).tree,hL,fun w9 v h1 _=>(h1 h0).to (fun b hb=>hb.2) (fun _ _ _=>rfl),.inl ?_⟩
                  rw [(hsh (HC.out h0)).1] at hL
                  unfold Lies at hL
                  obtain ⟨_,_,e,_⟩:=hL
                  injection e with e
                  simp at e
                  simp [e.1]
                · have e5:=H52.out h0
                  refine ⟨.node 0 ⟨#[]⟩ 0 [],e5 ▸ noNode_lies _ _,fun w9 v _ h2=>h2 h0 ▸ noNode_lies _ _,.inr ⟨?_,by simp [h0]⟩⟩
                  unfold noNodeV at e5
                  injection e5 with e5
                  simp at e5
                  simp [e5.1]
              clear H5 H52 HC
              rcases hkk with hkk | ⟨hkk,hrn⟩
              all_goals
                go_wp2_with first
                  | (go_at_call 9;refine hC6.mono ?_;rintro e w9 ⟨v9,rfl,h91,h92,hb9⟩;have hL9:=HL9.out w9 v9 h91 h92;clear h91 h92;obtain ⟨k9,y9,m9,a9,n9,d9,rfl⟩:=lies_shape hL9;have hA9:=Joins.below_alloc2 w9 (.cells #[.int .i64 k9,.string y9,.int .i64 m9,.slice a9 n9 d9] 25) (.cells #[.int .i64 rc,.int .i64 rp] 28);have hb10:=hb9.trans (hA9.mono hb9.size);have hS:=rsame t _ _ _ (HL5.out.below hb10) (hL9.below hA9);have hN10:=hN6.below hb10;have hG10:=hG6.below hb10;have q0:=hN10.cell 0 rfl;have q1:=hN10.cell 1 rfl;have q2:=hN10.cell 2 rfl;have q3:=hN10.cell 3 rfl;have p0:=hG10.cell 0 rfl;have p1:=hG10.cell 1 rfl)
                  | (go_at_call 11;refine hS.mono ?_;rintro e w11 ⟨rfl,hb11⟩;have o0:=(hN10.below hb11).cell 0 rfl;have o1:=(hG10.below hb11).cell 0 rfl)
                go_ret
                exact ⟨rfl,HB6.out.trans ((hb10.trans (hb11.mono hb10.size)).mono HB6.out.size)⟩
            clear hK0
            have hbW:Below wr.heap.size wr wr.drew:=(Below.refl _ _).drew
            have hS:wr.drew.cell? ⟨w.heap.size,0,none⟩=some (.string f.module)∧wr.drew.cell? ⟨w.heap.size,1,none⟩=some vv∧wr.drew.cell? ⟨w.heap.size,2,none⟩=some pv:=⟨r2,r3,r4⟩
            refine wp_region_held_drew (S:=fun W=>W.cell? ⟨w.heap.size,0,none⟩=some (.string f.module)∧W.cell? ⟨w.heap.size,1,none⟩=some vv∧W.cell? ⟨w.heap.size,2,none⟩=some pv) (by kernel_rfl) hS (fun hHeld=>?_)
            generalize wr.drew=W0 at *
            refine tkH (i:=1) (v:=.slice fa qs.length fc) rfl (Or.inl ⟨by rfl,fun w hSw=>by obtain ⟨z0,z1,z2⟩:=hSw;go_simp⟩) hS ?_
            simp only [Act.put,jA,jB,jC]
            refine tkH (i:=3) (v:=.agg #[.string f.module,vv,pv]) rfl (Or.inl ⟨by rfl,fun w hSw=>by obtain ⟨z0,z1,z2⟩:=hSw;go_simp⟩) hS ?_
            simp only [Act.put,jA,jB,jC]
            refine wpAnyH_ready (rs:=[0,4]) (by kernel_rfl) (by simp) ?_
            refine AllReadyH.cons rfl (fun KK hK=>?_) (AllReadyH.cons rfl (fun KK hK=>?_) AllReadyH.nil)
            · skip
              go_simp
              have hown:(W0.alloc (.cells #[] 44)).ownsRow wr.heap.size 44 3 (.slice (some ⟨W0.heap.size,0,none⟩) 0 0) 0 []:=World.ownsRow_lit W0 #[] 0 (hbW.size) (by decide) rfl
              have hs0:(W0.alloc (.cells #[] 44)).heap.size=W0.heap.size+1:=by simp
              have hge:wr.heap.size≤W0.heap.size:=hbW.size
              replace hbW:=hbW.alloc hbW.size (.cells #[] 44)
              skip
              refine hK.out _ _ ⟨keep r2 hbW,keep r3 hbW,keep r4 hbW⟩ (fun hHeld=>?_)
              clear hK KK hHeld
              generalize W0.alloc (.cells #[] 44)=W1 at *
              generalize W0.heap.size=s0 at *
              refine wpAnyH_ready (rs:=[2,4]) (by kernel_rfl) (by simp) ?_
              refine AllReadyH.cons rfl (fun KK hK=>?_) (AllReadyH.cons rfl (fun KK hK=>?_) AllReadyH.nil)
              · skip
                refine step_append_faces (by rfl) (.tmp 74) (.tmp 75) 22 (by rfl) wr.heap.size 44 i0 (.agg #[.string ⟨#[]⟩,.slice none 0 0,.slice none 0 0]) 3 64 Tryz.underlying22 hi hz0 hz1 hz2 rfl (by decide) s0 (by simp [Act.eval,Act.put]) hown fa qs.length fc (faceCells qs) (by simp [Act.eval,Act.put]) (faceCells_len qs) HFA.out.1 (fun p hp j u h=>keep (HFA.out.2.1 p hp j u h) hbW) HFA.out.2.2 (by unfold maxLen;omega) (by omega) hbW.size _ rfl ?_
                intro g5 cap5 w5 hown5 hgrow5 hat5
                replace hbW:=hbW.grown hgrow5 hbW.size (fun k e=>by cases e;exact hge)
                skip
                refine hK.out _ _ ⟨keep r2 hbW,keep r3 hbW,keep r4 hbW⟩ (fun hHeld=>?_)
                clear hK KK hHeld hgrow5 hat5 hown
                simp only [Act.put,jA,jB,jC]
                refine wpAnyH_ready (rs:=[4]) (by kernel_rfl) (by simp) ?_
                refine AllReadyH.cons rfl (fun KK hK=>?_) AllReadyH.nil
                go_simp
                have hnew:∀ j u,[Value.string f.module,vv,pv][j]?=some u→(w5.alloc (.cells #[.string f.module,vv,pv] 44)).cell? ((⟨w5.heap.size,0,none⟩:Addr).add j)=some u:=news_new _ #[.string f.module,vv,pv] _ _ rfl
                have hs1:(w5.alloc (.cells #[.string f.module,vv,pv] 44)).heap.size=w5.heap.size+1:=by simp
                have hge1:wr.heap.size≤w5.heap.size:=hbW.size
                replace hbW:=hbW.alloc hbW.size (.cells #[.string f.module,vv,pv] 44)
                replace hown5:=hown5.alloc (.cells #[.string f.module,vv,pv] 44)
                refine hK.out _ _ ⟨keep r2 hbW,keep r3 hbW,keep r4 hbW⟩ (fun hHeld=>?_)
                clear hK KK hHeld
                generalize w5.alloc (.cells #[.string f.module,vv,pv] 44)=W2 at *
                generalize w5.heap.size=s1 at *
                refine wpAnyH_ready (rs:=[5]) (by kernel_rfl) (by simp) ?_
                refine AllReadyH.cons rfl (fun KK hK=>?_) AllReadyH.nil
                refine step_append_lies _ (by rfl) (.tmp 76) (.tmp 78) 22 (by rfl) wr.heap.size 44 i0 (.agg #[.string ⟨#[]⟩,.slice none 0 0,.slice none 0 0]) 3 64 Tryz.underlying22 hi hz0 hz1 hz2 rfl (by decide) (.slice (some ⟨g5,0,none⟩) qs.length cap5) qs.length (faceCells qs) (by simp [Act.eval,Act.put]) hown5 ⟨s1,0,none⟩ 1 1 [.string f.module,vv,pv] (by simp [Act.eval,Act.put]) rfl hnew (by intro u hu;simp at hu;rcases hu with rfl | rfl | rfl;rfl;exact hv1;exact hp1) (by omega) (by unfold maxLen;omega) (by omega) hbW.size _ rfl ?_
                intro g6 cap6 w6 hown6 hgrow6 hat6 hlt6
                replace hbW:=hbW.grown hgrow6 hbW.size (fun k e=>(hown5.lt _ e).1)
                have hS6:w6.cell? ⟨w.heap.size,0,none⟩=some (.string f.module)∧w6.cell? ⟨w.heap.size,1,none⟩=some vv∧w6.cell? ⟨w.heap.size,2,none⟩=some pv:=⟨keep r2 hbW,keep r3 hbW,keep r4 hbW⟩
                refine hK.out _ _ hS6 (fun hHeld=>?_)
                clear hK KK hHeld hgrow6 hat6 hlt6 hown5 hnew
                simp only [Act.put,jA,jB,jC]
                refine tkH (i:=6) (v:=.slice (some ⟨g6,0,none⟩) (qs.length+1) cap6) rfl (Or.inl ⟨by rfl,fun w hSw=>by obtain ⟨z0,z1,z2⟩:=hSw;go_simp⟩) hS6 ?_
                simp only [Act.put,jA,jB,jC]
                refine wpAnyH_done (by kernel_rfl) ?_ _
                exact HF g6 cap6 w6 hbW hown6 _ _ _ _ _ _ _ _ _ _ _ _ _ _ _ _ _ _ _ _ _ _ _ _ _ _ _ _ _ _ _ _ _ _ _ _ _ _ _ _ _ _ _ _ _ _ _ _ _ _ _ _ _ _ _ _ _ _ _ _ _ _ _ _ _ _ _ _ _ _ _ _ _ _ _ _ _ _ _ _ _ _ _ _ _ _ _ _ _ _ _ _ _ _ _ _ _ _ _ _
              · skip
                go_simp
                have hnew:∀ j u,[Value.string f.module,vv,pv][j]?=some u→(W1.alloc (.cells #[.string f.module,vv,pv] 44)).cell? ((⟨W1.heap.size,0,none⟩:Addr).add j)=some u:=news_new _ #[.string f.module,vv,pv] _ _ rfl
                have hs1:(W1.alloc (.cells #[.string f.module,vv,pv] 44)).heap.size=W1.heap.size+1:=by simp
                have hge1:wr.heap.size≤W1.heap.size:=hbW.size
                replace hbW:=hbW.alloc hbW.size (.cells #[.string f.module,vv,pv] 44)
                replace hown:=hown.alloc (.cells #[.string f.module,vv,pv] 44)
                refine hK.out _ _ ⟨keep r2 hbW,keep r3 hbW,keep r4 hbW⟩ (fun hHeld=>?_)
                clear hK KK hHeld
                generalize W1.alloc (.cells #[.string f.module,vv,pv] 44)=W2 at *
                generalize W1.heap.size=s1 at *
                refine wpAnyH_ready (rs:=[2]) (by kernel_rfl) (by simp) ?_
                refine AllReadyH.cons rfl (fun KK hK=>?_) AllReadyH.nil
                refine step_append_faces (by rfl) (.tmp 74) (.tmp 75) 22 (by rfl) wr.heap.size 44 i0 (.agg #[.string ⟨#[]⟩,.slice none 0 0,.slice none 0 0]) 3 64 Tryz.underlying22 hi hz0 hz1 hz2 rfl (by decide) s0 (by simp [Act.eval,Act.put]) hown fa qs.length fc (faceCells qs) (by simp [Act.eval,Act.put]) (faceCells_len qs) HFA.out.1 (fun p hp j u h=>keep (HFA.out.2.1 p hp j u h) hbW) HFA.out.2.2 (by unfold maxLen;omega) (by omega) hbW.size _ rfl ?_
                intro g5 cap5 w5 hown5 hgrow5 hat5
                replace hbW:=hbW.grown hgrow5 hbW.size (fun k e=>by cases e;exact hge)
                replace hnew:=news_far hnew hgrow5 (by omega) (by omega)
                refine hK.out _ _ ⟨keep r2 hbW,keep r3 hbW,keep r4 hbW⟩ (fun hHeld=>?_)
                clear hK KK hHeld hgrow5 hat5 hown
                simp only [Act.put,jA,jB,jC]
                refine wpAnyH_ready (rs:=[5]) (by kernel_rfl) (by simp) ?_
                refine AllReadyH.cons rfl (fun KK hK=>?_) AllReadyH.nil
                refine step_append_lies _ (by rfl) (.tmp 76) (.tmp 78) 22 (by rfl) wr.heap.size 44 i0 (.agg #[.string ⟨#[]⟩,.slice none 0 0,.slice none 0 0]) 3 64 Tryz.underlying22 hi hz0 hz1 hz2 rfl (by decide) (.slice (some ⟨g5,0,none⟩) qs.length cap5) qs.length (faceCells qs) (by simp [Act.eval,Act.put]) hown5 ⟨s1,0,none⟩ 1 1 [.string f.module,vv,pv] (by simp [Act.eval,Act.put]) rfl hnew (by intro u hu;simp at hu;rcases hu with rfl | rfl | rfl;rfl;exact hv1;exact hp1) (by omega) (by unfold maxLen;omega) (by omega) hbW.size _ rfl ?_
                intro g6 cap6 w6 hown6 hgrow6 hat6 hlt6
                replace hbW:=hbW.grown hgrow6 hbW.size (fun k e=>(hown5.lt _ e).1)
                have hS6:w6.cell? ⟨w.heap.size,0,none⟩=some (.string f.module)∧w6.cell? ⟨w.heap.size,1,none⟩=some vv∧w6.cell? ⟨w.heap.size,2,none⟩=some pv:=⟨keep r2 hbW,keep r3 hbW,keep r4 hbW⟩
                refine hK.out _ _ hS6 (fun hHeld=>?_)
                clear hK KK hHeld hgrow6 hat6 hlt6 hown5 hnew
                simp only [Act.put,jA,jB,jC]
                refine tkH (i:=6) (v:=.slice (some ⟨g6,0,none⟩) (qs.length+1) cap6) rfl (Or.inl ⟨by rfl,fun w hSw=>by obtain ⟨z0,z1,z2⟩:=hSw;go_simp⟩) hS6 ?_
                simp only [Act.put,jA,jB,jC]
                refine wpAnyH_done (by kernel_rfl) ?_ _
                exact HF g6 cap6 w6 hbW hown6 _ _ _ _ _ _ _ _ _ _ _ _ _ _ _ _ _ _ _ _ _ _ _ _ _ _ _ _ _ _ _ _ _ _ _ _ _ _ _ _ _ _ _ _ _ _ _ _ _ _ _ _ _ _ _ _ _ _ _ _ _ _ _ _ _ _ _ _ _ _ _ _ _ _ _ _ _ _ _ _ _ _ _ _ _ _ _ _ _ _ _ _ _ _ _ _ _ _ _ _
            · skip
              go_simp
              have hnew:∀ j u,[Value.string f.module,vv,pv][j]?=some u→(W0.alloc (.cells #[.string f.module,vv,pv] 44)).cell? ((⟨W0.heap.size,0,none⟩:Addr).add j)=some u:=news_new _ #[.string f.module,vv,pv] _ _ rfl
              have hs1:(W0.alloc (.cells #[.string f.module,vv,pv] 44)).heap.size=W0.heap.size+1:=by simp
              have hge1:wr.heap.size≤W0.heap.size:=hbW.size
              replace hbW:=hbW.alloc hbW.size (.cells #[.string f.module,vv,pv] 44)
              skip
              refine hK.out _ _ ⟨keep r2 hbW,keep r3 hbW,keep r4 hbW⟩ (fun hHeld=>?_)
              clear hK KK hHeld
              generalize W0.alloc (.cells #[.string f.module,vv,pv] 44)=W1 at *
              generalize W0.heap.size=s1 at *
              refine wpAnyH_ready (rs:=[0]) (by kernel_rfl) (by simp) ?_
              refine AllReadyH.cons rfl (fun KK hK=>?_) AllReadyH.nil
              go_simp
              have hown:(W1.alloc (.cells #[] 44)).ownsRow wr.heap.size 44 3 (.slice (some ⟨W1.heap.size,0,none⟩) 0 0) 0 []:=World.ownsRow_lit W1 #[] 0 (hbW.size) (by decide) rfl
              have hs0:(W1.alloc (.cells #[] 44)).heap.size=W1.heap.size+1:=by simp
              have hge:wr.heap.size≤W1.heap.size:=hbW.size
              replace hbW:=hbW.alloc hbW.size (.cells #[] 44)
              replace hnew:=news_alloc hnew (.cells #[] 44)
              refine hK.out _ _ ⟨keep r2 hbW,keep r3 hbW,keep r4 hbW⟩ (fun hHeld=>?_)
              clear hK KK hHeld
              generalize W1.alloc (.cells #[] 44)=W2 at *
              generalize W1.heap.size=s0 at *
              refine wpAnyH_ready (rs:=[2]) (by kernel_rfl) (by simp) ?_
              refine AllReadyH.cons rfl (fun KK hK=>?_) AllReadyH.nil
              refine step_append_faces (by rfl) (.tmp 74) (.tmp 75) 22 (by rfl) wr.heap.size 44 i0 (.agg #[.string ⟨#[]⟩,.slice none 0 0,.slice none 0 0]) 3 64 Tryz.underlying22 hi hz0 hz1 hz2 rfl (by decide) s0 (by simp [Act.eval,Act.put]) hown fa qs.length fc (faceCells qs) (by simp [Act.eval,Act.put]) (faceCells_len qs) HFA.out.1 (fun p hp j u h=>keep (HFA.out.2.1 p hp j u h) hbW) HFA.out.2.2 (by unfold maxLen;omega) (by omega) hbW.size _ rfl ?_
              intro g5 cap5 w5 hown5 hgrow5 hat5
              replace hbW:=hbW.grown hgrow5 hbW.size (fun k e=>by cases e;exact hge)
              replace hnew:=news_far hnew hgrow5 (by omega) (by omega)
              refine hK.out _ _ ⟨keep r2 hbW,keep r3 hbW,keep r4 hbW⟩ (fun hHeld=>?_)
              clear hK KK hHeld hgrow5 hat5 hown
              simp only [Act.put,jA,jB,jC]
              refine wpAnyH_ready (rs:=[5]) (by kernel_rfl) (by simp) ?_
              refine AllReadyH.cons rfl (fun KK hK=>?_) AllReadyH.nil
              refine step_append_lies _ (by rfl) (.tmp 76) (.tmp 78) 22 (by rfl) wr.heap.size 44 i0 (.agg #[.string ⟨#[]⟩,.slice none 0 0,.slice none 0 0]) 3 64 Tryz.underlying22 hi hz0 hz1 hz2 rfl (by decide) (.slice (some ⟨g5,0,none⟩) qs.length cap5) qs.length (faceCells qs) (by simp [Act.eval,Act.put]) hown5 ⟨s1,0,none⟩ 1 1 [.string f.module,vv,pv] (by simp [Act.eval,Act.put]) rfl hnew (by intro u hu;simp at hu;rcases hu with rfl | rfl | rfl;rfl;exact hv1;exact hp1) (by omega) (by unfold maxLen;omega) (by omega) hbW.size _ rfl ?_
              intro g6 cap6 w6 hown6 hgrow6 hat6 hlt6
              replace hbW:=hbW.grown hgrow6 hbW.size (fun k e=>(hown5.lt _ e).1)
              have hS6:w6.cell? ⟨w.heap.size,0,none⟩=some (.string f.module)∧w6.cell? ⟨w.heap.size,1,none⟩=some vv∧w6.cell? ⟨w.heap.size,2,none⟩=some pv:=⟨keep r2 hbW,keep r3 hbW,keep r4 hbW⟩
              refine hK.out _ _ hS6 (fun hHeld=>?_)
              clear hK KK hHeld hgrow6 hat6 hlt6 hown5 hnew
              simp only [Act.put,jA,jB,jC]
              refine tkH (i:=6) (v:=.slice (some ⟨g6,0,none⟩) (qs.length+1) cap6) rfl (Or.inl ⟨by rfl,fun w hSw=>by obtain ⟨z0,z1,z2⟩:=hSw;go_simp⟩) hS6 ?_
              simp only [Act.put,jA,jB,jC]
              refine wpAnyH_done (by kernel_rfl) ?_ _
              exact HF g6 cap6 w6 hbW hown6 _ _ _ _ _ _ _ _ _ _ _ _ _ _ _ _ _ _ _ _ _ _ _ _ _ _ _ _ _ _ _ _ _ _ _ _ _ _ _ _ _ _ _ _ _ _ _ _ _ _ _ _ _ _ _ _ _ _ _ _ _ _ _ _ _ _ _ _ _ _ _ _ _ _ _ _ _ _ _ _ _ _ _ _ _ _ _ _ _ _ _ _ _ _ _ _ _ _ _ _
  · have hcn:(ec != 0)=true:=by simp [he]
    have hrn:(rc != 0)=true:=by simp [hbadR he]
    go_wp2
    go_ret
    exact ⟨by simp [hbadR he],hb6⟩
end Go.Proofs.YtfopddgjdaoidaaGreatDoor.chk
