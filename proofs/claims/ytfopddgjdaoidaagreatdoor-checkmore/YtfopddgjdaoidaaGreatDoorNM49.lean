/- What the program's Check answers: a contract. -/
import Derived.Test.YtfopddgjdaoidaaGreatDoorNM48
set_option linter.unusedVariables false
set_option linter.unusedSimpArgs false
set_option maxRecDepth 100000
namespace Go.Proofs.YtfopddgjdaoidaaGreatDoor.chk
open Go.RowKit Go.Shelf Go.Maps
open syn face
open lexs (HasErr)
def HasAll (w:World):Prop:=HasBoth w∧HasMax w
theorem hasAll_below {w w':World} (h:HasAll w) (hb:Below w.heap.size w w'):HasAll w':=⟨hasBoth_below h.1 hb,hasMax_below h.2 hb⟩
def noNodeV:Value:=.agg #[.int .i64 0,.string ⟨#[]⟩,.int .i64 0,.slice none 0 0]
def CkOut (w:World) (x:ByteArray) (r:Int × Int) (e:Ending) (w':World):Prop :=
  ∃ v,e=.returned (.tuple #[v,.agg #[.int .i64 r.1,.int .i64 r.2]])∧(r.1=0→Lies (fun b=>w.heap.size≤b∧b<w'.heap.size) w' (parse x).tree v)∧(r.1≠0→v=noNodeV)∧Below w.heap.size w w'
theorem checkRes {W:World} {n0 n1 n2 n3 f0 f1 a0 a1 a2 a3:Value} (tl:List Value) (B C:Nat) (h:BoxC W B #[n0,n1,n2,n3] 25) (hf:BoxC W C #[f0,f1] 28):(results Tryz.f9 (List.toArray (a0 :: a1 :: a2 :: a3 :: .pointer (some ⟨B,0,none⟩) :: .pointer (some ⟨C,0,none⟩) :: tl))).run Tryz.prog W=.ok (.tuple #[.agg #[n0,n1,n2,n3],.agg #[f0,f1]]) W:=by
  have c24:Tryz.prog.cellsOf 25=4:=by kernel_rfl
  have c27:Tryz.prog.cellsOf 28=2:=by kernel_rfl
  have z0:=h.cell 0 rfl
  have z1:=h.cell 1 rfl
  have z2:=h.cell 2 rfl
  have z3:=h.cell 3 rfl
  have y0:=hf.cell 0 rfl
  have y1:=hf.cell 1 rfl
  simp [results,Tryz.f9,go_sem,z0,z1,z2,z3,y0,y1]
section
variable {w W:World} {N:Nat}
structure RB (w W:World) (N:Nat):Prop where
  n:BoxC W N #[.int .i64 0,.string ⟨#[]⟩,.int .i64 0,.slice none 0 0] 25
  f:BoxC W (N+1) #[.int .i64 0,.int .i64 0] 28
  b:Below w.heap.size w W
  hN:w.heap.size=N
theorem RB.below (h:RB w W N) {W':World} (hb:Below W.heap.size W W'):RB w W' N:=⟨h.n.below hb,h.f.below hb,h.b.trans (hb.mono h.b.size),h.hN⟩
theorem RB.alloc (h:RB w W N) (o:Obj):RB w (W.alloc o) N:=h.below ((Below.refl _ _).alloc (jE _) o)
theorem RB.grown (h:RB w W N) {W':World} {b:Nat} (hg:W.grownBy W' (some b)) (hb:N+1<b):RB w W' N:=⟨h.n.grown hg (by simp;omega),h.f.grown hg (by simp;omega),h.b.grown hg h.b.size (fun k e=>by injection e with e;have:=h.hN;omega),h.hN⟩
theorem RB.cells (h:RB w W N):W.cell? ⟨N,0,none⟩=some (.int .i64 0)∧W.cell? ⟨N,1,none⟩=some (.string ⟨#[]⟩)∧W.cell? ⟨N,2,none⟩=some (.int .i64 0)∧W.cell? ⟨N,3,none⟩=some (.slice none 0 0)∧W.cell? ⟨N+1,0,none⟩=some (.int .i64 0)∧W.cell? ⟨N+1,1,none⟩=some (.int .i64 0)∧(∀ k,W.frozen? ⟨N,k,none⟩=false)∧∀ k,W.frozen? ⟨N+1,k,none⟩=false :=
  ⟨h.n.cell 0 rfl,h.n.cell 1 rfl,h.n.cell 2 rfl,h.n.cell 3 rfl,h.f.cell 0 rfl,h.f.cell 1 rfl,h.n.fz,h.f.fz⟩
theorem RB.done (h:RB w W N) (n0 n1 n2 n3 f0 f1:Value):BoxC ((((((W.setCell ⟨N,0,none⟩ n0).setCell ⟨N,1,none⟩ n1).setCell ⟨N,2,none⟩ n2).setCell ⟨N,3,none⟩ n3).setCell ⟨N+1,0,none⟩ f0).setCell ⟨N+1,1,none⟩ f1) N #[n0,n1,n2,n3] 25∧BoxC ((((((W.setCell ⟨N,0,none⟩ n0).setCell ⟨N,1,none⟩ n1).setCell ⟨N,2,none⟩ n2).setCell ⟨N,3,none⟩ n3).setCell ⟨N+1,0,none⟩ f0).setCell ⟨N+1,1,none⟩ f1) (N+1) #[f0,f1] 28∧Below w.heap.size w ((((((W.setCell ⟨N,0,none⟩ n0).setCell ⟨N,1,none⟩ n1).setCell ⟨N,2,none⟩ n2).setCell ⟨N,3,none⟩ n3).setCell ⟨N+1,0,none⟩ f0).setCell ⟨N+1,1,none⟩ f1):=by
  have hN:w.heap.size≤N:=Nat.le_of_eq h.hN
  refine ⟨((((((h.n.set 0 n0).set 1 n1).set 2 n2).set 3 n3).other (b:=N+1) (o:=0) (by omega) f0).other (b:=N+1) (o:=1) (by omega) f1),(((((h.f.other (b:=N) (o:=0) (by omega) n0).other (b:=N) (o:=1) (by omega) n1).other (b:=N) (o:=2) (by omega) n2).other (b:=N) (o:=3) (by omega) n3).set 0 f0).set 1 f1,?_⟩
  exact (((((h.b.setCell (p:=⟨N,0,none⟩) hN _).setCell (p:=⟨N,1,none⟩) hN _).setCell (p:=⟨N,2,none⟩) hN _).setCell (p:=⟨N,3,none⟩) hN _).setCell (p:=⟨N+1,0,none⟩) (Nat.le_succ_of_le hN) _).setCell (p:=⟨N+1,1,none⟩) (Nat.le_succ_of_le hN) _
theorem RB.drew (h:RB w W N):RB w W.drew N:=⟨h.n,h.f,h.b.drew,h.hN⟩
theorem CkOut.mkBad {w W:World} {x:ByteArray} {R:Int × Int} {c p:Int} {e:Ending} (hR:R=(c,p)) (hc:c≠0) (he:e=.returned (.tuple #[noNodeV,.agg #[.int .i64 c,.int .i64 p]])) (hb:Below w.heap.size w W):CkOut w x R e W:=by
  subst hR
  exact ⟨_,he,fun h=>absurd h hc,fun _=>rfl,hb⟩
end
set_option maxHeartbeats 8000000 in
theorem oCheck (x:ByteArray) (qs:List FV) (fv:Value) (m:ByteArray) (K:List Kid) (w:World) (hH:HasAll w) (hF:FacesIn w fv qs) (hsh:(parse x).code=0→(parse x).tree=.node 1 m 0 (K.map Kid.tree)∧m.size≤16∧(∀ k ∈ K,k.good∧k.named∧deepK k)∧cntL (K.map Kid.tree)≤900∧K.length≤900∧∀ k ∈ K,k.kids.length≤900) :
    Calls Tryz.prog 9 #[.string x,fv] w (CkOut w x (ckF x (qs.map (·.1)) m K)):=by
  have c24:Tryz.prog.cellsOf 25=4:=by kernel_rfl
  have c27:Tryz.prog.cellsOf 28=2:=by kernel_rfl
  have c3:Tryz.prog.cellsOf 44=3:=cell3
  have hmm0:=@run_makeMap Tryz.prog
  obtain ⟨R,HR⟩:∃ R,Hid (ckF x (qs.map (·.1)) m K=R):=⟨_,rfl⟩
  rw [HR.out]
  obtain ⟨a,c,rfl,hql,hqk⟩:=hF
  have hall:∀ p ∈ qs,FaceIn w (fvV p) p.1:=fun p hp=>by
    obtain ⟨i,hi,rfl⟩:=List.mem_iff_getElem.1 hp
    obtain ⟨g,o,_,hat⟩:=hqk (fun e=>by rw [e] at hi;cases hi)
    exact (hat i hi).2.2.2.1
  have hRB:RB w (((w.alloc (.cells #[.int .i64 0,.string ⟨#[]⟩,.int .i64 0,.slice none 0 0] 25)).alloc (.cells #[.int .i64 0,.int .i64 0] 28)).alloc (.map #[] 0)) w.heap.size:=by
    refine ⟨((BoxC.new w _ _).alloc _).alloc _,?_,(((Below.refl _ _).alloc (jE _) _).alloc (by simp) _).alloc (by simp;omega) _,rfl⟩
    have:=(BoxC.new (w.alloc (.cells #[.int .i64 0,.string ⟨#[]⟩,.int .i64 0,.slice none 0 0] 25)) #[.int .i64 0,.int .i64 0] 28).alloc (.map #[] 0)
    rw [World.size_alloc] at this
    exact this
  have hMp:MapF (((w.alloc (.cells #[.int .i64 0,.string ⟨#[]⟩,.int .i64 0,.slice none 0 0] 25)).alloc (.cells #[.int .i64 0,.int .i64 0] 28)).alloc (.map #[] 0)) (w.heap.size+1+1) 0 (fun z=>fvO (gfOf [] z)):=by
    have:=MapF.made ((w.alloc (.cells #[.int .i64 0,.string ⟨#[]⟩,.int .i64 0,.slice none 0 0] 25)).alloc (.cells #[.int .i64 0,.int .i64 0] 28))
    rw [World.size_alloc,World.size_alloc] at this
    exact this
  go_enter Tryz.func9,Tryz.ntmps9
  go_wp2
  generalize (((w.alloc (.cells #[.int .i64 0,.string ⟨#[]⟩,.int .i64 0,.slice none 0 0] 25)).alloc (.cells #[.int .i64 0,.int .i64 0] 28)).alloc (.map #[] 0))=W1 at *
  go_loopw [20] (fun t wr=>∃ j:Nat,j≤qs.length∧t=.int .i64 j∧RB w wr w.heap.size∧MapF wr (w.heap.size+1+1) j (fun z=>fvO (gfOf (qs.take j) z))∧Hid (badF [] (qs.map (·.1))=badF ((qs.map (·.1)).take j) ((qs.map (·.1)).drop j))) (fun t _=>qs.length - (intOf t).toNat)
  case atStart=>exact ⟨0,Nat.zero_le _,rfl,hRB,hMp,by show _=_;simp⟩
  case round =>
    clear hRB hMp
    obtain ⟨j,hj,rfl,hRB,hMp,HBd⟩:=hrel
    by_cases hlt:j<qs.length
    · obtain ⟨g,o,rfl,hat⟩:=hqk (by intro e;rw [e] at hlt;simp at hlt)
      obtain ⟨k0,k1,k2,hfi,hms⟩:=hat j hlt
      have k0:=keep k0 hRB.b
      have k1:=keep k1 hRB.b
      have k2:=keep k2 hRB.b
      have hfi:=hfi.below hRB.b
      have hstep:=badF_step (qs.map (·.1)) j (by simpa using hlt)
      rw [List.getElem_map] at hstep
      have hgn:=gfOf_none (qs.take j) qs[j].1.module
      rw [List.map_take] at hgn
      have hgs:=gfOf_snoc (qs.take j) qs[j]
      rw [List.map_take] at hgs
      have htk:qs.take (j+1)=qs.take j++[qs[j]]:=List.take_succ_eq_append_getElem hlt
      rw [← htk] at hgs
      have HS2:Hid _:=HBd.out.trans hstep
      clear hqk hat hstep htk HBd
      generalize hqq:qs[j]=q at *
      clear hqq
      obtain ⟨fm,a1,n1,d1,a2,n2,d2,hsh3⟩:=face_shape hfi
      obtain ⟨qf,qv,qp⟩:=q
      unfold fvV at hsh3
      dsimp only at *
      injection hsh3 with hsh3
      simp only [Array.mk.injEq,List.cons.injEq,and_true] at hsh3
      obtain ⟨_,rfl,rfl⟩:=hsh3
      have hRB1:=hRB.alloc (.cells #[.string qf.module,.slice a1 n1 d1,.slice a2 n2 d2] 44)
      have hMp1:MapF (wr.alloc (.cells #[.string qf.module,.slice a1 n1 d1,.slice a2 n2 d2] 44)) (w.heap.size+1+1) j (fun z=>fvO (gfOf (qs.take j) z)):=hMp.below ((Below.refl _ _).alloc (jE _) _)
      have hgb:=hMp.lt
      cases hgf:gfOf (qs.take j) qf.module with
      | some pp =>
        have hpm:pp ∈ qs:=List.mem_of_mem_take (List.mem_of_find?_eq_some hgf)
        obtain ⟨pm,b1,m1,e1',b2,m2,e2',hpv⟩:=face_shape (hall pp hpm)
        have hRB2:=hRB1.alloc (.cells #[.string pm,.slice b1 m1 e1',.slice b2 m2 e2'] 44)
        have HB:Hid (R=(2,0)):=by
          show _=_
          rw [← HR.out]
          unfold ckF
          rw [if_pos]
          rw [HS2.out]
          rw [hgf] at hgn
          rw [← hgn]
          rfl
        clear HS2 HR hgs hgn hsh hall
        obtain ⟨z0,z1,z2,z3,y0,y1,zf,yf⟩:=hRB2.cells;have zf0:=zf 0;have zf1:=zf 1;have zf2:=zf 2;have zf3:=zf 3;have yf0:=yf 0;have yf1:=yf 1
        go_wp2_with first
          | (at_lookup;refine wpList_look (f:=fun z=>fvO (gfOf (qs.take j) z)) rfl _ _ rfl rfl hMp1 qf.module hms rfl ?_;rw [hgf,show fvO (some pp)=some (fvV pp) from rfl,hpv])
          | go_in
        obtain ⟨e1,e2,e3⟩:=hRB2.done (.int .i64 0) (.string ⟨#[]⟩) (.int .i64 0) (.slice none 0 0) (.int .i64 2) (.int .i64 0)
        refine bodyPost_ret (v:=.tuple #[.agg #[.int .i64 0,.string ⟨#[]⟩,.int .i64 0,.slice none 0 0],.agg #[.int .i64 2,.int .i64 0]]) (checkRes _ _ _ e1 e2) rfl ?_
        exact CkOut.mkBad HB.out (by decide) rfl e3
      | none =>
        have hRB2:=hRB1.alloc (.cells #[.string ⟨#[]⟩,.slice none 0 0,.slice none 0 0] 44)
        have hB2:Below wr.heap.size wr ((wr.alloc (.cells #[.string qf.module,.slice a1 n1 d1,.slice a2 n2 d2] 44)).alloc (.cells #[.string ⟨#[]⟩,.slice none 0 0,.slice none 0 0] 44)):=((Below.refl _ _).alloc (jE _) _).alloc (by simp) _
        have hfi2:=hfi.below hB2
        have hHW:HasErr ((wr.alloc (.cells #[.string qf.module,.slice a1 n1 d1,.slice a2 n2 d2] 44)).alloc (.cells #[.string ⟨#[]⟩,.slice none 0 0,.slice none 0 0] 44)):=(hasAll_below hH hRB2.b).1.1
        have hQ2:=(BoxC.new wr #[.string qf.module,.slice a1 n1 d1,.slice a2 n2 d2] 44).alloc (.cells #[.string ⟨#[]⟩,.slice none 0 0,.slice none 0 0] 44)
        have r0:=hQ2.cell 0 rfl
        have r1:=hQ2.cell 1 rfl
        have r2:=hQ2.cell 2 rfl
        have hMp2:=hMp.below hB2
        have hMay:=oMay qf _ _ hHW hfi2
        unfold fvV at hMay
        dsimp only at hMay
        have hanyf:(List.take j (qs.map (·.1))).any (fun p=>eqS p.module qf.module)=false:=by
          rw [hgf] at hgn
          exact hgn.symm
        cases hm:mayB qf with
        | false =>
          have HB:Hid (R=(2,0)):=by
            show _=_
            rw [← HR.out]
            unfold ckF
            rw [if_pos]
            rw [HS2.out,hm]
            simp
          clear HS2 HR hgs hgn hsh hall hanyf
          go_wp2_with first
            | (at_lookup;refine wpList_look (f:=fun z=>fvO (gfOf (qs.take j) z)) rfl _ _ rfl rfl hMp1 qf.module hms rfl ?_;rw [hgf,show fvO none=(none:Option Value) from rfl];unfold noFaceV)
            | (go_at_call 18;refine hMay.mono ?_;rintro e w4 ⟨rfl,hb4⟩;rw [hm];have hRB4:=hRB2.below hb4;obtain ⟨z0,z1,z2,z3,y0,y1,zf,yf⟩:=hRB4.cells;have zf0:=zf 0;have zf1:=zf 1;have zf2:=zf 2;have zf3:=zf 3;have yf0:=yf 0;have yf1:=yf 1)
            | go_in
          obtain ⟨e1,e2,e3⟩:=hRB4.done (.int .i64 0) (.string ⟨#[]⟩) (.int .i64 0) (.slice none 0 0) (.int .i64 2) (.int .i64 0)
          refine bodyPost_ret (v:=.tuple #[.agg #[.int .i64 0,.string ⟨#[]⟩,.int .i64 0,.slice none 0 0],.agg #[.int .i64 2,.int .i64 0]]) (checkRes _ _ _ e1 e2) rfl ?_
          exact CkOut.mkBad HB.out (by decide) rfl e3
        | true =>
          have HS3:Hid (badF [] (qs.map (·.1))=badF ((qs.map (·.1)).take (j+1)) ((qs.map (·.1)).drop (j+1))):=by
            show _=_
            rw [HS2.out,hm,hanyf]
            simp
          have hgs2:=hgs hanyf
          clear HS2 hgs hgn hanyf
          go_wp2_with first
            | (at_lookup;refine wpList_look (f:=fun z=>fvO (gfOf (qs.take j) z)) rfl _ _ rfl rfl hMp1 qf.module hms rfl ?_;rw [hgf,show fvO none=(none:Option Value) from rfl];unfold noFaceV)
            | (go_at_call 18;refine hMay.mono ?_;rintro e w4 ⟨rfl,hb4⟩;rw [hm];have hRB4:=hRB2.below hb4;have hMp4:=hMp2.below hb4;have hQ4:=hQ2.below hb4;have r0:=hQ4.cell 0 rfl;have r1:=hQ4.cell 1 rfl;have r2:=hQ4.cell 2 rfl)
            | (at_mapUpdate;refine wpList_put rfl _ _ _ rfl rfl hMp4 (by unfold maxLen;omega) qf.module hms rfl (.agg #[.string qf.module,.slice a1 n1 d1,.slice a2 n2 d2]) rfl ?_;intro w5 hM5 hg5)
            | go_in
          have hRB5:=hRB4.grown hg5 (by omega)
          rw [show (fun z=>if eqS z qf.module then some (Value.agg #[.string qf.module,.slice a1 n1 d1,.slice a2 n2 d2]) else fvO (gfOf (qs.take j) z))=fun z=>fvO (gfOf (qs.take (j+1)) z) from hgs2] at hM5
          exact ⟨⟨j+1,by omega,by simp,hRB5,hM5,HS3⟩,by simp [intOf];omega⟩
    · skip
      obtain rfl:j=qs.length:=by omega
      rw [List.take_of_length_le (jE _)] at hMp
      have hbad:badF [] (qs.map (·.1))=false:=by
        rw [HBd.out,List.drop_eq_nil_of_le (by simp)]
        rfl
      clear HBd hqk
      have hHr:=hasAll_below hH hRB.b
      by_cases hcode:(parse x).code=0
      · obtain ⟨ht,hm16,hK1,hK2,hK3,hK4⟩:=hsh hcode
        have hO:=oOf_ok x m K wr hHr.1 hcode ht hm16 (fun k hk=>(hK1 k hk).1) (by omega) (fun k hk=>by have:=hK4 k hk;omega)
        unfold DeclOut at hO
        rw [lookD_is] at hO
        cases hlk:lookK m K [] [] 1 with
        | some q =>
          have hq0:¬ q.1=0:=by have:=lookK_code m K _ _ _ q hlk;omega
          have HB:Hid (R=q):=by
            show _=_
            rw [← HR.out]
            unfold ckF
            rw [if_neg (by rw [hbad];decide),if_neg (by simp [hcode]),hlk]
          rw [hlk] at hO
          obtain ⟨qc,qp⟩:=q
          dsimp only at hO hq0
          have hq1:(qc != 0)=true:=by simp [hq0]
          clear HR hlk hsh hall ht hK1 hK2 hK3 hK4
          go_wp2_with (go_at_call 16;refine hO.mono ?_;rintro e w2 ⟨rfl,hb2⟩;have hRB3:=((hRB.below hb2).alloc (.cells #[.string ⟨#[]⟩,.slice none 0 0,.slice none 0 0] 44)).alloc (.cells #[.int .i64 qc,.int .i64 qp] 28))
          have hB3:=BoxC.new (w2.alloc (.cells #[.string ⟨#[]⟩,.slice none 0 0,.slice none 0 0] 44)) #[.int .i64 qc,.int .i64 qp] 28
          rw [World.size_alloc] at hB3
          have hlo3:w.heap.size+1<w2.heap.size+1:=by have:=(hRB.below hb2).f.lt;omega
          generalize (w2.alloc (.cells #[.string ⟨#[]⟩,.slice none 0 0,.slice none 0 0] 44)).alloc (.cells #[.int .i64 qc,.int .i64 qp] 28)=W3 at *
          generalize w2.heap.size+1=B3 at *
          have hS:(fun W=>W.cell? ⟨B3,0,none⟩=some (.int .i64 qc)∧W.cell? ⟨B3,1,none⟩=some (.int .i64 qp)) W3.drew:=⟨hB3.cell 0 rfl,hB3.cell 1 rfl⟩
          refine wp_region_held_drew (S:=fun W=>W.cell? ⟨B3,0,none⟩=some (.int .i64 qc)∧W.cell? ⟨B3,1,none⟩=some (.int .i64 qp)) (by kernel_rfl) hS (fun hHeld=>?_)
          clear hHeld
          have hRB4:=hRB3.drew
          clear hRB3
          generalize W3.drew=W4 at *
          refine tkH (i:=0) (v:=.agg #[.int .i64 0,.string ⟨#[]⟩,.int .i64 0,.slice none 0 0]) rfl (Or.inl ⟨by rfl,fun w hSw=>by obtain ⟨q0,q1⟩:=hSw;go_simp⟩) hS ?_
          simp only [Act.put,jA,jB,jC]
          refine tkH (i:=1) (v:=.agg #[.int .i64 qc,.int .i64 qp]) rfl (Or.inl ⟨by rfl,fun w hSw=>by obtain ⟨q0,q1⟩:=hSw;go_simp⟩) hS ?_
          simp only [Act.put,jA,jB,jC]
          obtain ⟨z0,z1,z2,z3,y0,y1,zf,yf⟩:=hRB4.cells
          have zf0:=zf 0
          have zf1:=zf 1
          have zf2:=zf 2
          have zf3:=zf 3
          have yf0:=yf 0
          have yf1:=yf 1
          refine wpAnyH_ready (rs:=[2]) (by kernel_rfl) (by simp) ?_
          refine AllReadyH.cons rfl (fun KK hK=>?_) AllReadyH.nil
          go_simp
          have hn5:BoxC ((((W4.setCell ⟨w.heap.size,0,none⟩ (.int .i64 0)).setCell ⟨w.heap.size,1,none⟩ (.string ⟨#[]⟩)).setCell ⟨w.heap.size,2,none⟩ (.int .i64 0)).setCell ⟨w.heap.size,3,none⟩ (.slice none 0 0)) w.heap.size ((((#[.int .i64 0,.string ⟨#[]⟩,.int .i64 0,.slice none 0 0]).setIfInBounds 0 (.int .i64 0)).setIfInBounds 1 (.string ⟨#[]⟩)).setIfInBounds 2 (.int .i64 0) |>.setIfInBounds 3 (.slice none 0 0)) 25:=(((hRB4.n.set 0 _).set 1 _).set 2 _).set 3 _
          have hf5:BoxC ((((W4.setCell ⟨w.heap.size,0,none⟩ (.int .i64 0)).setCell ⟨w.heap.size,1,none⟩ (.string ⟨#[]⟩)).setCell ⟨w.heap.size,2,none⟩ (.int .i64 0)).setCell ⟨w.heap.size,3,none⟩ (.slice none 0 0)) (w.heap.size+1) #[.int .i64 0,.int .i64 0] 28:=(((hRB4.f.other (by omega) _).other (by omega) _).other (by omega) _).other (by omega) _
          have hS5:(fun W=>W.cell? ⟨B3,0,none⟩=some (.int .i64 qc)∧W.cell? ⟨B3,1,none⟩=some (.int .i64 qp)) ((((W4.setCell ⟨w.heap.size,0,none⟩ (.int .i64 0)).setCell ⟨w.heap.size,1,none⟩ (.string ⟨#[]⟩)).setCell ⟨w.heap.size,2,none⟩ (.int .i64 0)).setCell ⟨w.heap.size,3,none⟩ (.slice none 0 0)):=by
            have o:∀ i,((((W4.setCell ⟨w.heap.size,0,none⟩ (.int .i64 0)).setCell ⟨w.heap.size,1,none⟩ (.string ⟨#[]⟩)).setCell ⟨w.heap.size,2,none⟩ (.int .i64 0)).setCell ⟨w.heap.size,3,none⟩ (.slice none 0 0)).cell? ⟨B3,i,none⟩=W4.cell? ⟨B3,i,none⟩:=fun i=>World.cell?_of_block (a:=⟨B3,i,none⟩) ((((Below.heap_setCell _ _ _ B3 (by show B3≠w.heap.size;omega)).trans (Below.heap_setCell _ _ _ B3 (by show B3≠w.heap.size;omega))).trans (Below.heap_setCell _ _ _ B3 (by show B3≠w.heap.size;omega))).trans (Below.heap_setCell _ _ _ B3 (by show B3≠w.heap.size;omega)))
            exact ⟨(o 0).trans hS.1,(o 1).trans hS.2⟩
          have v0:=hf5.cell 0 rfl
          have v1:=hf5.cell 1 rfl
          have vf0:=hf5.fz 0
          have vf1:=hf5.fz 1
          obtain ⟨d1,d2,d3⟩:=hRB4.done (.int .i64 0) (.string ⟨#[]⟩) (.int .i64 0) (.slice none 0 0) (.int .i64 qc) (.int .i64 qp)
          refine hK.out _ _ hS5 (fun hHeld=>?_)
          clear hK hHeld z0 z1 z2 z3 y0 y1 zf yf zf0 zf1 zf2 zf3 yf0 yf1 hn5 hf5
          generalize ((((W4.setCell ⟨w.heap.size,0,none⟩ (.int .i64 0)).setCell ⟨w.heap.size,1,none⟩ (.string ⟨#[]⟩)).setCell ⟨w.heap.size,2,none⟩ (.int .i64 0)).setCell ⟨w.heap.size,3,none⟩ (.slice none 0 0))=W5 at *
          refine wpAnyH_ready (rs:=[3]) (by kernel_rfl) (by simp) ?_
          refine AllReadyH.cons rfl (fun KK hK=>?_) AllReadyH.nil
          go_simp
          have hS6:(fun W=>W.cell? ⟨B3,0,none⟩=some (.int .i64 qc)∧W.cell? ⟨B3,1,none⟩=some (.int .i64 qp)) ((W5.setCell ⟨w.heap.size+1,0,none⟩ (.int .i64 qc)).setCell ⟨w.heap.size+1,1,none⟩ (.int .i64 qp)):=by
            have o:∀ i,((W5.setCell ⟨w.heap.size+1,0,none⟩ (.int .i64 qc)).setCell ⟨w.heap.size+1,1,none⟩ (.int .i64 qp)).cell? ⟨B3,i,none⟩=W5.cell? ⟨B3,i,none⟩:=fun i=>World.cell?_of_block (a:=⟨B3,i,none⟩) ((Below.heap_setCell _ _ _ B3 (by show B3≠w.heap.size+1;omega)).trans (Below.heap_setCell _ _ _ B3 (by show B3≠w.heap.size+1;omega)))
            exact ⟨(o 0).trans hS5.1,(o 1).trans hS5.2⟩
          refine hK.out _ _ hS6 (fun hHeld=>?_)
          clear hK hHeld v0 v1 vf0 vf1 hS6 hS5 hS
          refine wpAnyH_done (by kernel_rfl) ?_ _
          go_wp2
          refine bodyPost_ret (v:=.tuple #[.agg #[.int .i64 0,.string ⟨#[]⟩,.int .i64 0,.slice none 0 0],.agg #[.int .i64 qc,.int .i64 qp]]) (checkRes _ _ _ d1 d2) rfl ?_
          exact CkOut.mkBad HB.out hq0 rfl d3
        | none =>
          rw [hlk] at hO
          have HB:Hid (R=nz ((moF (faceK true m K) (qs.map (·.1)) K [] 1).getD (0,0))):=by
            show _=_
            rw [← HR.out]
            unfold ckF
            rw [if_neg (by rw [hbad];decide),if_neg (by simp [hcode]),hlk]
          have hkok:=kids_ok hlk hK1
          have hown:=own_ok hlk
          clear HR hlk hsh hK1
          have hPa:=fun W (hW:HasBoth W)=>oparse x W hW
          unfold PsOut at hPa
          rw [hcode,ht] at hPa
          generalize (parse x).place=pp at *
          go_wp2_with (go_at_call 16;refine hO.mono ?_;rintro e w2 ⟨X2,B2,vv,pv,iv,P2,_,rfl,hFR2,_,_,hiv,hb2⟩;obtain ⟨va,vc,rfl⟩:=hFR2.shapeV;obtain ⟨pa,pc,rfl⟩:=hFR2.shapeP;obtain ⟨ia,ic,rfl,_,_⟩:=lexs.own_shape hiv;clear hFR2 hiv)
          have hb3:Below wr.heap.size wr ((w2.alloc (.cells #[.string m,.slice va (varsK false K).length vc,.slice pa P2.length pc] 44)).alloc (.cells #[.int .i64 0,.int .i64 0] 28)):=hb2.trans ((((Below.refl w2.heap.size w2).alloc (jE _) _).alloc (by simp) _).mono hb2.size)
          have hRB3:=hRB.below hb3
          have hMp3:=hMp.below hb3
          have hHW3:=hasAll_below hH hRB3.b
          have hN3:=hRB3.f.lt
          refine (hPa ((w2.alloc (.cells #[.string m,.slice va (varsK false K).length vc,.slice pa P2.length pc] 44)).alloc (.cells #[.int .i64 0,.int .i64 0] 28)) hHW3.1).mono ?_
          clear hPa hO
          generalize ((w2.alloc (.cells #[.string m,.slice va (varsK false K).length vc,.slice pa P2.length pc] 44)).alloc (.cells #[.int .i64 0,.int .i64 0] 28))=W3 at *
          rintro e w4 ⟨v4,rfl,hl4,hb4⟩
          obtain ⟨k1,x1,m1,b1,n1',e1',rfl⟩:=lies_shape hl4
          have hb5:Below w4.heap.size w4 ((w4.alloc (.cells #[.int .i64 k1,.string x1,.int .i64 m1,.slice b1 n1' e1'] 25)).alloc (.cells #[.int .i64 0,.int .i64 pp] 28)):=((Below.refl w4.heap.size w4).alloc (jE _) _).alloc (by simp) _
          have hRB5:=(hRB3.below hb4).below hb5
          have hMp5:=(hMp3.below hb4).below hb5
          have hHW5:=hasAll_below hH hRB5.b
          have hQ5:BoxC ((w4.alloc (.cells #[.int .i64 k1,.string x1,.int .i64 m1,.slice b1 n1' e1'] 25)).alloc (.cells #[.int .i64 0,.int .i64 pp] 28)) w4.heap.size #[.int .i64 k1,.string x1,.int .i64 m1,.slice b1 n1' e1'] 25:=(BoxC.new w4 _ _).alloc _
          have hl5:Lies (·<((w4.alloc (.cells #[.int .i64 k1,.string x1,.int .i64 m1,.slice b1 n1' e1'] 25)).alloc (.cells #[.int .i64 0,.int .i64 pp] 28)).heap.size) ((w4.alloc (.cells #[.int .i64 k1,.string x1,.int .i64 m1,.slice b1 n1' e1'] 25)).alloc (.cells #[.int .i64 0,.int .i64 pp] 28)) (.node 1 m 0 (K.map Kid.tree)) (.agg #[.int .i64 k1,.string x1,.int .i64 m1,.slice b1 n1' e1']):=hl4.to (fun b hb=>Nat.lt_of_lt_of_le hb.2 hb5.size) (fun b hb o=>hb5.cell (p:=⟨b,o,none⟩) hb.2)
          have hGo:=oGoOver (gf:=gfOf qs) (qs.map (·.1)) m K _ ((w4.alloc (.cells #[.int .i64 k1,.string x1,.int .i64 m1,.slice b1 n1' e1'] 25)).alloc (.cells #[.int .i64 0,.int .i64 pp] 28)) (gfOf_fst qs) (fun z q hq=>(hall q (List.mem_of_find?_eq_some hq)).below hRB5.b) (fun f hf=>mayB_ok (badF_may _ _ hbad f hf)) hMp5 hHW5.2 hl5 hK3 hkok (fun k hk=>by have:=hK4 k hk;omega) (by omega) hown
          have hs4:=hb4.size
          clear hl5 hMp5 hMp3 hHW5 hHW3
          go_wp2_with (fail)
          refine hGo.mono ?_
          clear hGo
          rintro e w6 ⟨rfl,hb6⟩
          generalize (moF (faceK true m K) (qs.map (·.1)) K [] 1).getD (0,0)=r at *
          obtain ⟨qc,qp⟩:=r
          dsimp only
          have hRB3:=(hRB5.below hb6).alloc (.cells #[.int .i64 qc,.int .i64 qp] 28)
          have hQ7:=(hQ5.below hb6).alloc (.cells #[.int .i64 qc,.int .i64 qp] 28)
          have hB3:=BoxC.new w6 #[.int .i64 qc,.int .i64 qp] 28
          have hlo3:w.heap.size+1<w6.heap.size:=(hRB5.below hb6).f.lt
          have hb7:Below w4.heap.size w4 (w6.alloc (.cells #[.int .i64 qc,.int .i64 qp] 28)):=hb5.trans ((hb6.trans (((Below.refl w6.heap.size w6).alloc (jE _) _).mono hb6.size)).mono hb5.size)
          have hlo4:w.heap.size+1<W3.heap.size:=by omega
          by_cases hq0:qc=0
          · subst hq0
            have HC:Hid (R=(0,0)):=HB.out
            have t0:=hQ7.cell 0 rfl
            have t1:=hQ7.cell 1 rfl
            have t2:=hQ7.cell 2 rfl
            have t3:=hQ7.cell 3 rfl
            obtain ⟨z0,z1,z2,z3,y0,y1,zf,yf⟩:=hRB3.cells
            have zf0:=zf 0
            have zf1:=zf 1
            have zf2:=zf 2
            have zf3:=zf 3
            have yf0:=yf 0
            have yf1:=yf 1
            obtain ⟨d1,d2,d3⟩:=hRB3.done (.int .i64 k1) (.string x1) (.int .i64 m1) (.slice b1 n1' e1') (.int .i64 0) (.int .i64 0)
            clear HB hb6 hRB5 hQ5 hB3
            go_wp2
            refine bodyPost_ret (v:=.tuple #[.agg #[.int .i64 k1,.string x1,.int .i64 m1,.slice b1 n1' e1'],.agg #[.int .i64 0,.int .i64 0]]) (checkRes _ _ _ d1 d2) rfl ?_
            refine ⟨_,by rw [HC.out],fun _=>?_,fun h=>absurd (by rw [HC.out]) h,d3⟩
            rw [ht]
            refine hl4.to ?lsz ?lcl
            case lsz =>
              intro b hb
              refine ⟨by omega,?_⟩
              simp only [World.size_setCell]
              exact Nat.lt_of_lt_of_le hb.2 hb7.size
            case lcl =>
              intro b hb o
              refine (World.cell?_of_block (a:=⟨b,o,none⟩) ?_).trans (hb7.cell (p:=⟨b,o,none⟩) hb.2)
              have hb1:b≠w.heap.size:=by omega
              have hb2':b≠w.heap.size+1:=by omega
              exact (((((Below.heap_setCell _ _ _ b hb2').trans (Below.heap_setCell _ _ _ b hb2')).trans (Below.heap_setCell _ _ _ b hb1)).trans (Below.heap_setCell _ _ _ b hb1)).trans (Below.heap_setCell _ _ _ b hb1)).trans (Below.heap_setCell _ _ _ b hb1)
          · replace HB:Hid (R=(qc,qp)):=HB.out.trans (if_neg hq0)
            have hq1:(qc != 0)=true:=by simp [hq0]
            clear hb7 hb6 hRB5 hQ5 hQ7 hl4 hb5
            go_wp2
            generalize w6.alloc (.cells #[.int .i64 qc,.int .i64 qp] 28)=W3' at *
            generalize w6.heap.size=B3 at *
            have hS:(fun W=>W.cell? ⟨B3,0,none⟩=some (.int .i64 qc)∧W.cell? ⟨B3,1,none⟩=some (.int .i64 qp)) W3'.drew:=⟨hB3.cell 0 rfl,hB3.cell 1 rfl⟩
            refine wp_region_held_drew (S:=fun W=>W.cell? ⟨B3,0,none⟩=some (.int .i64 qc)∧W.cell? ⟨B3,1,none⟩=some (.int .i64 qp)) (by kernel_rfl) hS (fun hHeld=>?_)
            clear hHeld
            have hRB4:=hRB3.drew
            clear hRB3
            generalize W3'.drew=W4 at *
            refine tkH (i:=0) (v:=.agg #[.int .i64 0,.string ⟨#[]⟩,.int .i64 0,.slice none 0 0]) rfl (Or.inl ⟨by rfl,fun w hSw=>by obtain ⟨q0,q1⟩:=hSw;go_simp⟩) hS ?_
            simp only [Act.put,jA,jB,jC]
            refine tkH (i:=1) (v:=.agg #[.int .i64 qc,.int .i64 qp]) rfl (Or.inl ⟨by rfl,fun w hSw=>by obtain ⟨q0,q1⟩:=hSw;go_simp⟩) hS ?_
            simp only [Act.put,jA,jB,jC]
            obtain ⟨z0,z1,z2,z3,y0,y1,zf,yf⟩:=hRB4.cells
            have zf0:=zf 0
            have zf1:=zf 1
            have zf2:=zf 2
            have zf3:=zf 3
            have yf0:=yf 0
            have yf1:=yf 1
            refine wpAnyH_ready (rs:=[2]) (by kernel_rfl) (by simp) ?_
            refine AllReadyH.cons rfl (fun KK hK=>?_) AllReadyH.nil
            go_simp
            have hn5:BoxC ((((W4.setCell ⟨w.heap.size,0,none⟩ (.int .i64 0)).setCell ⟨w.heap.size,1,none⟩ (.string ⟨#[]⟩)).setCell ⟨w.heap.size,2,none⟩ (.int .i64 0)).setCell ⟨w.heap.size,3,none⟩ (.slice none 0 0)) w.heap.size ((((#[.int .i64 0,.string ⟨#[]⟩,.int .i64 0,.slice none 0 0]).setIfInBounds 0 (.int .i64 0)).setIfInBounds 1 (.string ⟨#[]⟩)).setIfInBounds 2 (.int .i64 0) |>.setIfInBounds 3 (.slice none 0 0)) 25:=(((hRB4.n.set 0 _).set 1 _).set 2 _).set 3 _
            have hf5:BoxC ((((W4.setCell ⟨w.heap.size,0,none⟩ (.int .i64 0)).setCell ⟨w.heap.size,1,none⟩ (.string ⟨#[]⟩)).setCell ⟨w.heap.size,2,none⟩ (.int .i64 0)).setCell ⟨w.heap.size,3,none⟩ (.slice none 0 0)) (w.heap.size+1) #[.int .i64 0,.int .i64 0] 28:=(((hRB4.f.other (by omega) _).other (by omega) _).other (by omega) _).other (by omega) _
            have hS5:(fun W=>W.cell? ⟨B3,0,none⟩=some (.int .i64 qc)∧W.cell? ⟨B3,1,none⟩=some (.int .i64 qp)) ((((W4.setCell ⟨w.heap.size,0,none⟩ (.int .i64 0)).setCell ⟨w.heap.size,1,none⟩ (.string ⟨#[]⟩)).setCell ⟨w.heap.size,2,none⟩ (.int .i64 0)).setCell ⟨w.heap.size,3,none⟩ (.slice none 0 0)):=by
              have o:∀ i,((((W4.setCell ⟨w.heap.size,0,none⟩ (.int .i64 0)).setCell ⟨w.heap.size,1,none⟩ (.string ⟨#[]⟩)).setCell ⟨w.heap.size,2,none⟩ (.int .i64 0)).setCell ⟨w.heap.size,3,none⟩ (.slice none 0 0)).cell? ⟨B3,i,none⟩=W4.cell? ⟨B3,i,none⟩:=fun i=>World.cell?_of_block (a:=⟨B3,i,none⟩) ((((Below.heap_setCell _ _ _ B3 (by show B3≠w.heap.size;omega)).trans (Below.heap_setCell _ _ _ B3 (by show B3≠w.heap.size;omega))).trans (Below.heap_setCell _ _ _ B3 (by show B3≠w.heap.size;omega))).trans (Below.heap_setCell _ _ _ B3 (by show B3≠w.heap.size;omega)))
              exact ⟨(o 0).trans hS.1,(o 1).trans hS.2⟩
            have v0:=hf5.cell 0 rfl
            have v1:=hf5.cell 1 rfl
            have vf0:=hf5.fz 0
            have vf1:=hf5.fz 1
            obtain ⟨d1,d2,d3⟩:=hRB4.done (.int .i64 0) (.string ⟨#[]⟩) (.int .i64 0) (.slice none 0 0) (.int .i64 qc) (.int .i64 qp)
            refine hK.out _ _ hS5 (fun hHeld=>?_)
            clear hK hHeld z0 z1 z2 z3 y0 y1 zf yf zf0 zf1 zf2 zf3 yf0 yf1 hn5 hf5
            generalize ((((W4.setCell ⟨w.heap.size,0,none⟩ (.int .i64 0)).setCell ⟨w.heap.size,1,none⟩ (.string ⟨#[]⟩)).setCell ⟨w.heap.size,2,none⟩ (.int .i64 0)).setCell ⟨w.heap.size,3,none⟩ (.slice none 0 0))=W5 at *
            refine wpAnyH_ready (rs:=[3]) (by kernel_rfl) (by simp) ?_
            refine AllReadyH.cons rfl (fun KK hK=>?_) AllReadyH.nil
            go_simp
            have hS6:(fun W=>W.cell? ⟨B3,0,none⟩=some (.int .i64 qc)∧W.cell? ⟨B3,1,none⟩=some (.int .i64 qp)) ((W5.setCell ⟨w.heap.size+1,0,none⟩ (.int .i64 qc)).setCell ⟨w.heap.size+1,1,none⟩ (.int .i64 qp)):=by
              have o:∀ i,((W5.setCell ⟨w.heap.size+1,0,none⟩ (.int .i64 qc)).setCell ⟨w.heap.size+1,1,none⟩ (.int .i64 qp)).cell? ⟨B3,i,none⟩=W5.cell? ⟨B3,i,none⟩:=fun i=>World.cell?_of_block (a:=⟨B3,i,none⟩) ((Below.heap_setCell _ _ _ B3 (by show B3≠w.heap.size+1;omega)).trans (Below.heap_setCell _ _ _ B3 (by show B3≠w.heap.size+1;omega)))
              exact ⟨(o 0).trans hS5.1,(o 1).trans hS5.2⟩
            refine hK.out _ _ hS6 (fun hHeld=>?_)
            clear hK hHeld v0 v1 vf0 vf1 hS6 hS5 hS
            refine wpAnyH_done (by kernel_rfl) ?_ _
            go_wp2
            refine bodyPost_ret (v:=.tuple #[.agg #[.int .i64 0,.string ⟨#[]⟩,.int .i64 0,.slice none 0 0],.agg #[.int .i64 qc,.int .i64 qp]]) (checkRes _ _ _ d1 d2) rfl ?_
            exact CkOut.mkBad HB.out hq0 rfl d3
      · have HB:Hid (R=((parse x).code,(parse x).place)):=by
          show _=_
          rw [← HR.out]
          unfold ckF
          rw [if_neg (by rw [hbad];decide),if_pos hcode]
        have hO:=oOf_bad x wr hHr.1 hcode
        clear HR hsh hall
        generalize (parse x).code=qc at *
        generalize (parse x).place=qp at *
        have hq0:¬ qc=0:=hcode
        have hq1:(qc != 0)=true:=by simp [hq0]
        go_wp2_with (go_at_call 16;refine hO.mono ?_;rintro e w2 ⟨fv2,lv2,rfl,⟨vv,pv,rfl,⟨va,vc,rfl,_⟩,⟨pa,pc,rfl,_⟩⟩,⟨la,lc,rfl,_⟩,hb2⟩;have hRB3:=((hRB.below hb2).alloc (.cells #[.string noFace.module,.slice va noFace.vars.length vc,.slice pa noFace.procs.length pc] 44)).alloc (.cells #[.int .i64 qc,.int .i64 qp] 28))
        have hB3:=BoxC.new (w2.alloc (.cells #[.string noFace.module,.slice va noFace.vars.length vc,.slice pa noFace.procs.length pc] 44)) #[.int .i64 qc,.int .i64 qp] 28
        rw [World.size_alloc] at hB3
        have hlo3:w.heap.size+1<w2.heap.size+1:=by have:=(hRB.below hb2).f.lt;omega
        generalize (w2.alloc (.cells #[.string noFace.module,.slice va noFace.vars.length vc,.slice pa noFace.procs.length pc] 44)).alloc (.cells #[.int .i64 qc,.int .i64 qp] 28)=W3 at *
        generalize w2.heap.size+1=B3 at *
        have hS:(fun W=>W.cell? ⟨B3,0,none⟩=some (.int .i64 qc)∧W.cell? ⟨B3,1,none⟩=some (.int .i64 qp)) W3.drew:=⟨hB3.cell 0 rfl,hB3.cell 1 rfl⟩
        refine wp_region_held_drew (S:=fun W=>W.cell? ⟨B3,0,none⟩=some (.int .i64 qc)∧W.cell? ⟨B3,1,none⟩=some (.int .i64 qp)) (by kernel_rfl) hS (fun hHeld=>?_)
        clear hHeld
        have hRB4:=hRB3.drew
        clear hRB3
        generalize W3.drew=W4 at *
        refine tkH (i:=0) (v:=.agg #[.int .i64 0,.string ⟨#[]⟩,.int .i64 0,.slice none 0 0]) rfl (Or.inl ⟨by rfl,fun w hSw=>by obtain ⟨q0,q1⟩:=hSw;go_simp⟩) hS ?_
        simp only [Act.put,jA,jB,jC]
        refine tkH (i:=1) (v:=.agg #[.int .i64 qc,.int .i64 qp]) rfl (Or.inl ⟨by rfl,fun w hSw=>by obtain ⟨q0,q1⟩:=hSw;go_simp⟩) hS ?_
        simp only [Act.put,jA,jB,jC]
        obtain ⟨z0,z1,z2,z3,y0,y1,zf,yf⟩:=hRB4.cells
        have zf0:=zf 0
        have zf1:=zf 1
        have zf2:=zf 2
        have zf3:=zf 3
        have yf0:=yf 0
        have yf1:=yf 1
        refine wpAnyH_ready (rs:=[2]) (by kernel_rfl) (by simp) ?_
        refine AllReadyH.cons rfl (fun KK hK=>?_) AllReadyH.nil
        go_simp
        have hn5:BoxC ((((W4.setCell ⟨w.heap.size,0,none⟩ (.int .i64 0)).setCell ⟨w.heap.size,1,none⟩ (.string ⟨#[]⟩)).setCell ⟨w.heap.size,2,none⟩ (.int .i64 0)).setCell ⟨w.heap.size,3,none⟩ (.slice none 0 0)) w.heap.size ((((#[.int .i64 0,.string ⟨#[]⟩,.int .i64 0,.slice none 0 0]).setIfInBounds 0 (.int .i64 0)).setIfInBounds 1 (.string ⟨#[]⟩)).setIfInBounds 2 (.int .i64 0) |>.setIfInBounds 3 (.slice none 0 0)) 25:=(((hRB4.n.set 0 _).set 1 _).set 2 _).set 3 _
        have hf5:BoxC ((((W4.setCell ⟨w.heap.size,0,none⟩ (.int .i64 0)).setCell ⟨w.heap.size,1,none⟩ (.string ⟨#[]⟩)).setCell ⟨w.heap.size,2,none⟩ (.int .i64 0)).setCell ⟨w.heap.size,3,none⟩ (.slice none 0 0)) (w.heap.size+1) #[.int .i64 0,.int .i64 0] 28:=(((hRB4.f.other (by omega) _).other (by omega) _).other (by omega) _).other (by omega) _
        have hS5:(fun W=>W.cell? ⟨B3,0,none⟩=some (.int .i64 qc)∧W.cell? ⟨B3,1,none⟩=some (.int .i64 qp)) ((((W4.setCell ⟨w.heap.size,0,none⟩ (.int .i64 0)).setCell ⟨w.heap.size,1,none⟩ (.string ⟨#[]⟩)).setCell ⟨w.heap.size,2,none⟩ (.int .i64 0)).setCell ⟨w.heap.size,3,none⟩ (.slice none 0 0)):=by
          have o:∀ i,((((W4.setCell ⟨w.heap.size,0,none⟩ (.int .i64 0)).setCell ⟨w.heap.size,1,none⟩ (.string ⟨#[]⟩)).setCell ⟨w.heap.size,2,none⟩ (.int .i64 0)).setCell ⟨w.heap.size,3,none⟩ (.slice none 0 0)).cell? ⟨B3,i,none⟩=W4.cell? ⟨B3,i,none⟩:=fun i=>World.cell?_of_block (a:=⟨B3,i,none⟩) ((((Below.heap_setCell _ _ _ B3 (by show B3≠w.heap.size;omega)).trans (Below.heap_setCell _ _ _ B3 (by show B3≠w.heap.size;omega))).trans (Below.heap_setCell _ _ _ B3 (by show B3≠w.heap.size;omega))).trans (Below.heap_setCell _ _ _ B3 (by show B3≠w.heap.size;omega)))
          exact ⟨(o 0).trans hS.1,(o 1).trans hS.2⟩
        have v0:=hf5.cell 0 rfl
        have v1:=hf5.cell 1 rfl
        have vf0:=hf5.fz 0
        have vf1:=hf5.fz 1
        obtain ⟨d1,d2,d3⟩:=hRB4.done (.int .i64 0) (.string ⟨#[]⟩) (.int .i64 0) (.slice none 0 0) (.int .i64 qc) (.int .i64 qp)
        refine hK.out _ _ hS5 (fun hHeld=>?_)
        clear hK hHeld z0 z1 z2 z3 y0 y1 zf yf zf0 zf1 zf2 zf3 yf0 yf1 hn5 hf5
        generalize ((((W4.setCell ⟨w.heap.size,0,none⟩ (.int .i64 0)).setCell ⟨w.heap.size,1,none⟩ (.string ⟨#[]⟩)).setCell ⟨w.heap.size,2,none⟩ (.int .i64 0)).setCell ⟨w.heap.size,3,none⟩ (.slice none 0 0))=W5 at *
        refine wpAnyH_ready (rs:=[3]) (by kernel_rfl) (by simp) ?_
        refine AllReadyH.cons rfl (fun KK hK=>?_) AllReadyH.nil
        go_simp
        have hS6:(fun W=>W.cell? ⟨B3,0,none⟩=some (.int .i64 qc)∧W.cell? ⟨B3,1,none⟩=some (.int .i64 qp)) ((W5.setCell ⟨w.heap.size+1,0,none⟩ (.int .i64 qc)).setCell ⟨w.heap.size+1,1,none⟩ (.int .i64 qp)):=by
          have o:∀ i,((W5.setCell ⟨w.heap.size+1,0,none⟩ (.int .i64 qc)).setCell ⟨w.heap.size+1,1,none⟩ (.int .i64 qp)).cell? ⟨B3,i,none⟩=W5.cell? ⟨B3,i,none⟩:=fun i=>World.cell?_of_block (a:=⟨B3,i,none⟩) ((Below.heap_setCell _ _ _ B3 (by show B3≠w.heap.size+1;omega)).trans (Below.heap_setCell _ _ _ B3 (by show B3≠w.heap.size+1;omega)))
          exact ⟨(o 0).trans hS5.1,(o 1).trans hS5.2⟩
        refine hK.out _ _ hS6 (fun hHeld=>?_)
        clear hK hHeld v0 v1 vf0 vf1 hS6 hS5 hS
        refine wpAnyH_done (by kernel_rfl) ?_ _
        go_wp2
        refine bodyPost_ret (v:=.tuple #[.agg #[.int .i64 0,.string ⟨#[]⟩,.int .i64 0,.slice none 0 0],.agg #[.int .i64 qc,.int .i64 qp]]) (checkRes _ _ _ d1 d2) rfl ?_
        exact CkOut.mkBad HB.out hq0 rfl d3
end Go.Proofs.YtfopddgjdaoidaaGreatDoor.chk
