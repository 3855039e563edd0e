/- A row of faces that is made by two appends: its cells, and where they lie. -/
import Derived.Test.YtfopddgjdaoidaaGreatDoorNR22
set_option linter.unusedVariables false
set_option linter.unusedSimpArgs false
set_option maxRecDepth 100000
namespace Go.Proofs.YtfopddgjdaoidaaGreatDoor
namespace chk
open Go.RowKit Go.Shelf Go.Maps
open syn face
open lexs (HasErr)
def HasAll (w:World):Prop:=HasBoth w∧HasMax w
theorem hasAll_below {w w':World} (h:HasAll w) (hb:Below w.heap.size w w'):HasAll w':=⟨hasBoth_below h.1 hb,hasMax_below h.2 hb⟩
def noNodeV:Value:=.agg #[.int .i64 0,.string ⟨#[]⟩,.int .i64 0,.slice none 0 0]
def CkOut (w:World) (x:ByteArray) (r:Int × Int) (e:Ending) (w':World):Prop :=
 ∃ v,e=.returned (.tuple #[v,.agg #[.int .i64 r.1,.int .i64 r.2]])∧(r.1=0→Lies (fun b=>w.heap.size≤b∧b<w'.heap.size) w' (parse x).tree v)∧(r.1≠0→v=noNodeV)∧Below w.heap.size w w'
theorem checkRes {W:World} {n0 n1 n2 n3 f0 f1 a0 a1 a2 a3:Value} (tl:List Value) (B C:Nat) (h:BoxC W B #[n0,n1,n2,n3] 25) (hf:BoxC W C #[f0,f1] 28):(results Tryz.f9 (List.toArray (a0 :: a1 :: a2 :: a3 :: .pointer (some ⟨B,0,none⟩) :: .pointer (some ⟨C,0,none⟩) :: tl))).run Tryz.prog W=.ok (.tuple #[.agg #[n0,n1,n2,n3],.agg #[f0,f1]]) W:=by
 have c24:=kc25
 have c27:=kc28
 have z0:=h.cell 0 rfl
 have z1:=h.cell 1 rfl
 have z2:=h.cell 2 rfl
 have z3:=h.cell 3 rfl
 have y0:=hf.cell 0 rfl
 have y1:=hf.cell 1 rfl
 simp [results,Tryz.f9,go_sem,z0,z1,z2,z3,y0,y1]
section
variable {w W:World} {N:Nat}
structure RB (w W:World) (N:Nat):Prop where
 n:BoxC W N #[.int .i64 0,.string ⟨#[]⟩,.int .i64 0,.slice none 0 0] 25
 f:BoxC W (N+1) #[.int .i64 0,.int .i64 0] 28
 b:Below w.heap.size w W
 hN:w.heap.size=N
theorem RB.below (h:RB w W N) {W':World} (hb:Below W.heap.size W W'):RB w W' N:=⟨h.n.below hb,h.f.below hb,h.b.trans (hb.mono h.b.size),h.hN⟩
theorem RB.alloc (h:RB w W N) (o:Obj):RB w (W.alloc o) N:=h.below (bal o)
theorem RB.grown (h:RB w W N) {W':World} {b:Nat} (hg:W.grownBy W' (some b)) (hb:N+1<b):RB w W' N:=⟨h.n.grown hg (by simp;omega),h.f.grown hg (by simp;omega),h.b.grown hg h.b.size (fun k e=>by injection e with e;have:=h.hN;omega),h.hN⟩
theorem RB.cells (h:RB w W N):W.cell? ⟨N,0,none⟩=some (.int .i64 0)∧W.cell? ⟨N,1,none⟩=some (.string ⟨#[]⟩)∧W.cell? ⟨N,2,none⟩=some (.int .i64 0)∧W.cell? ⟨N,3,none⟩=some (.slice none 0 0)∧W.cell? ⟨N+1,0,none⟩=some (.int .i64 0)∧W.cell? ⟨N+1,1,none⟩=some (.int .i64 0)∧(∀ k,W.frozen? ⟨N,k,none⟩=false)∧∀ k,W.frozen? ⟨N+1,k,none⟩=false :=
 ⟨h.n.cell 0 rfl,h.n.cell 1 rfl,h.n.cell 2 rfl,h.n.cell 3 rfl,h.f.cell 0 rfl,h.f.cell 1 rfl,h.n.fz,h.f.fz⟩
theorem RB.done (h:RB w W N) (n0 n1 n2 n3 f0 f1:Value):BoxC ((((((W.setCell ⟨N,0,none⟩ n0).setCell ⟨N,1,none⟩ n1).setCell ⟨N,2,none⟩ n2).setCell ⟨N,3,none⟩ n3).setCell ⟨N+1,0,none⟩ f0).setCell ⟨N+1,1,none⟩ f1) N #[n0,n1,n2,n3] 25∧BoxC ((((((W.setCell ⟨N,0,none⟩ n0).setCell ⟨N,1,none⟩ n1).setCell ⟨N,2,none⟩ n2).setCell ⟨N,3,none⟩ n3).setCell ⟨N+1,0,none⟩ f0).setCell ⟨N+1,1,none⟩ f1) (N+1) #[f0,f1] 28∧Below w.heap.size w ((((((W.setCell ⟨N,0,none⟩ n0).setCell ⟨N,1,none⟩ n1).setCell ⟨N,2,none⟩ n2).setCell ⟨N,3,none⟩ n3).setCell ⟨N+1,0,none⟩ f0).setCell ⟨N+1,1,none⟩ f1):=by
 have hN:w.heap.size≤N:=Nat.le_of_eq h.hN
 refine ⟨((((((h.n.set 0 n0).set 1 n1).set 2 n2).set 3 n3).other (b:=N+1) (o:=0) (by omega) f0).other (b:=N+1) (o:=1) (by omega) f1),(((((h.f.other (b:=N) (o:=0) (by omega) n0).other (b:=N) (o:=1) (by omega) n1).other (b:=N) (o:=2) (by omega) n2).other (b:=N) (o:=3) (by omega) n3).set 0 f0).set 1 f1,?_⟩
 exact (((((h.b.setCell (p:=⟨N,0,none⟩) hN _).setCell (p:=⟨N,1,none⟩) hN _).setCell (p:=⟨N,2,none⟩) hN _).setCell (p:=⟨N,3,none⟩) hN _).setCell (p:=⟨N+1,0,none⟩) (Nat.le_succ_of_le hN) _).setCell (p:=⟨N+1,1,none⟩) (Nat.le_succ_of_le hN) _
theorem RB.drew (h:RB w W N):RB w W.drew N:=⟨h.n,h.f,h.b.drew,h.hN⟩
theorem CkOut.mkBad {w W:World} {x:ByteArray} {R:Int × Int} {c p:Int} {e:Ending} (hR:R=(c,p)) (hc:c≠0) (he:e=.returned (.tuple #[noNodeV,.agg #[.int .i64 c,.int .i64 p]])) (hb:Below w.heap.size w W):CkOut w x R e W:=by
 subst hR
 exact ⟨_,he,fun h=>absurd h hc,fun _=>rfl,hb⟩
end
set_option maxHeartbeats 8000000 in
theorem oCheck (x:ByteArray) (qs:List FV) (fv:Value) (m:ByteArray) (K:List Kid) (w:World) (hH:HasAll w) (hF:FacesIn w fv qs) (hsh:(parse x).code=0→(parse x).tree=.node 1 m 0 (K.map Kid.tree)∧m.size≤16∧(∀ k∈K,k.good∧k.named∧deepK k)∧cntL (K.map Kid.tree)≤900∧K.length≤900∧∀ k∈K,k.kids.length≤900) :
  Calls Tryz.prog 9 #[.string x,fv] w (CkOut w x (ckF x (qs.map (·.1)) m K)):=by
 have c24:=kc25
 have c27:=kc28
 have c3:Tryz.prog.cellsOf 44=3:=cell3
 have hmm0:=@run_makeMap Tryz.prog
 obtain ⟨R,HR⟩:∃ R,Hid (ckF x (qs.map (·.1)) m K=R):=⟨_,rfl⟩
 rw [HR.out]
 obtain ⟨a,c,rfl,hql,hqk⟩:=hF
 have hall:∀ p∈qs,FaceIn w (fvV p) p.1:=fun p hp=>by
  obtain ⟨i,hi,rfl⟩:=List.mem_iff_getElem.1 hp
  obtain ⟨g,o,_,hat⟩:=hqk (fun e=>by rw [e] at hi;cases hi)
  exact (hat i hi).2.2.2.1
 have hRB:RB w (((w.alloc (.cells #[.int .i64 0,.string ⟨#[]⟩,.int .i64 0,.slice none 0 0] 25)).alloc (.cells #[.int .i64 0,.int .i64 0] 28)).alloc (.map #[] 0)) w.heap.size:=by
  refine ⟨((BoxC.new w _ _).alloc _).alloc _,?_,((bal _).alloc (by simp) _).alloc (by simp;omega) _,rfl⟩
  have:=(BoxC.new (w.alloc (.cells #[.int .i64 0,.string ⟨#[]⟩,.int .i64 0,.slice none 0 0] 25)) #[.int .i64 0,.int .i64 0] 28).alloc (.map #[] 0)
  rw [World.size_alloc] at this
  exact this
 have hMp:MapF (((w.alloc (.cells #[.int .i64 0,.string ⟨#[]⟩,.int .i64 0,.slice none 0 0] 25)).alloc (.cells #[.int .i64 0,.int .i64 0] 28)).alloc (.map #[] 0)) (w.heap.size+1+1) 0 (fun z=>fvO (gfOf [] z)):=by
  have:=MapF.made ((w.alloc (.cells #[.int .i64 0,.string ⟨#[]⟩,.int .i64 0,.slice none 0 0] 25)).alloc (.cells #[.int .i64 0,.int .i64 0] 28))
  rw [World.size_alloc,World.size_alloc] at this
  exact this
 go_enter Tryz.func9,Tryz.ntmps9
 go_wp2
 generalize (((w.alloc (.cells #[.int .i64 0,.string ⟨#[]⟩,.int .i64 0,.slice none 0 0] 25)).alloc (.cells #[.int .i64 0,.int .i64 0] 28)).alloc (.map #[] 0))=W1 at *
 go_loopw [20] (fun t wr=>∃ j:Nat,j≤qs.length∧t=.int .i64 j∧RB w wr w.heap.size∧MapF wr (w.heap.size+1+1) j (fun z=>fvO (gfOf (qs.take j) z))∧Hid (badF [] (qs.map (·.1))=badF ((qs.map (·.1)).take j) ((qs.map (·.1)).drop j))) (fun t _=>qs.length - (intOf t).toNat)
 case atStart=>exact ⟨0,Nat.zero_le _,rfl,hRB,hMp,by show _=_;simp⟩
 case round =>
  clear hRB hMp
  obtain ⟨j,hj,rfl,hRB,hMp,HBd⟩:=hrel
  by_cases hlt:j<qs.length
  ·obtain ⟨g,o,rfl,hat⟩:=hqk (by intro e;rw [e] at hlt;simp at hlt)
   obtain ⟨k0,k1,k2,hfi,hms⟩:=hat j hlt
   have k0:=keep k0 hRB.b
   have k1:=keep k1 hRB.b
   have k2:=keep k2 hRB.b
   have hfi:=hfi.below hRB.b
   have hstep:=badF_step (qs.map (·.1)) j (by simpa using hlt)
   rw [List.getElem_map] at hstep
   have hgn:=gfOf_none (qs.take j) qs[j].1.module
   rw [List.map_take] at hgn
   have hgs:=gfOf_snoc (qs.take j) qs[j]
   rw [List.map_take] at hgs
   have htk:qs.take (j+1)=qs.take j++[qs[j]]:=List.take_succ_eq_append_getElem hlt
   rw [← htk] at hgs
   have HS2:Hid _:=HBd.out.trans hstep
   clear hqk hat hstep htk HBd
   generalize hqq:qs[j]=q at *
   clear hqq
   obtain ⟨fm,a1,n1,d1,a2,n2,d2,hsh3⟩:=face_shape hfi
   obtain ⟨qf,qv,qp⟩:=q
   unfold fvV at hsh3
   dsimp only at *
   injection hsh3 with hsh3
   simp only [Array.mk.injEq,List.cons.injEq,and_true] at hsh3
   obtain ⟨_,rfl,rfl⟩:=hsh3
   have hRB1:=hRB.alloc (.cells #[.string qf.module,.slice a1 n1 d1,.slice a2 n2 d2] 44)
   have hMp1:MapF (wr.alloc (.cells #[.string qf.module,.slice a1 n1 d1,.slice a2 n2 d2] 44)) (w.heap.size+1+1) j (fun z=>fvO (gfOf (qs.take j) z)):=hMp.below (bal _)
   have hgb:=hMp.lt
   cases hgf:gfOf (qs.take j) qf.module with
   | some pp =>
    have hpm:pp∈qs:=List.mem_of_mem_take (List.mem_of_find?_eq_some hgf)
    obtain ⟨pm,b1,m1,e1',b2,m2,e2',hpv⟩:=face_shape (hall pp hpm)
    have hRB2:=hRB1.alloc (.cells #[.string pm,.slice b1 m1 e1',.slice b2 m2 e2'] 44)
    have HB:Hid (R=(2,0)):=by
     show _=_
     rw [← HR.out]
     unfold ckF
     rw [if_pos]
     rw [HS2.out]
     rw [hgf] at hgn
     rw [← hgn]
     rfl
    clear HS2 HR hgs hgn hsh hall
    obtain ⟨z0,z1,z2,z3,y0,y1,zf,yf⟩:=hRB2.cells;have zf0:=zf 0;have zf1:=zf 1;have zf2:=zf 2;have zf3:=zf 3;have yf0:=yf 0;have yf1:=yf 1
    go_wp2_with first
     | (at_lookup;refine wpList_look (f:=fun z=>fvO (gfOf (qs.take j) z)) rfl _ _ rfl rfl hMp1 qf.module hms rfl ?_;rw [hgf,show fvO (some pp)=some (fvV pp) from rfl,hpv])
     | go_in
    obtain ⟨e1,e2,e3⟩:=hRB2.done (.int .i64 0) (.string ⟨#[]⟩) (.int .i64 0) (.slice none 0 0) (.int .i64 2) (.int .i64 0)
    refine bodyPost_ret (v:=.tuple #[.agg #[.int .i64 0,.string ⟨#[]⟩,.int .i64 0,.slice none 0 0],.agg #[.int .i64 2,.int .i64 0]]) (checkRes _ _ _ e1 e2) rfl ?_
    exact CkOut.mkBad HB.out (by decide) rfl e3
   | none =>
    have hRB2:=hRB1.alloc (.cells #[.string ⟨#[]⟩,.slice none 0 0,.slice none 0 0] 44)
    have hB2:Below wr.heap.size wr ((wr.alloc (.cells #[.string qf.module,.slice a1 n1 d1,.slice a2 n2 d2] 44)).alloc (.cells #[.string ⟨#[]⟩,.slice none 0 0,.slice none 0 0] 44)):=(bal _).alloc (by simp) _
    have hfi2:=hfi.below hB2
    have hHW:HasErr ((wr.alloc (.cells #[.string qf.module,.slice a1 n1 d1,.slice a2 n2 d2] 44)).alloc (.cells #[.string ⟨#[]⟩,.slice none 0 0,.slice none 0 0] 44)):=(hasAll_below hH hRB2.b).1.1
    have hQ2:=(BoxC.new wr #[.string qf.module,.slice a1 n1 d1,.slice a2 n2 d2] 44).alloc (.cells #[.string ⟨#[]⟩,.slice none 0 0,.slice none 0 0] 44)
    have r0:=hQ2.cell 0 rfl
    have r1:=hQ2.cell 1 rfl
    have r2:=hQ2.cell 2 rfl
    have hMp2:=hMp.below hB2
    have hMay:=oMay qf _ _ hHW hfi2
    unfold fvV at hMay
    dsimp only at hMay
    have hanyf:(List.take j (qs.map (·.1))).any (fun p=>eqS p.module qf.module)=false:=by
     rw [hgf] at hgn
     exact hgn.symm
    cases hm:mayB qf with
    | false =>
     have HB:Hid (R=(2,0)):=by
      show _=_
      rw [← HR.out]
      unfold ckF
      rw [if_pos]
      rw [HS2.out,hm]
      simp
     clear HS2 HR hgs hgn hsh hall hanyf
     go_wp2_with first
      | (at_lookup;refine wpList_look (f:=fun z=>fvO (gfOf (qs.take j) z)) rfl _ _ rfl rfl hMp1 qf.module hms rfl ?_;rw [hgf,show fvO none=(none:Option Value) from rfl];unfold noFaceV)
      | (go_at_call 18;refine hMay.mono ?_;rintro e w4 ⟨rfl,hb4⟩;rw [hm];have hRB4:=hRB2.below hb4;obtain ⟨z0,z1,z2,z3,y0,y1,zf,yf⟩:=hRB4.cells;have zf0:=zf 0;have zf1:=zf 1;have zf2:=zf 2;have zf3:=zf 3;have yf0:=yf 0;have yf1:=yf 1)
      | go_in
     obtain ⟨e1,e2,e3⟩:=hRB4.done (.int .i64 0) (.string ⟨#[]⟩) (.int .i64 0) (.slice none 0 0) (.int .i64 2) (.int .i64 0)
     refine bodyPost_ret (v:=.tuple #[.agg #[.int .i64 0,.string ⟨#[]⟩,.int .i64 0,.slice none 0 0],.agg #[.int .i64 2,.int .i64 0]]) (checkRes _ _ _ e1 e2) rfl ?_
     exact CkOut.mkBad HB.out (by decide) rfl e3
    | true =>
     have HS3:Hid (badF [] (qs.map (·.1))=badF ((qs.map (·.1)).take (j+1)) ((qs.map (·.1)).drop (j+1))):=by
      show _=_
      rw [HS2.out,hm,hanyf]
      simp
     have hgs2:=hgs hanyf
     clear HS2 hgs hgn hanyf
     go_wp2_with first
      | (at_lookup;refine wpList_look (f:=fun z=>fvO (gfOf (qs.take j) z)) rfl _ _ rfl rfl hMp1 qf.module hms rfl ?_;rw [hgf,show fvO none=(none:Option Value) from rfl];unfold noFaceV)
      | (go_at_call 18;refine hMay.mono ?_;rintro e w4 ⟨rfl,hb4⟩;rw [hm];have hRB4:=hRB2.below hb4;have hMp4:=hMp2.below hb4;have hQ4:=hQ2.below hb4;have r0:=hQ4.cell 0 rfl;have r1:=hQ4.cell 1 rfl;have r2:=hQ4.cell 2 rfl)
      | (at_mapUpdate;refine wpList_put rfl _ _ _ rfl rfl hMp4 (by unfold maxLen;omega) qf.module hms rfl (.agg #[.string qf.module,.slice a1 n1 d1,.slice a2 n2 d2]) rfl ?_;intro w5 hM5 hg5)
      | go_in
     have hRB5:=hRB4.grown hg5 (by omega)
     rw [show (fun z=>if eqS z qf.module then some (Value.agg #[.string qf.module,.slice a1 n1 d1,.slice a2 n2 d2]) else fvO (gfOf (qs.take j) z))=fun z=>fvO (gfOf (qs.take (j+1)) z) from hgs2] at hM5
     exact ⟨⟨j+1,by omega,by simp,hRB5,hM5,HS3⟩,by simp [intOf];omega⟩
  ·skip
   obtain rfl:j=qs.length:=by omega
   rw [List.take_of_length_le (jE _)] at hMp
   have hbad:badF [] (qs.map (·.1))=false:=by
    rw [HBd.out,List.drop_eq_nil_of_le (by simp)]
    rfl
   clear HBd hqk
   have hHr:=hasAll_below hH hRB.b
   by_cases hcode:(parse x).code=0
   ·obtain ⟨ht,hm16,hK1,hK2,hK3,hK4⟩:=hsh hcode
    have hO:=oOf_ok x m K wr hHr.1 hcode ht hm16 (fun k hk=>(hK1 k hk).1) (by omega) (fun k hk=>by have:=hK4 k hk;omega)
    unfold DeclOut at hO
    rw [lookD_is] at hO
    cases hlk:lookK m K [] [] 1 with
    | some q =>
     have hq0:¬ q.1=0:=by have:=lookK_code m K _ _ _ q hlk;omega
     have HB:Hid (R=q):=by
      show _=_
      rw [← HR.out]
      unfold ckF
      rw [if_neg (by rw [hbad];decide),if_neg (by simp [hcode]),hlk]
     rw [hlk] at hO
     obtain ⟨qc,qp⟩:=q
     dsimp only at hO hq0
     have hq1:(qc != 0)=true:=by simp [hq0]
     clear HR hlk hsh hall ht hK1 hK2 hK3 hK4
     go_wp2_with (go_at_call 16;refine hO.mono ?_;rintro e w2 ⟨rfl,hb2⟩;have hRB3:=((hRB.below hb2).alloc (.cells #[.string ⟨#[]⟩,.slice none 0 0,.slice none 0 0] 44)).alloc (.cells #[.int .i64 qc,.int .i64 qp] 28))
     have hB3:=BoxC.new (w2.alloc (.cells #[.string ⟨#[]⟩,.slice none 0 0,.slice none 0 0] 44)) #[.int .i64 qc,.int .i64 qp] 28
     rw [World.size_alloc] at hB3
     have hlo3:w.heap.size+1<w2.heap.size+1:=by have:=(hRB.below hb2).f.lt;omega
     generalize (w2.alloc (.cells #[.string ⟨#[]⟩,.slice none 0 0,.slice none 0 0] 44)).alloc (.cells #[.int .i64 qc,.int .i64 qp] 28)=W3 at *
     generalize w2.heap.size+1=B3 at *
     have hS:(fun W=>W.cell? ⟨B3,0,none⟩=some (.int .i64 qc)∧W.cell? ⟨B3,1,none⟩=some (.int .i64 qp)) W3.drew:=⟨hB3.cell 0 rfl,hB3.cell 1 rfl⟩
     refine wp_region_held_drew (S:=fun W=>W.cell? ⟨B3,0,none⟩=some (.int .i64 qc)∧W.cell? ⟨B3,1,none⟩=some (.int .i64 qp)) (by kernel_rfl) hS (fun hHeld=>?_)
     clear hHeld
     have hRB4:=hRB3.drew
     clear hRB3
     generalize W3.drew=W4 at *
     refine tkP 0 (.agg #[.int .i64 0,.string ⟨#[]⟩,.int .i64 0,.slice none 0 0]) hS ?_
     simp only [Act.put,jA,jB,jC]
     refine tkP 1 (.agg #[.int .i64 qc,.int .i64 qp]) hS ?_
     simp only [Act.put,jA,jB,jC]
     obtain ⟨z0,z1,z2,z3,y0,y1,zf,yf⟩:=hRB4.cells
     have zf0:=zf 0
     have zf1:=zf 1
     have zf2:=zf 2
     have zf3:=zf 3
     have yf0:=yf 0
     have yf1:=yf 1
     refine oneH 2 fun KK hK=>?_
     go_simp
     have hn5:BoxC ((((W4.setCell ⟨w.heap.size,0,none⟩ (.int .i64 0)).setCell ⟨w.heap.size,1,none⟩ (.string ⟨#[]⟩)).setCell ⟨w.heap.size,2,none⟩ (.int .i64 0)).setCell ⟨w.heap.size,3,none⟩ (.slice none 0 0)) w.heap.size ((((#[.int .i64 0,.string ⟨#[]⟩,.int .i64 0,.slice none 0 0]).setIfInBounds 0 (.int .i64 0)).setIfInBounds 1 (.string ⟨#[]⟩)).setIfInBounds 2 (.int .i64 0) |>.setIfInBounds 3 (.slice none 0 0)) 25:=(((hRB4.n.set 0 _).set 1 _).set 2 _).set 3 _
     have hf5:BoxC ((((W4.setCell ⟨w.heap.size,0,none⟩ (.int .i64 0)).setCell ⟨w.heap.size,1,none⟩ (.string ⟨#[]⟩)).setCell ⟨w.heap.size,2,none⟩ (.int .i64 0)).setCell ⟨w.heap.size,3,none⟩ (.slice none 0 0)) (w.heap.size+1) #[.int .i64 0,.int .i64 0] 28:=(((hRB4.f.other (by omega) _).other (by omega) _).other (by omega) _).other (by omega) _
     have hS5:(fun W=>W.cell? ⟨B3,0,none⟩=some (.int .i64 qc)∧W.cell? ⟨B3,1,none⟩=some (.int .i64 qp)) ((((W4.setCell ⟨w.heap.size,0,none⟩ (.int .i64 0)).setCell ⟨w.heap.size,1,none⟩ (.string ⟨#[]⟩)).setCell ⟨w.heap.size,2,none⟩ (.int .i64 0)).setCell ⟨w.heap.size,3,none⟩ (.slice none 0 0)):=by
      have o:∀ i,((((W4.setCell ⟨w.heap.size,0,none⟩ (.int .i64 0)).setCell ⟨w.heap.size,1,none⟩ (.string ⟨#[]⟩)).setCell ⟨w.heap.size,2,none⟩ (.int .i64 0)).setCell ⟨w.heap.size,3,none⟩ (.slice none 0 0)).cell? ⟨B3,i,none⟩=W4.cell? ⟨B3,i,none⟩:=fun i=>World.cell?_of_block (a:=⟨B3,i,none⟩) ((((Below.heap_setCell _ _ _ B3 (by show B3≠w.heap.size;omega)).trans (Below.heap_setCell _ _ _ B3 (by show B3≠w.heap.size;omega))).trans (Below.heap_setCell _ _ _ B3 (by show B3≠w.heap.size;omega))).trans (Below.heap_setCell _ _ _ B3 (by show B3≠w.heap.size;omega)))
      exact ⟨(o 0).trans hS.1,(o 1).trans hS.2⟩
     have v0:=hf5.cell 0 rfl
     have v1:=hf5.cell 1 rfl
     have vf0:=hf5.fz 0
     have vf1:=hf5.fz 1
     obtain ⟨d1,d2,d3⟩:=hRB4.done (.int .i64 0) (.string ⟨#[]⟩) (.int .i64 0) (.slice none 0 0) (.int .i64 qc) (.int .i64 qp)
     refine hK.out _ _ hS5 (fun hHeld=>?_)
     clear hK hHeld z0 z1 z2 z3 y0 y1 zf yf zf0 zf1 zf2 zf3 yf0 yf1 hn5 hf5
     generalize ((((W4.setCell ⟨w.heap.size,0,none⟩ (.int .i64 0)).setCell ⟨w.heap.size,1,none⟩ (.string ⟨#[]⟩)).setCell ⟨w.heap.size,2,none⟩ (.int .i64 0)).setCell ⟨w.heap.size,3,none⟩ (.slice none 0 0))=W5 at *
     refine oneH 3 fun KK hK=>?_
     go_simp
     have hS6:(fun W=>W.cell? ⟨B3,0,none⟩=some (.int .i64 qc)∧W.cell? ⟨B3,1,none⟩=some (.int .i64 qp)) ((W5.setCell ⟨w.heap.size+1,0,none⟩ (.int .i64 qc)).setCell ⟨w.heap.size+1,1,none⟩ (.int .i64 qp)):=by
      have o:∀ i,((W5.setCell ⟨w.heap.size+1,0,none⟩ (.int .i64 qc)).setCell ⟨w.heap.size+1,1,none⟩ (.int .i64 qp)).cell? ⟨B3,i,none⟩=W5.cell? ⟨B3,i,none⟩:=fun i=>World.cell?_of_block (a:=⟨B3,i,none⟩) ((Below.heap_setCell _ _ _ B3 (by show B3≠w.heap.size+1;omega)).trans (Below.heap_setCell _ _ _ B3 (by show B3≠w.heap.size+1;omega)))
      exact ⟨(o 0).trans hS5.1,(o 1).trans hS5.2⟩
     refine hK.out _ _ hS6 (fun hHeld=>?_)
     clear hK hHeld v0 v1 vf0 vf1 hS6 hS5 hS
     refine wpAnyH_done (by kernel_rfl) ?_ _
     go_wp2
     refine bodyPost_ret (v:=.tuple #[.agg #[.int .i64 0,.string ⟨#[]⟩,.int .i64 0,.slice none 0 0],.agg #[.int .i64 qc,.int .i64 qp]]) (checkRes _ _ _ d1 d2) rfl ?_
     exact CkOut.mkBad HB.out hq0 rfl d3
    | none =>
     rw [hlk] at hO
     have HB:Hid (R=nz ((moF (faceK true m K) (qs.map (·.1)) K [] 1).getD (0,0))):=by
      show _=_
      rw [← HR.out]
      unfold ckF
      rw [if_neg (by rw [hbad];decide),if_neg (by simp [hcode]),hlk]
     have hkok:=kids_ok hlk hK1
     have hown:=own_ok hlk
     clear HR hlk hsh hK1
     have hPa:=fun W (hW:HasBoth W)=>oparse x W hW
     unfold PsOut at hPa
     rw [hcode,ht] at hPa
     generalize (parse x).place=pp at *
     go_wp2_with (go_at_call 16;refine hO.mono ?_;rintro e w2 ⟨X2,B2,vv,pv,iv,P2,_,rfl,hFR2,_,_,hiv,hb2⟩;obtain ⟨va,vc,rfl⟩:=hFR2.shapeV;obtain ⟨pa,pc,rfl⟩:=hFR2.shapeP;obtain ⟨ia,ic,rfl,_,_⟩:=lexs.own_shape hiv;clear hFR2 hiv)
     have hb3:Below wr.heap.size wr ((w2.alloc (.cells #[.string m,.slice va (varsK false K).length vc,.slice pa P2.length pc] 44)).alloc (.cells #[.int .i64 0,.int .i64 0] 28)):=hb2.trans ((((Below.refl w2.heap.size w2).alloc (jE _) _).alloc (by simp) _).mono hb2.size)
     have hRB3:=hRB.below hb3
     have hMp3:=hMp.below hb3
     have hHW3:=hasAll_below hH hRB3.b
     have hN3:=hRB3.f.lt
     refine (hPa ((w2.alloc (.cells #[.string m,.slice va (varsK false K).length vc,.slice pa P2.length pc] 44)).alloc (.cells #[.int .i64 0,.int .i64 0] 28)) hHW3.1).mono ?_
     clear hPa hO
     generalize ((w2.alloc (.cells #[.string m,.slice va (varsK false K).length vc,.slice pa P2.length pc] 44)).alloc (.cells #[.int .i64 0,.int .i64 0] 28))=W3 at *
     rintro e w4 ⟨v4,rfl,hl4,hb4⟩
     obtain ⟨k1,x1,m1,b1,n1',e1',rfl⟩:=lies_shape hl4
     have hb5:Below w4.heap.size w4 ((w4.alloc (.cells #[.int .i64 k1,.string x1,.int .i64 m1,.slice b1 n1' e1'] 25)).alloc (.cells #[.int .i64 0,.int .i64 pp] 28)):=((Below.refl w4.heap.size w4).alloc (jE _) _).alloc (by simp) _
     have hRB5:=(hRB3.below hb4).below hb5
     have hMp5:=(hMp3.below hb4).below hb5
     have hHW5:=hasAll_below hH hRB5.b
     have hQ5:BoxC ((w4.alloc (.cells #[.int .i64 k1,.string x1,.int .i64 m1,.slice b1 n1' e1'] 25)).alloc (.cells #[.int .i64 0,.int .i64 pp] 28)) w4.heap.size #[.int .i64 k1,.string x1,.int .i64 m1,.slice b1 n1' e1'] 25:=(BoxC.new w4 _ _).alloc _
     have hl5:Lies (·<((w4.alloc (.cells #[.int .i64 k1,.string x1,.int .i64 m1,.slice b1 n1' e1'] 25)).alloc (.cells #[.int .i64 0,.int .i64 pp] 28)).heap.size) ((w4.alloc (.cells #[.int .i64 k1,.string x1,.int .i64 m1,.slice b1 n1' e1'] 25)).alloc (.cells #[.int .i64 0,.int .i64 pp] 28)) (.node 1 m 0 (K.map Kid.tree)) (.agg #[.int .i64 k1,.string x1,.int .i64 m1,.slice b1 n1' e1']):=hl4.to (fun b hb=>Nat.lt_of_lt_of_le hb.2 hb5.size) (fun b hb o=>hb5.cell (p:=⟨b,o,none⟩) hb.2)
     have hGo:=oGoOver (gf:=gfOf qs) (qs.map (·.1)) m K _ ((w4.alloc (.cells #[.int .i64 k1,.string x1,.int .i64 m1,.slice b1 n1' e1'] 25)).alloc (.cells #[.int .i64 0,.int .i64 pp] 28)) (gfOf_fst qs) (fun z q hq=>(hall q (List.mem_of_find?_eq_some hq)).below hRB5.b) (fun f hf=>mayB_ok (badF_may _ _ hbad f hf)) hMp5 hHW5.2 hl5 hK3 hkok (fun k hk=>by have:=hK4 k hk;omega) (by omega) hown
     have hs4:=hb4.size
     clear hl5 hMp5 hMp3 hHW5 hHW3
     go_wp2_with (fail)
     refine hGo.mono ?_
     clear hGo
     rintro e w6 ⟨rfl,hb6⟩
     generalize (moF (faceK true m K) (qs.map (·.1)) K [] 1).getD (0,0)=r at *
     obtain ⟨qc,qp⟩:=r
     dsimp only
     have hRB3:=(hRB5.below hb6).alloc (.cells #[.int .i64 qc,.int .i64 qp] 28)
     have hQ7:=(hQ5.below hb6).alloc (.cells #[.int .i64 qc,.int .i64 qp] 28)
     have hB3:=BoxC.new w6 #[.int .i64 qc,.int .i64 qp] 28
     have hlo3:w.heap.size+1<w6.heap.size:=(hRB5.below hb6).f.lt
     have hb7:Below w4.heap.size w4 (w6.alloc (.cells #[.int .i64 qc,.int .i64 qp] 28)):=hb5.trans ((hb6.trans (((Below.refl w6.heap.size w6).alloc (jE _) _).mono hb6.size)).mono hb5.size)
     have hlo4:w.heap.size+1<W3.heap.size:=by omega
     by_cases hq0:qc=0
     ·subst hq0
      have HC:Hid (R=(0,0)):=HB.out
      have t0:=hQ7.cell 0 rfl
      have t1:=hQ7.cell 1 rfl
      have t2:=hQ7.cell 2 rfl
      have t3:=hQ7.cell 3 rfl
      obtain ⟨z0,z1,z2,z3,y0,y1,zf,yf⟩:=hRB3.cells
      have zf0:=zf 0
      have zf1:=zf 1
      have zf2:=zf 2
      have zf3:=zf 3
      have yf0:=yf 0
      have yf1:=yf 1
      obtain ⟨d1,d2,d3⟩:=hRB3.done (.int .i64 k1) (.string x1) (.int .i64 m1) (.slice b1 n1' e1') (.int .i64 0) (.int .i64 0)
      clear HB hb6 hRB5 hQ5 hB3
      go_wp2
      refine bodyPost_ret (v:=.tuple #[.agg #[.int .i64 k1,.string x1,.int .i64 m1,.slice b1 n1' e1'],.agg #[.int .i64 0,.int .i64 0]]) (checkRes _ _ _ d1 d2) rfl ?_
      refine ⟨_,by rw [HC.out],fun _=>?_,fun h=>absurd (by rw [HC.out]) h,d3⟩
      rw [ht]
      refine hl4.to ?lsz ?lcl
      case lsz =>
       intro b hb
       refine ⟨by omega,?_⟩
       simp only [World.size_setCell]
       exact Nat.lt_of_lt_of_le hb.2 hb7.size
      case lcl =>
       intro b hb o
       refine (World.cell?_of_block (a:=⟨b,o,none⟩) ?_).trans (hb7.cell (p:=⟨b,o,none⟩) hb.2)
       have hb1:b≠w.heap.size:=by omega
       have hb2':b≠w.heap.size+1:=by omega
       exact (((((Below.heap_setCell _ _ _ b hb2').trans (Below.heap_setCell _ _ _ b hb2')).trans (Below.heap_setCell _ _ _ b hb1)).trans (Below.heap_setCell _ _ _ b hb1)).trans (Below.heap_setCell _ _ _ b hb1)).trans (Below.heap_setCell _ _ _ b hb1)
     ·replace HB:Hid (R=(qc,qp)):=HB.out.trans (if_neg hq0)
      have hq1:(qc != 0)=true:=by simp [hq0]
      clear hb7 hb6 hRB5 hQ5 hQ7 hl4 hb5
      go_wp2
      generalize w6.alloc (.cells #[.int .i64 qc,.int .i64 qp] 28)=W3' at *
      generalize w6.heap.size=B3 at *
      have hS:(fun W=>W.cell? ⟨B3,0,none⟩=some (.int .i64 qc)∧W.cell? ⟨B3,1,none⟩=some (.int .i64 qp)) W3'.drew:=⟨hB3.cell 0 rfl,hB3.cell 1 rfl⟩
      refine wp_region_held_drew (S:=fun W=>W.cell? ⟨B3,0,none⟩=some (.int .i64 qc)∧W.cell? ⟨B3,1,none⟩=some (.int .i64 qp)) (by kernel_rfl) hS (fun hHeld=>?_)
      clear hHeld
      have hRB4:=hRB3.drew
      clear hRB3
      generalize W3'.drew=W4 at *
      refine tkP 0 (.agg #[.int .i64 0,.string ⟨#[]⟩,.int .i64 0,.slice none 0 0]) hS ?_
      simp only [Act.put,jA,jB,jC]
      refine tkP 1 (.agg #[.int .i64 qc,.int .i64 qp]) hS ?_
      simp only [Act.put,jA,jB,jC]
      obtain ⟨z0,z1,z2,z3,y0,y1,zf,yf⟩:=hRB4.cells
      have zf0:=zf 0
      have zf1:=zf 1
      have zf2:=zf 2
      have zf3:=zf 3
      have yf0:=yf 0
      have yf1:=yf 1
      refine oneH 2 fun KK hK=>?_
      go_simp
      have hn5:BoxC ((((W4.setCell ⟨w.heap.size,0,none⟩ (.int .i64 0)).setCell ⟨w.heap.size,1,none⟩ (.string ⟨#[]⟩)).setCell ⟨w.heap.size,2,none⟩ (.int .i64 0)).setCell ⟨w.heap.size,3,none⟩ (.slice none 0 0)) w.heap.size ((((#[.int .i64 0,.string ⟨#[]⟩,.int .i64 0,.slice none 0 0]).setIfInBounds 0 (.int .i64 0)).setIfInBounds 1 (.string ⟨#[]⟩)).setIfInBounds 2 (.int .i64 0) |>.setIfInBounds 3 (.slice none 0 0)) 25:=(((hRB4.n.set 0 _).set 1 _).set 2 _).set 3 _
      have hf5:BoxC ((((W4.setCell ⟨w.heap.size,0,none⟩ (.int .i64 0)).setCell ⟨w.heap.size,1,none⟩ (.string ⟨#[]⟩)).setCell ⟨w.heap.size,2,none⟩ (.int .i64 0)).setCell ⟨w.heap.size,3,none⟩ (.slice none 0 0)) (w.heap.size+1) #[.int .i64 0,.int .i64 0] 28:=(((hRB4.f.other (by omega) _).other (by omega) _).other (by omega) _).other (by omega) _
      have hS5:(fun W=>W.cell? ⟨B3,0,none⟩=some (.int .i64 qc)∧W.cell? ⟨B3,1,none⟩=some (.int .i64 qp)) ((((W4.setCell ⟨w.heap.size,0,none⟩ (.int .i64 0)).setCell ⟨w.heap.size,1,none⟩ (.string ⟨#[]⟩)).setCell ⟨w.heap.size,2,none⟩ (.int .i64 0)).setCell ⟨w.heap.size,3,none⟩ (.slice none 0 0)):=by
       have o:∀ i,((((W4.setCell ⟨w.heap.size,0,none⟩ (.int .i64 0)).setCell ⟨w.heap.size,1,none⟩ (.string ⟨#[]⟩)).setCell ⟨w.heap.size,2,none⟩ (.int .i64 0)).setCell ⟨w.heap.size,3,none⟩ (.slice none 0 0)).cell? ⟨B3,i,none⟩=W4.cell? ⟨B3,i,none⟩:=fun i=>World.cell?_of_block (a:=⟨B3,i,none⟩) ((((Below.heap_setCell _ _ _ B3 (by show B3≠w.heap.size;omega)).trans (Below.heap_setCell _ _ _ B3 (by show B3≠w.heap.size;omega))).trans (Below.heap_setCell _ _ _ B3 (by show B3≠w.heap.size;omega))).trans (Below.heap_setCell _ _ _ B3 (by show B3≠w.heap.size;omega)))
       exact ⟨(o 0).trans hS.1,(o 1).trans hS.2⟩
      have v0:=hf5.cell 0 rfl
      have v1:=hf5.cell 1 rfl
      have vf0:=hf5.fz 0
      have vf1:=hf5.fz 1
      obtain ⟨d1,d2,d3⟩:=hRB4.done (.int .i64 0) (.string ⟨#[]⟩) (.int .i64 0) (.slice none 0 0) (.int .i64 qc) (.int .i64 qp)
      refine hK.out _ _ hS5 (fun hHeld=>?_)
      clear hK hHeld z0 z1 z2 z3 y0 y1 zf yf zf0 zf1 zf2 zf3 yf0 yf1 hn5 hf5
      generalize ((((W4.setCell ⟨w.heap.size,0,none⟩ (.int .i64 0)).setCell ⟨w.heap.size,1,none⟩ (.string ⟨#[]⟩)).setCell ⟨w.heap.size,2,none⟩ (.int .i64 0)).setCell ⟨w.heap.size,3,none⟩ (.slice none 0 0))=W5 at *
      refine oneH 3 fun KK hK=>?_
      go_simp
      have hS6:(fun W=>W.cell? ⟨B3,0,none⟩=some (.int .i64 qc)∧W.cell? ⟨B3,1,none⟩=some (.int .i64 qp)) ((W5.setCell ⟨w.heap.size+1,0,none⟩ (.int .i64 qc)).setCell ⟨w.heap.size+1,1,none⟩ (.int .i64 qp)):=by
       have o:∀ i,((W5.setCell ⟨w.heap.size+1,0,none⟩ (.int .i64 qc)).setCell ⟨w.heap.size+1,1,none⟩ (.int .i64 qp)).cell? ⟨B3,i,none⟩=W5.cell? ⟨B3,i,none⟩:=fun i=>World.cell?_of_block (a:=⟨B3,i,none⟩) ((Below.heap_setCell _ _ _ B3 (by show B3≠w.heap.size+1;omega)).trans (Below.heap_setCell _ _ _ B3 (by show B3≠w.heap.size+1;omega)))
       exact ⟨(o 0).trans hS5.1,(o 1).trans hS5.2⟩
      refine hK.out _ _ hS6 (fun hHeld=>?_)
      clear hK hHeld v0 v1 vf0 vf1 hS6 hS5 hS
      refine wpAnyH_done (by kernel_rfl) ?_ _
      go_wp2
      refine bodyPost_ret (v:=.tuple #[.agg #[.int .i64 0,.string ⟨#[]⟩,.int .i64 0,.slice none 0 0],.agg #[.int .i64 qc,.int .i64 qp]]) (checkRes _ _ _ d1 d2) rfl ?_
      exact CkOut.mkBad HB.out hq0 rfl d3
   ·have HB:Hid (R=((parse x).code,(parse x).place)):=by
     show _=_
     rw [← HR.out]
     unfold ckF
     rw [if_neg (by rw [hbad];decide),if_pos hcode]
    have hO:=oOf_bad x wr hHr.1 hcode
    clear HR hsh hall
    generalize (parse x).code=qc at *
    generalize (parse x).place=qp at *
    have hq0:¬ qc=0:=hcode
    have hq1:(qc != 0)=true:=by simp [hq0]
    go_wp2_with (go_at_call 16;refine hO.mono ?_;rintro e w2 ⟨fv2,lv2,rfl,⟨vv,pv,rfl,⟨va,vc,rfl,_⟩,⟨pa,pc,rfl,_⟩⟩,⟨la,lc,rfl,_⟩,hb2⟩;have hRB3:=((hRB.below hb2).alloc (.cells #[.string noFace.module,.slice va noFace.vars.length vc,.slice pa noFace.procs.length pc] 44)).alloc (.cells #[.int .i64 qc,.int .i64 qp] 28))
    have hB3:=BoxC.new (w2.alloc (.cells #[.string noFace.module,.slice va noFace.vars.length vc,.slice pa noFace.procs.length pc] 44)) #[.int .i64 qc,.int .i64 qp] 28
    rw [World.size_alloc] at hB3
    have hlo3:w.heap.size+1<w2.heap.size+1:=by have:=(hRB.below hb2).f.lt;omega
    generalize (w2.alloc (.cells #[.string noFace.module,.slice va noFace.vars.length vc,.slice pa noFace.procs.length pc] 44)).alloc (.cells #[.int .i64 qc,.int .i64 qp] 28)=W3 at *
    generalize w2.heap.size+1=B3 at *
    have hS:(fun W=>W.cell? ⟨B3,0,none⟩=some (.int .i64 qc)∧W.cell? ⟨B3,1,none⟩=some (.int .i64 qp)) W3.drew:=⟨hB3.cell 0 rfl,hB3.cell 1 rfl⟩
    refine wp_region_held_drew (S:=fun W=>W.cell? ⟨B3,0,none⟩=some (.int .i64 qc)∧W.cell? ⟨B3,1,none⟩=some (.int .i64 qp)) (by kernel_rfl) hS (fun hHeld=>?_)
    clear hHeld
    have hRB4:=hRB3.drew
    clear hRB3
    generalize W3.drew=W4 at *
    refine tkP 0 (.agg #[.int .i64 0,.string ⟨#[]⟩,.int .i64 0,.slice none 0 0]) hS ?_
    simp only [Act.put,jA,jB,jC]
    refine tkP 1 (.agg #[.int .i64 qc,.int .i64 qp]) hS ?_
    simp only [Act.put,jA,jB,jC]
    obtain ⟨z0,z1,z2,z3,y0,y1,zf,yf⟩:=hRB4.cells
    have zf0:=zf 0
    have zf1:=zf 1
    have zf2:=zf 2
    have zf3:=zf 3
    have yf0:=yf 0
    have yf1:=yf 1
    refine oneH 2 fun KK hK=>?_
    go_simp
    have hn5:BoxC ((((W4.setCell ⟨w.heap.size,0,none⟩ (.int .i64 0)).setCell ⟨w.heap.size,1,none⟩ (.string ⟨#[]⟩)).setCell ⟨w.heap.size,2,none⟩ (.int .i64 0)).setCell ⟨w.heap.size,3,none⟩ (.slice none 0 0)) w.heap.size ((((#[.int .i64 0,.string ⟨#[]⟩,.int .i64 0,.slice none 0 0]).setIfInBounds 0 (.int .i64 0)).setIfInBounds 1 (.string ⟨#[]⟩)).setIfInBounds 2 (.int .i64 0) |>.setIfInBounds 3 (.slice none 0 0)) 25:=(((hRB4.n.set 0 _).set 1 _).set 2 _).set 3 _
    have hf5:BoxC ((((W4.setCell ⟨w.heap.size,0,none⟩ (.int .i64 0)).setCell ⟨w.heap.size,1,none⟩ (.string ⟨#[]⟩)).setCell ⟨w.heap.size,2,none⟩ (.int .i64 0)).setCell ⟨w.heap.size,3,none⟩ (.slice none 0 0)) (w.heap.size+1) #[.int .i64 0,.int .i64 0] 28:=(((hRB4.f.other (by omega) _).other (by omega) _).other (by omega) _).other (by omega) _
    have hS5:(fun W=>W.cell? ⟨B3,0,none⟩=some (.int .i64 qc)∧W.cell? ⟨B3,1,none⟩=some (.int .i64 qp)) ((((W4.setCell ⟨w.heap.size,0,none⟩ (.int .i64 0)).setCell ⟨w.heap.size,1,none⟩ (.string ⟨#[]⟩)).setCell ⟨w.heap.size,2,none⟩ (.int .i64 0)).setCell ⟨w.heap.size,3,none⟩ (.slice none 0 0)):=by
     have o:∀ i,((((W4.setCell ⟨w.heap.size,0,none⟩ (.int .i64 0)).setCell ⟨w.heap.size,1,none⟩ (.string ⟨#[]⟩)).setCell ⟨w.heap.size,2,none⟩ (.int .i64 0)).setCell ⟨w.heap.size,3,none⟩ (.slice none 0 0)).cell? ⟨B3,i,none⟩=W4.cell? ⟨B3,i,none⟩:=fun i=>World.cell?_of_block (a:=⟨B3,i,none⟩) ((((Below.heap_setCell _ _ _ B3 (by show B3≠w.heap.size;omega)).trans (Below.heap_setCell _ _ _ B3 (by show B3≠w.heap.size;omega))).trans (Below.heap_setCell _ _ _ B3 (by show B3≠w.heap.size;omega))).trans (Below.heap_setCell _ _ _ B3 (by show B3≠w.heap.size;omega)))
     exact ⟨(o 0).trans hS.1,(o 1).trans hS.2⟩
    have v0:=hf5.cell 0 rfl
    have v1:=hf5.cell 1 rfl
    have vf0:=hf5.fz 0
    have vf1:=hf5.fz 1
    obtain ⟨d1,d2,d3⟩:=hRB4.done (.int .i64 0) (.string ⟨#[]⟩) (.int .i64 0) (.slice none 0 0) (.int .i64 qc) (.int .i64 qp)
    refine hK.out _ _ hS5 (fun hHeld=>?_)
    clear hK hHeld z0 z1 z2 z3 y0 y1 zf yf zf0 zf1 zf2 zf3 yf0 yf1 hn5 hf5
    generalize ((((W4.setCell ⟨w.heap.size,0,none⟩ (.int .i64 0)).setCell ⟨w.heap.size,1,none⟩ (.string ⟨#[]⟩)).setCell ⟨w.heap.size,2,none⟩ (.int .i64 0)).setCell ⟨w.heap.size,3,none⟩ (.slice none 0 0))=W5 at *
    refine oneH 3 fun KK hK=>?_
    go_simp
    have hS6:(fun W=>W.cell? ⟨B3,0,none⟩=some (.int .i64 qc)∧W.cell? ⟨B3,1,none⟩=some (.int .i64 qp)) ((W5.setCell ⟨w.heap.size+1,0,none⟩ (.int .i64 qc)).setCell ⟨w.heap.size+1,1,none⟩ (.int .i64 qp)):=by
     have o:∀ i,((W5.setCell ⟨w.heap.size+1,0,none⟩ (.int .i64 qc)).setCell ⟨w.heap.size+1,1,none⟩ (.int .i64 qp)).cell? ⟨B3,i,none⟩=W5.cell? ⟨B3,i,none⟩:=fun i=>World.cell?_of_block (a:=⟨B3,i,none⟩) ((Below.heap_setCell _ _ _ B3 (by show B3≠w.heap.size+1;omega)).trans (Below.heap_setCell _ _ _ B3 (by show B3≠w.heap.size+1;omega)))
     exact ⟨(o 0).trans hS5.1,(o 1).trans hS5.2⟩
    refine hK.out _ _ hS6 (fun hHeld=>?_)
    clear hK hHeld v0 v1 vf0 vf1 hS6 hS5 hS
    refine wpAnyH_done (by kernel_rfl) ?_ _
    go_wp2
    refine bodyPost_ret (v:=.tuple #[.agg #[.int .i64 0,.string ⟨#[]⟩,.int .i64 0,.slice none 0 0],.agg #[.int .i64 qc,.int .i64 qp]]) (checkRes _ _ _ d1 d2) rfl ?_
    exact CkOut.mkBad HB.out hq0 rfl d3
end chk
namespace chk
open Go.RowKit Go.Shelf
open syn face
theorem small {x:ByteArray} {m:ByteArray} {K:List Kid} (ht:(parse x).tree=.node 1 m 0 (K.map Kid.tree)) (hf:fitsT (parse x).tree=true):cntL (K.map Kid.tree)≤900∧K.length≤900∧∀ k∈K,k.kids.length≤900:=by
 rw [ht,← within_fits,withinT_is _ 1 0 (by omega) (by omega) (by omega) (by omega)] at hf
 split at hf
 ·rename_i h
  have hc:cntL (K.map Kid.tree)+1≤500:=by
   have h2:=h.2
   rw [cntN] at h2
   omega
  refine ⟨by omega,?_,?_⟩
  ·have:=len_cnt (K.map Kid.tree)
   rw [List.length_map] at this
   omega
  ·intro k hk
   obtain ⟨i,hi,rfl⟩:=List.mem_iff_getElem.1 hk
   have h1:=cntT_mem (K.map Kid.tree) i (by simpa using hi)
   have h2:(K.map Kid.tree)[i]'(by simpa using hi)=K[i].tree:=by simp
   rw [h2,Kid.tree_is,cntN] at h1
   have h4:=len_cnt K[i].kids
   omega
 ·simp at hf
theorem shape5 (x:ByteArray) (h:(parse x).code=0):∃ (m:ByteArray) (K:List Kid),(parse x).tree=.node 1 m 0 (K.map Kid.tree)∧m.size≤16∧(∀ k∈K,k.good∧k.named∧deepK k)∧cntL (K.map Kid.tree)≤900∧K.length≤900∧∀ k∈K,k.kids.length≤900:=by
 obtain ⟨m,K,ht,hm,_,hk,hf⟩:=parse_shape4 x h
 obtain ⟨h1,h2,h3⟩:=small ht hf
 exact ⟨m,K,ht,hm,hk,h1,h2,h3⟩
set_option maxHeartbeats 1000000 in
theorem oHas (l:List ByteArray) (x:ByteArray) (v:Value) (w:World) (hv:StrsIn w v l) :
  Calls Tryz.prog 17 #[v,.string x] w fun e w'=>e=.returned (.bool (among l x))∧w'=w:=by
 obtain ⟨a,c,rfl,hl,hk⟩:=hv
 go_enter Tryz.func17,Tryz.ntmps17
 go_wp2
 go_loopw [5] (fun t wr=>∃ j:Nat,j≤l.length∧t=.int .i64 j∧wr=w∧Hid (∀ i (h:i<l.length),i<j→eqS l[i] x=false)) (fun t _=>l.length - (intOf t).toNat)
 case atStart=>exact ⟨0,Nat.zero_le _,rfl,rfl,fun i _ h=>by omega⟩
 case round =>
  obtain ⟨j,hj,rfl,rfl,HN⟩:=hrel
  by_cases hlt:j<l.length
  ·obtain ⟨g,o,rfl,hc⟩:=hk (by intro e;rw [e] at hlt;simp at hlt)
   have q:=hc j hlt
   clear hc hk
   cases he:eqS l[j] x
   ·have HE:Hid (eqS l[j] x=false):=he
    unfold eqS at he
    generalize l[j]=y at he q
    go_wp2
    go_roundw
    case rel=>exact ⟨j+1,by omega,by go_num,by trivial,fun i h h1=>by
     rcases Nat.lt_or_ge i j with h3 | h3
     ·exact HN.out i h h3
     ·have:i=j:=by omega
      subst this
      exact HE.out⟩
    case measure=>simp [intOf];omega
   ·have HE:Hid (among l x=true):=among_hit j hlt he
    unfold eqS at he
    generalize l[j]=y at he q
    go_wp2
    go_ret
    exact ⟨by rw [HE.out];rfl,rfl⟩
  ·have HE:Hid (among l x=false):=among_none (fun i h=>HN.out i h (by omega))
   go_wp2
   go_ret
   exact ⟨by rw [HE.out];rfl,rfl⟩
def Shp (x m:ByteArray) (K:List Kid):Prop:=(parse x).code=0→(parse x).tree=.node 1 m 0 (K.map Kid.tree)∧m.size≤16∧(∀ k∈K,k.good∧k.named∧deepK k)∧cntL (K.map Kid.tree)≤900∧K.length≤900∧∀ k∈K,k.kids.length≤900
theorem keptC {w w':World} (hb:Below w.heap.size w w') {p:Addr} {v:Value} (h:w.cell? p=some v):w'.cell? p=some v:=by
 have hp:p.block<w.heap.size:=by
  cases hq:w.heap[p.block]? with
  | none=>simp [World.cell?,hq] at h
  | some o=>exact (Array.getElem?_eq_some_iff.1 hq).1
 rw [hb.cell hp];exact h
theorem FacesIn.below {w w':World} {v:Value} {qs:List FV} (h:FacesIn w v qs) (hb:Below w.heap.size w w'):FacesIn w' v qs:=by
 obtain ⟨a,c,rfl,hl,hk⟩:=h
 refine ⟨a,c,rfl,hl,fun hq=>?_⟩
 obtain ⟨g,o,rfl,hc⟩:=hk hq
 refine ⟨g,o,rfl,fun i hi=>?_⟩
 obtain ⟨h0,h1,h2,h3,h4⟩:=hc i hi
 exact ⟨keptC hb h0,keptC hb h1,keptC hb h2,h3.below hb,h4⟩
end chk
namespace ord
open Go.RowKit Go.Shelf
open syn face chk
def holes (Q:Nat→Bool) (w:World):World:={ w with heap:=w.heap.mapIdx fun i o=>if Q i then .cells #[] 0 (0,0) else o }
theorem holes_block {Q:Nat→Bool} {b:Nat} (w:World) (h:Q b=false):(holes Q w).heap[b]?=w.heap[b]?:=by
 simp [holes,h]
theorem holes_cell {Q:Nat→Bool} {w:World} {a:Addr} {v:Value} (h:(holes Q w).cell? a=some v):Q a.block=false∧w.cell? a=some v:=by
 cases hq:Q a.block with
 | false=>exact ⟨rfl,by rw [← World.cell?_of_block (holes_block w hq)];exact h⟩
 | true =>
  exfalso
  have hlt:a.block<(holes Q w).heap.size:=World.block_lt_of_cell? _ a h
  have hb:(holes Q w).heap[a.block]?=some (.cells #[] 0 (0,0)):=by
   have hlt':a.block<w.heap.size:=by simpa [holes] using hlt
   simp [holes,hq,hlt']
  simp [World.cell?,hb] at h
theorem holes_keep {Q:Nat→Bool} {w:World} {a:Addr} {v:Value} (hq:Q a.block=false) (h:w.cell? a=some v):(holes Q w).cell? a=some v:=by
 rw [World.cell?_of_block (holes_block w hq)]
 exact h
def newB (n:Nat) (b:Nat):Bool:=decide (b<n)
theorem own_holes {Q:Nat→Bool} {w:World} {B:Nat} {e:TypeId} {s:Nat} {v:Value} {n:Nat} {xs:List Value} (h:w.ownsRow B e s v n xs) (hQ:∀ b,B≤b→Q b=false):(holes Q w).ownsRow B e s v n xs:=by
 refine ⟨h.1,?_⟩
 rcases h.2 with h | ⟨g,cap,cur,hv,hb,hg,r⟩
 ·exact .inl h
 ·exact .inr ⟨g,cap,cur,hv,hb,(holes_block w (hQ g hb)).trans hg,r⟩
theorem FR.holes {X:Nat→Prop} {Q:Nat→Bool} {B:Nat} {w:World} {vv pv:Value} {V:List VarD} {P:List (ProcD × Value)} (h:FR X B w vv pv V P) (hQ:∀ b,B≤b→Q b=false):FR X B (ord.holes Q w) vv pv V P :=
 ⟨own_holes h.ov hQ,own_holes h.op hQ,fun q hq=>(h.par q hq).to (fun b hb=>⟨hb.1,by simpa [ord.holes] using hb.2.1,hb.2.2⟩) (fun b hb o v hc=>holes_keep (hQ b hb.1) hc),h.dj,h.xv,h.xp⟩
def OfNew (w:World) (f:FaceD) (l:List ByteArray) (c a:Int) (e:Ending) (w':World):Prop :=
 ∃ fv lv,e=.returned (.tuple #[fv,lv,.agg #[.int .i64 c,.int .i64 a]])∧FaceIn (holes (newB w.heap.size) w') fv f∧StrsIn (holes (newB w.heap.size) w') lv l∧Below w.heap.size w w'
theorem DeclOut.new {w:World} {m:ByteArray} {K:List Kid} {e:Ending} {w':World} (h:DeclOut w m K e w') :
  (match lookK m K [] [] 1 with
   | some e=>OfNew w noFace [] e.1 e.2
   | none=>OfNew w (faceK false m K) (importsK K) 0 0) e w':=by
 unfold DeclOut at h
 rw [lookD_is] at h
 cases hl:lookK m K [] [] 1 with
 | some q =>
  rw [hl] at h
  exact ⟨_,_,h.1,noFace_in _,noStrs_in _,h.2⟩
 | none =>
  rw [hl] at h
  obtain ⟨X,B,vv,pv,iv,P,hB,he,hF,hP,hn,hi,hb⟩:=h
  have hQ:∀ b,B≤b→newB w.heap.size b=false:=fun b h=>by unfold newB;simp;omega
  have hV:=varsN_len false K
  have hPl:P.length≤1000:=by have h1:=congrArg List.length hP;have h2:=procsN_len false K;rw [List.length_map] at h1;omega
  refine ⟨_,_,he,?_,strs_own (own_holes hi hQ),hb⟩
  have:=(FR.holes hF hQ).face (m:=m) (by omega) hPl
  rw [hP] at this
  exact this
theorem StrsIn.mono {w w':World} (hc:∀ a v,w.cell? a=some v→w'.cell? a=some v) {v:Value} {l:List ByteArray} (h:StrsIn w v l):StrsIn w' v l:=by
 obtain ⟨a,c,e,hl,hk⟩:=h
 refine ⟨a,c,e,hl,fun hne=>?_⟩
 obtain ⟨g,o,e2,hc2⟩:=hk hne
 exact ⟨g,o,e2,fun i hi=>hc _ _ (hc2 i hi)⟩
structure TX where
 m:ByteArray
 K:List Kid
 F:FaceD
 I:List ByteArray
 ec:Int
 ep:Int
def parOf:Tree→ByteArray × Bool
 | .node _ x l _=>(x,l==1)
def kidOf:Tree→Kid
 | .node k x n ks=>if k=2 then .imp x else if k=3 then .var x (decide (2≤n)) (n % 2==1) (match ks with
   | []=>none
   | .node _ _ v _ :: _=>some v) else .proc x (decide (2≤n % 4)) (n % 2==1) (if n<4 then none else some (decide (8≤n))) (ks.dropLast.map parOf) (ks.getLastD (.node 0 empty 0 []))
theorem parOf_par (q:ByteArray × Bool):parOf (parT q)=q:=by
 obtain ⟨x,l⟩:=q
 cases l<;>rfl
theorem kidOf_tree (k:Kid):kidOf k.tree=k:=by
 cases k with
 | imp x=>rfl
 | var x p l n=>cases n<;>cases p<;>cases l<;>rfl
 | proc x p l g ps b =>
  have e1:(ps.map parT++[b]).dropLast=ps.map parT:=by simp
  have e2:(ps.map parT++[b]).getLastD (.node 0 empty 0 [])=b:=by simp
  have e3:(ps.map parT).map parOf=ps:=by
   rw [List.map_map]
   exact (List.map_congr_left (fun q _=>parOf_par q)).trans (List.map_id ps)
  have key:kidOf (Kid.proc x p l g ps b).tree=.proc x (decide (2≤(2*bI p+bI l+gI g) % 4)) ((2*bI p+bI l+gI g) % 2==1) (if (2*bI p+bI l+gI g)<4 then none else some (decide (8≤(2*bI p+bI l+gI g)))) ((ps.map parT++[b]).dropLast.map parOf) ((ps.map parT++[b]).getLastD (.node 0 empty 0 [])):=rfl
  rw [key,e1,e2,e3]
  cases p<;>cases l<;>(cases g with | none=>rfl | some e=>cases e<;>rfl)
theorem kids_back (K:List Kid):(K.map Kid.tree).map kidOf=K:=by
 rw [List.map_map]
 exact (List.map_congr_left (fun k _=>kidOf_tree k)).trans (List.map_id K)
def modT:Tree→ByteArray
 | .node _ m _ _=>m
def kidsT:Tree→List Kid
 | .node _ _ _ ks=>ks.map kidOf
def tx (x:ByteArray):TX :=
 if (parse x).code≠0 then ⟨⟨#[]⟩,[],noFace,[],(parse x).code,(parse x).place⟩ else
 match lookK (modT (parse x).tree) (kidsT (parse x).tree) [] [] 1 with
 | some q=>⟨modT (parse x).tree,kidsT (parse x).tree,noFace,[],q.1,q.2⟩
 | none=>⟨modT (parse x).tree,kidsT (parse x).tree,faceK false (modT (parse x).tree) (kidsT (parse x).tree),importsK (kidsT (parse x).tree),0,0⟩
theorem ofBad {w:World} {c a:Int} {e:Ending} {w':World} (h:OfRes w noFace [] c a e w'):OfNew w noFace [] c a e w':=by
 obtain ⟨fv,lv,he,⟨vv,pv,rfl,⟨a1,c1,rfl,_,_⟩,⟨a2,c2,rfl,_,_⟩⟩,⟨a3,c3,rfl,_,_⟩,hb⟩:=h
 exact ⟨_,_,he,⟨_,_,rfl,⟨_,_,rfl,by simp [noFace],fun h=>absurd rfl h⟩,⟨_,_,rfl,by simp [noFace],fun h=>absurd rfl h⟩⟩,⟨_,_,rfl,by simp,fun h=>absurd rfl h⟩,hb⟩
structure TXOk (x:ByteArray) (t:TX):Prop where
 shp:Shp x t.m t.K
 of:∀ W,HasBoth W→Calls Tryz.prog 16 #[.string x] W (OfNew W t.F t.I t.ec t.ep)
 bad:t.ec≠0→∀ fs,(ckF x fs t.m t.K).1≠0
 good:t.ec=0→t.F=faceK false t.m t.K∧t.I=importsK t.K∧lookK t.m t.K [] [] 1=none∧(parse x).code=0∧t.m.size≤16
theorem txo (x:ByteArray):TXOk x (tx x):=by
 unfold tx
 by_cases hc:(parse x).code=0
 ·obtain ⟨m,K,hs⟩:=shape5 x hc
  have e1:modT (parse x).tree=m:=by rw [hs.1];rfl
  have e2:kidsT (parse x).tree=K:=by
   rw [hs.1]
   exact kids_back K
  rw [if_neg (by simp [hc]),e1,e2]
  have hO:=fun W hW=>(oOf_ok x m K W hW hc hs.1 hs.2.1 (fun k hk=>(hs.2.2.1 k hk).1) (by omega) (fun k hk=>by have:=hs.2.2.2.2.2 k hk;omega)).mono (fun e w' h=>DeclOut.new h)
  cases hl:lookK m K [] [] 1 with
  | some q =>
   rw [hl] at hO
   refine ⟨fun _=>hs,hO,fun hq fs=>?_,fun h0=>absurd h0 (lookK_ne m K [] [] 1 q hl)⟩
   unfold ckF
   rw [hc,hl]
   split
   ·decide
   ·rw [if_neg (by decide)]
    exact hq
  | none =>
   rw [hl] at hO
   exact ⟨fun _=>hs,hO,fun h=>absurd rfl h,fun _=>⟨rfl,rfl,hl,hc,hs.2.1⟩⟩
 ·rw [if_pos hc]
  refine ⟨fun h=>absurd h hc,fun W hW=>(oOf_bad x W hW hc).mono (fun e w' h=>ofBad h),fun hq fs=>?_,fun h=>absurd h hc⟩
  unfold ckF
  split
  ·decide
  ·exact hc
abbrev Tr:=Int × Int × Int
def nameOf (x:ByteArray):ByteArray:=(tx x).F.module
def readF:List ByteArray→Nat→Option Tr
 | [],_=>none
 | x :: r,i=>if (tx x).ec≠0 then some (i,(tx x).ec,(tx x).ep) else readF r (i+1)
def enterF:List ByteArray→List ByteArray→Option Tr
 | _,[]=>none
 | seen,n :: r=>if among seen n then some (seen.length,5,0) else enterF (seen++[n]) r
def impF (ns:List ByteArray) (i:Nat):List ByteArray→Nat→Option Tr
 | [],_=>none
 | y :: r,k=>if among ns y then impF ns i r (k+1) else some (i,4,1+k)
def findF (ns:List ByteArray):List (List ByteArray)→Nat→Option Tr
 | [],_=>none
 | l :: r,i=>match impF ns i l 0 with
  | some t=>some t
  | none=>findF ns r (i+1)
def numF (ns:List ByteArray) (z:ByteArray):Option Nat:=ns.findIdx? fun n=>eqS z n
def numD (ns:List ByteArray) (z:ByteArray):Nat:=(numF ns z).getD 0
def awaitedB (ns:List ByteArray) (taken:List Nat) (l:List ByteArray):Bool:=l.any fun y=>!taken.contains (numD ns y)
def mayBeB (ns:List ByteArray) (Is:List (List ByteArray)) (taken:List Nat) (i:Nat):Bool:=!taken.contains i&&!awaitedB ns taken (Is.getD i [])
def nextF (ns:List ByteArray) (Is:List (List ByteArray)) (taken:List Nat):Option Nat:=(List.range Is.length).find? (mayBeB ns Is taken)
def takeF (ns:List ByteArray) (Is:List (List ByteArray)):Nat→List Nat→List Nat
 | 0,t=>t
 | k+1,t=>match nextF ns Is t with
  | some i=>takeF ns Is k (t++[i])
  | none=>t
def leftF (n:Nat) (taken:List Nat):Option Tr:=((List.range n).find? fun i=>!taken.contains i).map fun (i:Nat)=>((i:Int),(3:Int),(0:Int))
def impsF (xs:List ByteArray) (x:ByteArray):List FaceD:=(tx x).I.map fun y=>(tx (xs.getD (numD (xs.map nameOf) y) x)).F
def chkF (xs:List ByteArray):List Nat→Option Tr
 | []=>none
 | i :: r=>let x:=xs.getD i ⟨#[]⟩;let f:=ckF x (impsF xs x) (tx x).m (tx x).K
  if f.1≠0 then some (i,f.1,f.2) else chkF xs r
def isMainB (p:ProcD):Bool:=eqS p.name ⟨#[109,97,105,110]⟩&&p.params.length==0&&p.writes==0&&!p.gives
def mainF (xs:List ByteArray):Option Tr :=
 match numF (xs.map nameOf) ⟨#[109,97,105,110]⟩ with
 | none=>some (0,4,0)
 | some i=>if (tx (xs.getD i ⟨#[]⟩)).F.procs.any isMainB then none else some (0,4,0)
def takenF (xs:List ByteArray):List Nat:=takeF (xs.map nameOf) (xs.map fun x=>(tx x).I) xs.length []
def orderF (xs:List ByteArray):Option Tr :=
 if xs.length=0∨6<xs.length then some (0,1,0) else
 match readF xs 0 with
 | some t=>some t
 | none=>match enterF [] (xs.map nameOf) with
  | some t=>some t
  | none=>match findF (xs.map nameOf) (xs.map fun x=>(tx x).I) 0 with
   | some t=>some t
   | none=>match leftF xs.length (takenF xs) with
    | some t=>some t
    | none=>match chkF xs (takenF xs) with
     | some t=>some t
     | none=>mainF xs
/-! facts -/
theorem numF_snoc (ns:List ByteArray) (x z:ByteArray) (h:among ns x=false):numF (ns++[x]) z=if eqS z x then some ns.length else numF ns z:=by
 unfold numF
 rw [List.findIdx?_append]
 cases he:eqS z x with
 | true =>
  have:ns.findIdx? (fun n=>eqS z n)=none:=by
   rw [List.findIdx?_eq_none_iff]
   intro n hn
   cases hz:eqS z n with
   | false=>rfl
   | true =>
    obtain rfl:=eqS_list.1 hz
    obtain rfl:=eqS_list.1 he
    unfold among at h
    rw [List.any_eq_false] at h
    exact absurd hz (h _ hn)
  rw [this]
  simp [List.findIdx?_cons,he]
 | false=>simp [List.findIdx?_cons,he]
theorem eqS_symm {x y:ByteArray} (h:eqS x y=true):eqS y x=true:=by
 obtain rfl:=eqS_list.1 h
 exact h
theorem numF_some {ns:List ByteArray} {z:ByteArray} (h:among ns z=true):∃ i,numF ns z=some i∧i<ns.length∧numD ns z=i:=by
 unfold among at h
 rw [List.any_eq_true] at h
 obtain ⟨n,hn,he⟩:=h
 cases hf:numF ns z with
 | none =>
  unfold numF at hf
  rw [List.findIdx?_eq_none_iff] at hf
  have:=hf n hn
  rw [eqS_symm he] at this
  cases this
 | some i =>
  refine ⟨i,rfl,?_,by simp [numD,hf]⟩
  unfold numF at hf
  rw [List.findIdx?_eq_some_iff_getElem] at hf
  exact hf.1
theorem numF_none {ns:List ByteArray} {z:ByteArray} (h:among ns z=false):numF ns z=none:=by
 unfold numF
 rw [List.findIdx?_eq_none_iff]
 intro n hn
 cases hz:eqS z n with
 | false=>rfl
 | true =>
  unfold among at h
  rw [List.any_eq_false] at h
  exact absurd (eqS_symm hz) (h _ hn)
theorem numF_at {ns:List ByteArray} {z:ByteArray} {i:Nat} (h:numF ns z=some i):∃ hi:i<ns.length,eqS z ns[i]=true:=by
 unfold numF at h
 rw [List.findIdx?_eq_some_iff_getElem] at h
 obtain ⟨hi,he,_⟩:=h
 exact ⟨hi,he⟩
theorem impF_none (ns:List ByteArray) (i:Nat):∀ (l:List ByteArray) (k:Nat),impF ns i l k=none→∀ y∈l,among ns y=true
 | [],_,_,y,hy=>by cases hy
 | z :: r,k,h,y,hy=>by
  unfold impF at h
  split at h
  ·rename_i hz
   rcases List.mem_cons.1 hy with rfl | hy
   ·exact hz
   ·exact impF_none ns i r _ h y hy
  ·cases h
theorem findF_none (ns:List ByteArray):∀ (L:List (List ByteArray)) (i:Nat),findF ns L i=none→∀ l∈L,∀ y∈l,among ns y=true
 | [],_,_,l,hl=>by cases hl
 | a :: r,i,h,l,hl=>by
  unfold findF at h
  split at h
  ·cases h
  ·rename_i ha
   rcases List.mem_cons.1 hl with rfl | hl
   ·exact impF_none ns i _ _ ha
   ·exact findF_none ns r _ h l hl
theorem readF_none:∀ (xs:List ByteArray) (i:Nat),readF xs i=none→∀ x∈xs,(tx x).ec=0
 | [],_,_,x,hx=>by cases hx
 | z :: r,i,h,x,hx=>by
  unfold readF at h
  split at h
  ·cases h
  ·rename_i hz
   rcases List.mem_cons.1 hx with rfl | hx
   ·simpa using hz
   ·exact readF_none r _ h x hx
structure Tk (n:Nat) (t:List Nat):Prop where
 lt:∀ i∈t,i<n
 nd:t.Nodup
theorem Tk.len {n:Nat} {t:List Nat} (h:Tk n t):t.length≤n:=by
 have:=h.nd.length_le_of_subset (l₂:=List.range n) (fun i hi=>List.mem_range.2 (h.lt i hi))
 simpa using this
theorem next_some {ns:List ByteArray} {Is:List (List ByteArray)} {t:List Nat} {i:Nat} (h:nextF ns Is t=some i):i<Is.length∧mayBeB ns Is t i=true∧i∉t:=by
 unfold nextF at h
 have h1:=List.find?_some h
 have h2:=List.mem_range.1 (List.mem_of_find?_eq_some h)
 refine ⟨h2,h1,fun hi=>?_⟩
 unfold mayBeB at h1
 simp [hi] at h1
theorem Tk.snoc {n:Nat} {t:List Nat} (h:Tk n t) {i:Nat} (hi:i<n) (hn:i∉t):Tk n (t++[i]):=by
 refine ⟨fun j hj=>?_,?_⟩
 ·rcases List.mem_append.1 hj with hj | hj
  ·exact h.lt j hj
  ·simp at hj;omega
 ·rw [List.nodup_append]
  refine ⟨h.nd,by simp,fun a ha b hb=>?_⟩
  simp at hb
  subst hb
  intro e
  exact hn (e▸ha)
theorem takeF_tk {ns:List ByteArray} {Is:List (List ByteArray)}:∀ (k:Nat) (t:List Nat),Tk Is.length t→Tk Is.length (takeF ns Is k t)
 | 0,t,h=>h
 | k+1,t,h=>by
  unfold takeF
  split
  ·rename_i i hi
   obtain ⟨h1,_,h3⟩:=next_some hi
   exact takeF_tk k _ (h.snoc h1 h3)
  ·exact h
theorem takeF_none {ns:List ByteArray} {Is:List (List ByteArray)} {t:List Nat} (h:nextF ns Is t=none):∀ k,takeF ns Is k t=t
 | 0=>rfl
 | k+1=>by unfold takeF;rw [h]
theorem takeF_some {ns:List ByteArray} {Is:List (List ByteArray)} {t:List Nat} {i:Nat} (hT:Tk Is.length t) (h:nextF ns Is t=some i):takeF ns Is (Is.length - t.length) t=takeF ns Is (Is.length - (t++[i]).length) (t++[i]):=by
 obtain ⟨h1,_,h3⟩:=next_some h
 have hl:=(hT.snoc h1 h3).len
 simp only [List.length_append,List.length_cons,List.length_nil] at hl ⊢
 obtain ⟨k,hk⟩:∃ k,Is.length - t.length=k+1:=⟨Is.length - t.length - 1,by omega⟩
 rw [hk,show Is.length - (t.length+(0+1))=k by omega]
 conv=>lhs;unfold takeF
 rw [h]
theorem leftF_none {n:Nat} {t:List Nat} (h:leftF n t=none) (i:Nat) (hi:i<n):i∈t:=by
 unfold leftF at h
 rw [Option.map_eq_none_iff,List.find?_eq_none] at h
 have:=h i (List.mem_range.2 hi)
 simpa using this
end ord
namespace chk
open Go.RowKit Go.Shelf
open syn face
def fcells (q:FV):List Value:=[.string q.1.module,q.2.1,q.2.2]
def faceCells (l:List FV):List Value:=l.flatMap fcells
theorem faceCells_at:∀ (l:List FV) (k:Nat) (hk:k<l.length),(faceCells l)[k*3]?=some (.string l[k].1.module)∧(faceCells l)[k*3+1]?=some l[k].2.1∧(faceCells l)[k*3+2]?=some l[k].2.2
 | [],k,hk=>by simp at hk
 | q :: l,0,hk=>by simp [faceCells,fcells]
 | q :: l,k+1,hk=>by
  have hk':k<l.length:=by simpa using hk
  have h:=faceCells_at l k hk'
  have e:faceCells (q :: l)=[.string q.1.module,q.2.1,q.2.2]++faceCells l:=rfl
  have e3:(k+1)*3=k*3+3:=by omega
  rw [e,e3]
  refine ⟨?_,?_,?_⟩
  ·rw [List.getElem?_append_right (by simp)];simpa using h.1
  ·rw [List.getElem?_append_right (by simp)];simpa using h.2.1
  ·rw [List.getElem?_append_right (by simp)];simpa using h.2.2
theorem infoF:(Tryz.prog.info? 44).map (fun i=>(i.zero,i.size,i.bytes))=some (some (.agg #[.string ⟨#[]⟩,.slice none 0 0,.slice none 0 0]),3,64):=by kernel_rfl
end chk
end Go.Proofs.YtfopddgjdaoidaaGreatDoor
