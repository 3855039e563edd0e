/- The state of the program while it goes over a module: where it lies, and what turns it. -/
import Derived.Test.YtfopddgjdaoidaaGreatDoorNM27
set_option linter.unusedVariables false
set_option linter.unusedSimpArgs false
set_option maxRecDepth 100000
namespace Go.Proofs.YtfopddgjdaoidaaGreatDoor.chk
open Go.RowKit Go.Shelf
open syn face
structure Agr (E:Env) (L:List Loc) (ctx:Int) (kf:ByteArray→Option FV) (vs:List VarD):Prop where
  pl:∀ (k:Int) (x:ByteArray) (a a':Int) (ls:List Int),(k=16∧ls=[]∨k=17∧∃ l,ls=[l])→LongN x→(match plP kf vs k x a (.ok (ls,a')) with
    | .bad c b=>Res.bad c b
    | .ok q=>.ok (jn q.1.label q.2.1,q.2.2))=match ownF E L ctx false k x ls a with
    | .bad c b=>.bad c b
    | .ok l=>.ok (l,a')
  cl:∀ (alone:Bool) (x:ByteArray) (a a':Int) (ls:List Int),LongN x→(match clP kf ctx alone x a (.ok (ls,a')) with
    | .bad c b=>Res.bad c b
    | .ok q=>.ok (q.1.given,q.2))=match ownF E L ctx alone 18 x ls a with
    | .bad c b=>.bad c b
    | .ok l=>.ok (l,a')
theorem exL_len (E:Env) (L:List Loc) (ctx:Int):∀ (ks:List Tree) (a:Int) (q:List Int × Int),exL E L ctx ks a=.ok q→q.1.length=ks.length
  | [],a,q,h=>by
    simp only [exL,Res.ok.injEq] at h
    rw [← h]
    rfl
  | t :: r,a,q,h=>by
    unfold exL at h
    cases h1:exF E L ctx false t a with
    | bad c b=>rw [h1] at h;cases h
    | ok s =>
      rw [h1] at h
      dsimp only at h
      cases h2:exL E L ctx r s.2 with
      | bad c b=>rw [h2] at h;cases h
      | ok s2 =>
        rw [h2] at h
        simp only [Res.ok.injEq] at h
        rw [← h]
        simp [exL_len E L ctx r _ _ h2]
theorem Agr.place {E:Env} {L:List Loc} {ctx:Int} {kf:ByteArray→Option FV} {vs:List VarD} (h:Agr E L ctx kf vs) {k:Int} {x:ByteArray} {m:Int} {ks:List Tree} {a:Int} (hk:k=16∨k=17) (hex:ExT (.node k x m ks)) :
    exF E L ctx false (.node k x m ks) a=match plP kf vs k x a (exL E L ctx ks (a+1)) with
      | .bad c b=>Res.bad c b
      | .ok q=>.ok (jn q.1.label q.2.1,q.2.2):=by
  have hx:=hex.kids.2.1 (by rcases hk with h | h <;> simp [h])
  cases hR:exL E L ctx ks (a+1) with
  | bad c b=>rw [exF_bad hR];rfl
  | ok q =>
    obtain ⟨ls,a'⟩:=q
    rw [exF_ok hR]
    have hl:=exL_len E L ctx ks _ _ hR
    refine (h.pl k x a a' ls ?_ hx).symm
    cases hex with
    | num n=>omega
    | nam _=>exact .inl ⟨rfl,List.eq_nil_of_length_eq_zero hl⟩
    | item _ e=>exact .inr ⟨rfl,List.length_eq_one_iff.1 hl⟩
    | call _ _=>omega
    | op _ _=>omega
    | neg _=>omega
    | nott _=>omega
theorem Agr.call {E:Env} {L:List Loc} {ctx:Int} {kf:ByteArray→Option FV} {vs:List VarD} (h:Agr E L ctx kf vs) {alone:Bool} {x:ByteArray} {m:Int} {ks:List Tree} {a:Int} (hx:LongN x) :
    exF E L ctx alone (.node 18 x m ks) a=match clP kf ctx alone x a (exL E L ctx ks (a+1)) with
      | .bad c b=>Res.bad c b
      | .ok q=>.ok (q.1.given,q.2):=by
  cases hR:exL E L ctx ks (a+1) with
  | bad c b=>rw [exF_bad hR];rfl
  | ok q =>
    obtain ⟨ls,a'⟩:=q
    rw [exF_ok hR]
    exact (h.cl alone x a a' ls hx).symm
theorem own_else (E:Env) (L:List Loc) (ctx:Int) (k:Int) (x:ByteArray) (ls:List Int) (a:Int) (h1:k≠16) (h2:k≠17) (h3:k≠18):ownF E L ctx false k x ls a=.ok (joinL ls 0):=by
  unfold ownF
  rw [if_neg h1,if_neg h2,if_neg h3]
theorem field6 (a b c d e f:Value) (w:World):(Instr.field 80 (.agg #[a,b,c,d,e,f]) 5).run Tryz.prog w=.ok f w:=by kernel_rfl
section
variable {w0:World} {D Kb kn:Nat} {kf:KF} {vs:List VarD} {u:Value}
theorem EX.mkBad {w w':World} {r:Res (Int × Int)} {c b:Int} (h:r=.bad c b) (hb:Below w0.heap.size w0 w'):EX w0 D Kb kn kf vs u w r (.panicked (Thrown c b)) w':=by rw [h];exact ⟨rfl,hb⟩
theorem EX.mkOk {w w':World} {r:Res (Int × Int)} {l a:Int} {e:Ending} (h:r=.ok (l,a)) (he:e=.returned (.int .i64 l)) (hc:CS w0 w' D Kb kn kf vs u a) (hf:Fr D w w'):EX w0 D Kb kn kf vs u w r e w':=by rw [h];exact ⟨he,hc,hf⟩
set_option maxHeartbeats 2000000 in
theorem oExpr (E:Env) (L:List Loc) (ctx:Int) (hA:Agr E L ctx kf vs) (hvs:vs.length≤1000) (t:Tree) (v:Value) (w:World) (at_:Int) (hex:ExT t) (hv:Lies (·<w0.heap.size) w0 t v) (h:CS w0 w D Kb kn kf vs u at_) (h0:0≤at_) (hm:at_+cntT t≤1000000) :
    Calls Tryz.prog 159 #[.pointer (some ⟨D,0,none⟩),v,.int .i64 ctx] w fun e w'=>EX w0 D Kb kn kf vs u w (exF E L ctx false t at_) e w':=by
  match t with
  | .node k x m ks =>
    have ih:∀ j (hj:j<ks.length) (v:Value) (w:World) (at_:Int),ExT ks[j]→Lies (·<w0.heap.size) w0 ks[j] v→CS w0 w D Kb kn kf vs u at_→0≤at_→at_+cntT ks[j]≤1000000 →
        Calls Tryz.prog 159 #[.pointer (some ⟨D,0,none⟩),v,.int .i64 ctx] w fun e w'=>EX w0 D Kb kn kf vs u w (exF E L ctx false ks[j] at_) e w':=fun j hj v w at_ h1 h2 h3 h4 h5=>oExpr E L ctx hA hvs ks[j] v w at_ h1 h2 h3 h4 h5
    obtain ⟨hkids,hlong,hkind⟩:=hex.kids
    have c24:Tryz.prog.cellsOf 25=4:=by kernel_rfl
    have c4:Tryz.prog.cellsOf 76=4:=cell4
    have hcT:cntT (.node k x m ks)=1+cntL ks:=by unfold cntT;omega
    rw [hcT] at hm
    have hv0:=hv
    unfold Lies at hv
    obtain ⟨a,c,rfl,hl,hk⟩:=hv
    have hB0:Below w.heap.size w (w.alloc (.cells #[.int .i64 k,.string x,.int .i64 m,.slice a ks.length c] 25)):=(Below.refl _ _).alloc (jE _) _
    have hI0:=h.alloc (.cells #[.int .i64 k,.string x,.int .i64 m,.slice a ks.length c] 25)
    have hF0:Fr D w (w.alloc (.cells #[.int .i64 k,.string x,.int .i64 m,.slice a ks.length c] 25)):=(Fr.refl _ _).alloc _
    obtain ⟨Z,hZ⟩:∃ Z,exF E L ctx false (.node k x m ks) at_=Z:=⟨_,rfl⟩
    rw [hZ]
    have HZ:Hid (exF E L ctx false (.node k x m ks) at_=Z):=hZ
    clear hZ
    by_cases h1617:k=16∨k=17
    · have hx:=hlong (by rcases h1617 with h | h <;> simp [h])
      have hP:=oPlace E L hvs k x m ks _ _ ctx at_ hkids hx hv0 hI0 h0 (by omega) ih
      have HZ2:Hid (Z=match plP kf vs k x at_ (exL E L ctx ks (at_+1)) with
          | .bad c b=>Res.bad c b
          | .ok q=>.ok (jn q.1.label q.2.1,q.2.2)):=by
        show _=_
        rw [← HZ.out]
        exact hA.place h1617 hex
      clear HZ ih hk hv0 hex
      generalize plP kf vs k x at_ (exL E L ctx ks (at_+1))=Y at *
      cases Y with
      | bad cc bb =>
        have HB:Hid (Z=.bad cc bb):=HZ2.out
        rcases h1617 with rfl | rfl
        · go_enter Tryz.func159,Tryz.ntmps159
          go_wp2_with (go_at_call 185;refine hP.mono ?_;rintro e w2 ⟨rfl,hb2⟩)
          exact ⟨rfl,EX.mkBad HB.out hb2⟩
        · go_enter Tryz.func159,Tryz.ntmps159
          go_wp2_with (go_at_call 185;refine hP.mono ?_;rintro e w2 ⟨rfl,hb2⟩)
          exact ⟨rfl,EX.mkBad HB.out hb2⟩
      | ok q =>
        obtain ⟨vv,ix,a2⟩:=q
        have HB:Hid (Z=.ok (jn vv.label ix,a2)):=HZ2.out
        rcases h1617 with rfl | rfl
        · go_enter Tryz.func159,Tryz.ntmps159
          go_wp2_with first
            | (go_at_call 185;refine hP.mono ?_;rintro e w2 ⟨rfl,hI2,hf2⟩;unfold varV)
            | (go_at_call 188;refine (oJoin _ _ _).mono ?_;rintro e w6 ⟨rfl,hw6⟩;rw [hw6])
          go_ret
          exact EX.mkOk HB.out rfl (hI2.alloc _) ((hF0.trans hf2).alloc _)
        · go_enter Tryz.func159,Tryz.ntmps159
          go_wp2_with first
            | (go_at_call 185;refine hP.mono ?_;rintro e w2 ⟨rfl,hI2,hf2⟩;unfold varV)
            | (go_at_call 188;refine (oJoin _ _ _).mono ?_;rintro e w6 ⟨rfl,hw6⟩;rw [hw6])
          go_ret
          exact EX.mkOk HB.out rfl (hI2.alloc _) ((hF0.trans hf2).alloc _)
    · have hn16:k≠16:=fun e=>h1617 (.inl e)
      have hn17:k≠17:=fun e=>h1617 (.inr e)
      by_cases h18:k=18
      · subst h18
        have hx:=hlong (by simp)
        have hP:=oCall E L 18 x m ks _ _ ctx at_ false hkids hx hv0 hI0 h0 (by omega) ih
        have HZ2:Hid (Z=match clP kf ctx false x at_ (exL E L ctx ks (at_+1)) with
            | .bad c b=>Res.bad c b
            | .ok q=>.ok (q.1.given,q.2)):=by
          show _=_
          rw [← HZ.out]
          exact hA.call hx
        clear HZ ih hk hv0 hex
        generalize clP kf ctx false x at_ (exL E L ctx ks (at_+1))=Y at *
        cases Y with
        | bad cc bb =>
          have HB:Hid (Z=.bad cc bb):=HZ2.out
          go_enter Tryz.func159,Tryz.ntmps159
          go_wp2_with (go_at_call 186;refine hP.mono ?_;rintro e w2 ⟨rfl,hb2⟩)
          exact ⟨rfl,EX.mkBad HB.out hb2⟩
        | ok q =>
          obtain ⟨p,a2⟩:=q
          have HB:Hid (Z=.ok (p.given,a2)):=HZ2.out
          go_enter Tryz.func159,Tryz.ntmps159
          go_wp2_with (go_at_call 186;refine hP.mono ?_;rintro e w2 ⟨⟨z,rfl⟩,hI2,hf2⟩;unfold procV;have hf6:=field6 (.string p.name) (.bool p.pub) z (.int .i64 p.writes) (.bool p.gives) (.int .i64 p.given) w2)
          go_ret
          exact EX.mkOk HB.out rfl hI2 (hF0.trans hf2)
      · have hcp:=cntL_pos ks
        have hBg:=hI0.begin h0 (by omega)
        have hd:=h.lt
        have hlen:=len_cnt ks
        obtain ⟨R,hR⟩:∃ R,exL E L ctx ks (at_+1)=R:=⟨_,rfl⟩
        have HR:Hid (exL E L ctx ks (at_+1)=R):=hR
        clear hR
        go_enter Tryz.func159,Tryz.ntmps159
        go_wp2_with (go_at_call 81;refine hBg.mono ?_;rintro e w1 ⟨rfl,hw1⟩;have hI1:CS w0 w1 D Kb kn kf vs u (at_+1):=by { rw [hw1];exact hI0.setAt _ };have hQ1:Q4 w.heap.size (.int .i64 k) (.string x) (.int .i64 m) (.slice a ks.length c) w1:=by { rw [hw1];exact Q4.other (by omega) ⟨by simp,by simp,by simp,by simp⟩ _ _ };have hF1:Fr D w w1:=by { rw [hw1];exact ((Fr.refl _ _).alloc _).set _ _ };clear hw1;obtain ⟨q0,q1,q2,q3⟩:=id hQ1)
        clear hI0 hBg q0 q1 q2 q3 h hB0 hF0
        go_loopw [9,40] (fun lb t wr=>∃ (j:Nat) (ls:List Int),j≤ks.length∧t=.int .i64 j∧lb=.int .i64 (joinL ls 0)∧Fr D w wr∧w.heap.size+1≤wr.heap.size∧Q4 w.heap.size (.int .i64 k) (.string x) (.int .i64 m) (.slice a ks.length c) wr∧CS w0 wr D Kb kn kf vs u (at_+1+cntL (ks.take j))∧Hid (R=preR ls (exL E L ctx (ks.drop j) (at_+1+cntL (ks.take j))))) (fun _ t _=>ks.length - (intOf t).toNat)
        case atStart =>
          have hz:=World.block_lt_of_cell? w1 ⟨w.heap.size,0,none⟩ hQ1.1
          refine ⟨0,[],Nat.zero_le _,rfl,rfl,hF1,hz,hQ1,by simpa [cntL] using hI1,?_⟩
          show _=_
          rw [← HR.out,List.drop_zero]
          simp only [List.take_zero,cntL,Int.add_zero]
          cases exL E L ctx ks (at_+1) with
          | bad c b=>rfl
          | ok q=>rfl
        case round =>
          clear hI1 hQ1 hF1
          obtain ⟨j,ls,hj,rfl,rfl,hFr,hsz,hQ,hI,HRR⟩:=hrel
          obtain ⟨q0,q1,q2,q3⟩:=id hQ
          by_cases hlt:j<ks.length
          · obtain ⟨g,o,rfl,hg,hat⟩:=hk (by intro e;rw [e] at hlt;simp at hlt)
            obtain ⟨v1,⟨x0,x1,x2,x3,rfl,c0,c1',c2,c3⟩,hlk⟩:=hat.get j hlt
            obtain ⟨kk,xx,mm,_,he,aa,na,ca,rfl⟩:=hlk.shape
            injection he with he
            simp only [Array.mk.injEq,List.cons.injEq,and_true] at he
            obtain ⟨rfl,rfl,rfl,rfl⟩:=he
            have k0:=(hI.bs.cell (p:=⟨g,o+j * 4,none⟩) hg).trans c0
            have k1:=(hI.bs.cell (p:=⟨g,o+j * 4+1,none⟩) hg).trans c1'
            have k2:=(hI.bs.cell (p:=⟨g,o+j * 4+2,none⟩) hg).trans c2
            have k3:=(hI.bs.cell (p:=⟨g,o+j * 4+3,none⟩) hg).trans c3
            have hs1:=cntL_take ks j hlt
            have hs2:=cntL_take_le ks (j+1)
            have hs3:=cntT_pos ks[j]
            have hs4:=cntL_pos (ks.take j)
            have hI1:=hI.alloc (.cells #[.int .i64 kk,.string xx,.int .i64 mm,.slice aa na ca] 25)
            have hFr1:=hFr.alloc (.cells #[.int .i64 kk,.string xx,.int .i64 mm,.slice aa na ca] 25)
            have hQ1:=Q4.alloc hQ (.cells #[.int .i64 kk,.string xx,.int .i64 mm,.slice aa na ca] 25)
            have hC:=ih j hlt _ _ _ (hkids _ (List.getElem_mem hlt)) hlk hI1 (by omega) (by omega)
            have HP:Hid (R=match exF E L ctx false ks[j] (at_+1+cntL (ks.take j)) with
                | .bad c b=>.bad c b
                | .ok q=>preR (ls++[q.1]) (exL E L ctx (ks.drop (j+1)) q.2)):=HRR.out.trans (preR_step E L ctx ks j hlt ls _)
            have HA:Hid (∀ q,exF E L ctx false ks[j] (at_+1+cntL (ks.take j))=.ok q→q.2=at_+1+cntL (ks.take (j+1))):=fun q hq=>by
              have:=exF_at E L ctx _ _ _ _ hq
              omega
            clear c0 c1' c2 c3 hat hlk hk HRR hs1 hs2 hs3 hs4 ih
            generalize hXX:exF E L ctx false ks[j] (at_+1+cntL (ks.take j))=X at *
            have HA2:Hid (∀ q,X=.ok q→q.2=at_+1+cntL (ks.take (j+1))):=fun q hq=>HA.out q hq
            clear hXX HA
            cases X with
            | bad cc bb =>
              have HRB:Hid (Z=.bad cc bb):=by
                show _=_
                rw [← HZ.out]
                exact exF_bad (HR.out.trans HP.out)
              go_wp2_with (go_at_call 159;refine hC.mono ?_;rintro e w2 ⟨rfl,hb2⟩)
              exact ⟨rfl,EX.mkBad HRB.out hb2⟩
            | ok q =>
              have HRO:Hid (R=preR (ls++[q.1]) (exL E L ctx (ks.drop (j+1)) q.2)):=HP.out
              have HA3:=HA2.out q rfl
              obtain ⟨l1,a1⟩:=q
              dsimp only at HA3 hC
              subst HA3
              go_wp2_with first
                | (go_at_call 159;refine hC.mono ?_;rintro e w2 ⟨rfl,hI2,hf2⟩)
                | (go_at_call 188;refine (oJoin _ _ _).mono ?_;rintro e w6 ⟨rfl,hw6⟩;rw [hw6])
              have hs9:=hf2.size
              rw [World.size_alloc] at hs9
              exact ⟨⟨j+1,ls++[l1],by omega,by simp,by rw [joinL_snoc],hFr1.trans hf2,by omega,Q4.grown hQ1 hf2 (by simp;omega),hI2,HRO.out⟩,by simp [intOf];omega⟩
          · obtain rfl:j=ks.length:=by omega
            have HX:Hid (Z=.ok (joinL ls 0,at_+1+cntL ks)):=by
              show _=_
              have h9:exL E L ctx ks (at_+1)=.ok (ls,at_+1+cntL ks):=by
                rw [HR.out,HRR.out,List.drop_eq_nil_of_le (by omega),List.take_of_length_le (by omega)]
                simp [exL,preR]
              rw [← HZ.out,exF_ok h9,own_else E L ctx k x ls at_ hn16 hn17 h18]
            rw [List.take_of_length_le (by omega)] at hI
            clear ih hk HRR HZ
            go_wp2
            go_ret
            exact EX.mkOk HX.out rfl hI hFr
termination_by SizeOf.sizeOf t
decreasing_by exact kid_lt hj
end
theorem localRes {W:World} {v:VarD} {a0 a1:Value} (tl:List Value) (B:Nat) (h:Boxed4 W B v):(results Tryz.f132 (List.toArray (a0 :: a1 :: .pointer (some ⟨B,0,none⟩) :: tl))).run Tryz.prog W=.ok (varV v) W:=by
  obtain ⟨z0,z1,z2,z3,zf⟩:=h.cells
  unfold varV
  simp [results,Tryz.f132,go_sem,z0,z1,z2,z3]
set_option maxHeartbeats 2000000 in
theorem oLocalOf (k:Int) (x:ByteArray) (m:Int) (a:Option Addr) (n c:Nat) (w:World) :
    Calls Tryz.prog 132 #[.agg #[.int .i64 k,.string x,.int .i64 m,.slice a n c]] w fun e w'=>e=.returned (varV ⟨x,false,bits BinOp.and IntKind.i64 m 1,0⟩)∧Below w.heap.size w w':=by
  have c24:Tryz.prog.cellsOf 25=4:=by kernel_rfl
  have c4:Tryz.prog.cellsOf 76=4:=cell4
  have hL:=fun W=>oLabelOf k x m a n c W
  generalize bits BinOp.and IntKind.i64 m 1=lb at *
  go_enter Tryz.func132,Tryz.ntmps132
  have hq:Q4 w.heap.size (.int .i64 k) (.string x) (.int .i64 m) (.slice a n c) ((w.alloc (.cells #[.int .i64 k,.string x,.int .i64 m,.slice a n c] 25)).alloc (.cells #[.string ⟨#[]⟩,.bool false,.int .i64 0,.int .i64 0] 76)):=⟨by simp,by simp,by simp,by simp⟩
  have hZ:Boxed4 ((w.alloc (.cells #[.int .i64 k,.string x,.int .i64 m,.slice a n c] 25)).alloc (.cells #[.string ⟨#[]⟩,.bool false,.int .i64 0,.int .i64 0] 76)) (w.heap.size+1) zeroVar:=by
    have:=Boxed4.new (w.alloc (.cells #[.int .i64 k,.string x,.int .i64 m,.slice a n c] 25)) zeroVar
    rw [World.size_alloc] at this
    exact this
  have hB:Below w.heap.size w ((w.alloc (.cells #[.int .i64 k,.string x,.int .i64 m,.slice a n c] 25)).alloc (.cells #[.string ⟨#[]⟩,.bool false,.int .i64 0,.int .i64 0] 76)):=((Below.refl _ w).alloc (jE _) _).alloc (by simp) _
  go_wp2
  generalize ((w.alloc (.cells #[.int .i64 k,.string x,.int .i64 m,.slice a n c] 25)).alloc (.cells #[.string ⟨#[]⟩,.bool false,.int .i64 0,.int .i64 0] 76))=W at *
  obtain ⟨q0,q1,q2,q3⟩:=id hq
  obtain ⟨z0,z1,z2,z3,zf⟩:=hZ.cells
  go_region_with (go_at_call 156;refine (hL _).mono ?_;rintro e w2 ⟨rfl,hb2⟩;have hbd:Below W.heap.size W w2:=Below.trans (Below.drew (Below.refl _ _)) hb2;obtain ⟨q0,q1,q2,q3⟩:=id (Q4.below hq hbd);obtain ⟨z0,z1,z2,z3,zf⟩:=(hZ.below hbd hZ.lt).cells;have zf0:=zf 0;have zf1:=zf 1;have zf2:=zf 2;have zf3:=zf 3)
  all_goals
    have hP:=(hZ.below hbd hZ.lt).put ⟨x,false,lb,0⟩
    have hB2:=below_set4 (M:=w.heap.size+1) (hB.trans (hbd.mono hB.size)) (by omega) (.string x) (.bool false) (.int .i64 lb) (.int .i64 0)
    go_wp2
    refine bodyPost_ret (v:=varV ⟨x,false,lb,0⟩) (localRes _ _ hP) rfl ?_
    exact ⟨rfl,hB2⟩
end Go.Proofs.YtfopddgjdaoidaaGreatDoor.chk
namespace Go.Proofs.YtfopddgjdaoidaaGreatDoor.face
open Go.RowKit Go.Maps
theorem FR.grown' {X:Nat→Prop} {B:Nat} {w w':World} {vv pv:Value} {V:List VarD} {P:List (ProcD × Value)} {row:Option Nat} (h:FR X B w vv pv V P) (hg:w.grownBy w' row) (hr:∀ b,row=some b→vv.ownBlock≠some b∧pv.ownBlock≠some b∧b<B):FR X B w' vv pv V P:=by
  have hv:vv.ownBlock=none∨vv.ownBlock≠row:=by
    cases e:vv.ownBlock with
    | none=>exact .inl rfl
    | some b=>exact .inr (fun e2=>(hr b e2.symm).1 e)
  have hp:pv.ownBlock=none∨pv.ownBlock≠row:=by
    cases e:pv.ownBlock with
    | none=>exact .inl rfl
    | some b=>exact .inr (fun e2=>(hr b e2.symm).2.1 e)
  refine ⟨h.ov.kept hg hv,h.op.kept hg hp,fun q hq=>?_,h.dj,h.xv,h.xp⟩
  exact (h.par q hq).to (fun b hb=>⟨hb.1,Nat.lt_of_lt_of_le hb.2.1 hg.size,hb.2.2⟩) (fun b hb o v hc=>cell_grown hg hc (fun e=>by have h1:=(hr b e).2.2;have h2:=hb.1;omega))
abbrev SetIn (w:World) (b:Nat) (l:List ByteArray):Prop:=w.ownsMap Tryz.prog 9 (unitElem (H:=Unit)) b l.length (setD l)
structure DC (w:World) (D:Nat) (x0 x1 x2 x3 x4 x5 x6 x7:Value):Prop where
  c0:w.cell? ⟨D,0,none⟩=some x0
  c1:w.cell? ⟨D,1,none⟩=some x1
  c2:w.cell? ⟨D,2,none⟩=some x2
  c3:w.cell? ⟨D,3,none⟩=some x3
  c4:w.cell? ⟨D,4,none⟩=some x4
  c5:w.cell? ⟨D,5,none⟩=some x5
  c6:w.cell? ⟨D,6,none⟩=some x6
  c7:w.cell? ⟨D,7,none⟩=some x7
  fz:∀ k,w.frozen? ⟨D,k,none⟩=false
section
variable {w w':World} {D:Nat} {x0 x1 x2 x3 x4 x5 x6 x7:Value}
theorem DC.lt (h:DC w D x0 x1 x2 x3 x4 x5 x6 x7):D<w.heap.size:=World.block_lt_of_cell? w ⟨D,0,none⟩ h.c0
theorem DC.block (h:DC w D x0 x1 x2 x3 x4 x5 x6 x7) (hb:w'.heap[D]?=w.heap[D]?):DC w' D x0 x1 x2 x3 x4 x5 x6 x7 :=
  ⟨(World.cell?_of_block (a:=⟨D,0,none⟩) hb).trans h.c0,(World.cell?_of_block (a:=⟨D,1,none⟩) hb).trans h.c1,(World.cell?_of_block (a:=⟨D,2,none⟩) hb).trans h.c2,(World.cell?_of_block (a:=⟨D,3,none⟩) hb).trans h.c3,(World.cell?_of_block (a:=⟨D,4,none⟩) hb).trans h.c4,(World.cell?_of_block (a:=⟨D,5,none⟩) hb).trans h.c5,(World.cell?_of_block (a:=⟨D,6,none⟩) hb).trans h.c6,(World.cell?_of_block (a:=⟨D,7,none⟩) hb).trans h.c7,
    fun k=>(World.frozen?_of_block (a:=⟨D,k,none⟩) hb).trans (h.fz k)⟩
theorem DC.grown {row:Option Nat} (h:DC w D x0 x1 x2 x3 x4 x5 x6 x7) (hg:w.grownBy w' row) (hne:row≠some D):DC w' D x0 x1 x2 x3 x4 x5 x6 x7:=h.block (hg.block D h.lt (fun e=>hne e.symm))
theorem frozen_set {w:World} {D k o:Nat} {v:Value} (h:∀ k,w.frozen? ⟨D,k,none⟩=false):(w.setCell ⟨D,o,none⟩ v).frozen? ⟨D,k,none⟩=false:=by simp [h k]
theorem DC.set0 (h:DC w D x0 x1 x2 x3 x4 x5 x6 x7) (v:Value):DC (w.setCell ⟨D,0,none⟩ v) D v x1 x2 x3 x4 x5 x6 x7 :=
  ⟨World.cell?_setCell_same _ _ _ h.c0,by rw [jD _ _ _ _ (by simp)];exact h.c1,by rw [jD _ _ _ _ (by simp)];exact h.c2,by rw [jD _ _ _ _ (by simp)];exact h.c3,by rw [jD _ _ _ _ (by simp)];exact h.c4,by rw [jD _ _ _ _ (by simp)];exact h.c5,by rw [jD _ _ _ _ (by simp)];exact h.c6,by rw [jD _ _ _ _ (by simp)];exact h.c7,fun k=>frozen_set h.fz⟩
theorem DC.set1 (h:DC w D x0 x1 x2 x3 x4 x5 x6 x7) (v:Value):DC (w.setCell ⟨D,1,none⟩ v) D x0 v x2 x3 x4 x5 x6 x7 :=
  ⟨by rw [jD _ _ _ _ (by simp)];exact h.c0,World.cell?_setCell_same _ _ _ h.c1,by rw [jD _ _ _ _ (by simp)];exact h.c2,by rw [jD _ _ _ _ (by simp)];exact h.c3,by rw [jD _ _ _ _ (by simp)];exact h.c4,by rw [jD _ _ _ _ (by simp)];exact h.c5,by rw [jD _ _ _ _ (by simp)];exact h.c6,by rw [jD _ _ _ _ (by simp)];exact h.c7,fun k=>frozen_set h.fz⟩
theorem DC.set2 (h:DC w D x0 x1 x2 x3 x4 x5 x6 x7) (v:Value):DC (w.setCell ⟨D,2,none⟩ v) D x0 x1 v x3 x4 x5 x6 x7 :=
  ⟨by rw [jD _ _ _ _ (by simp)];exact h.c0,by rw [jD _ _ _ _ (by simp)];exact h.c1,World.cell?_setCell_same _ _ _ h.c2,by rw [jD _ _ _ _ (by simp)];exact h.c3,by rw [jD _ _ _ _ (by simp)];exact h.c4,by rw [jD _ _ _ _ (by simp)];exact h.c5,by rw [jD _ _ _ _ (by simp)];exact h.c6,by rw [jD _ _ _ _ (by simp)];exact h.c7,fun k=>frozen_set h.fz⟩
theorem DC.set3 (h:DC w D x0 x1 x2 x3 x4 x5 x6 x7) (v:Value):DC (w.setCell ⟨D,3,none⟩ v) D x0 x1 x2 v x4 x5 x6 x7 :=
  ⟨by rw [jD _ _ _ _ (by simp)];exact h.c0,by rw [jD _ _ _ _ (by simp)];exact h.c1,by rw [jD _ _ _ _ (by simp)];exact h.c2,World.cell?_setCell_same _ _ _ h.c3,by rw [jD _ _ _ _ (by simp)];exact h.c4,by rw [jD _ _ _ _ (by simp)];exact h.c5,by rw [jD _ _ _ _ (by simp)];exact h.c6,by rw [jD _ _ _ _ (by simp)];exact h.c7,fun k=>frozen_set h.fz⟩
theorem DC.set6 (h:DC w D x0 x1 x2 x3 x4 x5 x6 x7) (v:Value):DC (w.setCell ⟨D,6,none⟩ v) D x0 x1 x2 x3 x4 x5 v x7 :=
  ⟨by rw [jD _ _ _ _ (by simp)];exact h.c0,by rw [jD _ _ _ _ (by simp)];exact h.c1,by rw [jD _ _ _ _ (by simp)];exact h.c2,by rw [jD _ _ _ _ (by simp)];exact h.c3,by rw [jD _ _ _ _ (by simp)];exact h.c4,by rw [jD _ _ _ _ (by simp)];exact h.c5,World.cell?_setCell_same _ _ _ h.c6,by rw [jD _ _ _ _ (by simp)];exact h.c7,fun k=>frozen_set h.fz⟩
theorem DC.set7 (h:DC w D x0 x1 x2 x3 x4 x5 x6 x7) (v:Value):DC (w.setCell ⟨D,7,none⟩ v) D x0 x1 x2 x3 x4 x5 x6 v :=
  ⟨by rw [jD _ _ _ _ (by simp)];exact h.c0,by rw [jD _ _ _ _ (by simp)];exact h.c1,by rw [jD _ _ _ _ (by simp)];exact h.c2,by rw [jD _ _ _ _ (by simp)];exact h.c3,by rw [jD _ _ _ _ (by simp)];exact h.c4,by rw [jD _ _ _ _ (by simp)];exact h.c5,by rw [jD _ _ _ _ (by simp)];exact h.c6,World.cell?_setCell_same _ _ _ h.c7,fun k=>frozen_set h.fz⟩
end
structure DI (w:World) (D Bm Bd:Nat) (mp:Option Nat) (vv pv iv:Value) (m:ByteArray) (V:List VarD) (P:List (ProcD × Value)) (is ms ns qs:List ByteArray) (a:Int):Prop where
  dc:DC w D (.string m) vv pv iv (.map (some Bm)) (.map (some Bd)) (.map mp) (.int .i64 a)
  lm:Bm<Bd
  ld:Bd<D
  lp:∀ b,mp=some b→D<b
  fr:FR (fun b=>iv.ownBlock=some b∨mp=some b) (D+1) w vv pv V P
  oi:w.ownsRow (D+1) 9 1 iv is.length (strV is)
  xi:∀ b,iv.ownBlock=some b→mp≠some b
  om:SetIn w Bm ms
  am:apartB [] ms=true
  od:SetIn w Bd ns
  ad:apartB [] ns=true
  op:∀ b,mp=some b→SetIn w b qs
  aq:apartB [] qs=true
section
variable {w w':World} {D Bm Bd:Nat} {mp:Option Nat} {vv pv iv:Value} {m:ByteArray} {V:List VarD} {P:List (ProcD × Value)} {is ms ns qs:List ByteArray} {a:Int}
theorem DI.below (h:DI w D Bm Bd mp vv pv iv m V P is ms ns qs a) (hb:Below w.heap.size w w'):DI w' D Bm Bd mp vv pv iv m V P is ms ns qs a :=
  have hg:w.grownBy w' none:=⟨hb.os,hb.tape,hb.output,hb.size,fun j hj _=>hb.block j hj⟩
  ⟨h.dc.grown hg (by simp),h.lm,h.ld,h.lp,h.fr.below hb,own_keep h.oi hb,h.xi,h.om.kept hg (by simp),h.am,h.od.kept hg (by simp),h.ad,fun b e=>(h.op b e).kept hg (by simp),h.aq⟩
theorem own_lt (h:DI w D Bm Bd mp vv pv iv m V P is ms ns qs a):(∀ b,iv.ownBlock=some b→D<b)∧(∀ b,vv.ownBlock=some b→D<b)∧(∀ b,pv.ownBlock=some b→D<b) :=
  ⟨fun b e=>by have:=(h.oi.lt _ e).1;omega,fun b e=>by have:=(h.fr.ov.lt _ e).1;omega,fun b e=>by have:=(h.fr.op.lt _ e).1;omega⟩
theorem DI.enterM (h:DI w D Bm Bd mp vv pv iv m V P is ms ns qs a) {x:ByteArray} (ho:SetIn w' Bm (ms++[x])) (ha:apartB [] (ms++[x])=true) (hg:w.grownBy w' (some Bm)):DI w' D Bm Bd mp vv pv iv m V P is (ms++[x]) ns qs a:=by
  have hm:=h.lm
  have hd:=h.ld
  obtain ⟨li,lv,lpv⟩:=own_lt h
  refine ⟨h.dc.grown hg (by simp;omega),h.lm,h.ld,h.lp,?_,h.oi.kept hg ?_,h.xi,ho,ha,h.od.kept hg (by simp;omega),h.ad,fun b e=>(h.op b e).kept hg (by have:=h.lp b e;simp;omega),h.aq⟩
  · exact FR.grown' h.fr hg (fun b e=>by cases e;exact ⟨fun e=>by have:=lv _ e;omega,fun e=>by have:=lpv _ e;omega,by omega⟩)
  · cases e:iv.ownBlock with
    | none=>exact .inl rfl
    | some b=>exact .inr (by have:=li b e;simp;omega)
end
end Go.Proofs.YtfopddgjdaoidaaGreatDoor.face
