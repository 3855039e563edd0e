/- What tokens look like; and when a text is a NAME, told by its tokens. No Go in sight. -/
import Derived.Test.YtfopddgjdaoidaaGreatDoorNM42
import Derived.Test.YtfopddgjdaoidaaGreatDoorNM45
set_option linter.unusedVariables false
set_option linter.unusedSimpArgs false
set_option maxRecDepth 100000
namespace Go.Proofs.YtfopddgjdaoidaaGreatDoor.chk
open Go.RowKit Go.Shelf Go.Maps
open syn face
section
variable {w w':World}
set_option maxHeartbeats 200000 in
theorem gcatch_idle (p:Addr) (w:World) :
    CallsD Tryz.prog 41 #[.pointer (some p)] .returning w fun e u' w'=>e=.returned (.tuple #[])∧u'=.returning∧w'=w:=by
  have hnn:∀ w:World,(binOp BinOp.eql 20 .nilIface .nilIface).run Tryz.prog w=.ok (.bool true) w:=fun _=>by kernel_rfl
  refine callsD_of_wpS Tryz.func41 rfl fun c₀ cs hu=>?_
  refine recover_none (by simp [recoverD,hu]) ?_
  simp only [Tryz.ntmps41,List.size_toArray,List.length_cons,List.length_nil,Nat.reduceAdd,Nat.reduceSub,Array.replicate_succ,Array.replicate_zero,List.push_toArray,List.append_toArray,List.nil_append,List.cons_append,Act.put,List.setIfInBounds_toArray,List.set_cons_succ,List.set_cons_zero]
  refine wpS_of_wp (wp_mono (Q:=fun e a w'=>e=.normal∧a.defers=[]∧w'=w) ?_ ?_)
  · go_wp2
  · rintro e a w' ⟨rfl,h1,rfl⟩
    exact ⟨h1,_,rfl,.tuple #[],by simp [results,Tryz.results41],rfl,hu,rfl⟩
set_option maxHeartbeats 1000000 in
theorem gcatch (fb:Nat) (c a:Int) (w:World) (h0:w.cell? ⟨fb,0,none⟩=some (.int .i64 0)) (h1:w.cell? ⟨fb,1,none⟩=some (.int .i64 0)) (f0:w.frozen? ⟨fb,0,none⟩=false) (f1:w.frozen? ⟨fb,1,none⟩=false) (hfb:fb<w.heap.size) :
    CallsD Tryz.prog 41 #[.pointer (some ⟨fb,0,none⟩)] (.panicking (Thrown c a)) w fun e u' w'=>e=.returned (.tuple #[])∧u'=.panicking [{ v:=.iface 28 (.agg #[.int .i64 c,.int .i64 a]),recovered:=true }]∧w'.cell? ⟨fb,0,none⟩=some (.int .i64 c)∧w'.cell? ⟨fb,1,none⟩=some (.int .i64 a)∧Fr fb w w':=by
  have c27:Tryz.prog.cellsOf 28=2:=by kernel_rfl
  have hnn:∀ w:World,(binOp BinOp.eql 20 (.iface 28 (.agg #[.int .i64 c,.int .i64 a])) .nilIface).run Tryz.prog w=.ok (.bool false) w:=fun _=>by kernel_rfl
  have hta:∀ w:World,(Instr.typeAssert (.iface 28 (.agg #[.int .i64 c,.int .i64 a])) 20 28 true).run Tryz.prog w=.ok (.tuple #[.agg #[.int .i64 c,.int .i64 a],.bool true]) w:=fun _=>by kernel_rfl
  unfold Thrown
  refine callsD_of_wpS Tryz.func41 rfl fun c₀ cs hu=>?_
  refine recover_some (v:=.iface 28 (.agg #[.int .i64 c,.int .i64 a])) (cs':={ c₀ with mode:=.panicking [{ v:=.iface 28 (.agg #[.int .i64 c,.int .i64 a]),recovered:=true }] } :: cs) (by simp [recoverD,hu]) ?_
  simp only [Tryz.ntmps41,List.size_toArray,List.length_cons,List.length_nil,Nat.reduceAdd,Nat.reduceSub,Array.replicate_succ,Array.replicate_zero,List.push_toArray,List.append_toArray,List.nil_append,List.cons_append,Act.put,List.setIfInBounds_toArray,List.set_cons_succ,List.set_cons_zero]
  refine wpS_of_wp (wp_mono (Q:=fun e q w'=>e=.normal∧q.defers=[]∧w'.cell? ⟨fb,0,none⟩=some (.int .i64 c)∧w'.cell? ⟨fb,1,none⟩=some (.int .i64 a)∧Fr fb w w') ?_ ?_)
  · go_wp2
    exact (((Fr.refl _ _).set _ _).set _ _).alloc _
  · rintro e q w' ⟨rfl,h1,h2,h3,h4⟩
    exact ⟨h1,_,rfl,.tuple #[],by simp [results,Tryz.results41],rfl,rfl,h2,h3,h4⟩
def GO (w:World) (r:Option (Int × Int)) (e:Ending) (w':World):Prop:=e=.returned (.agg #[.int .i64 (r.getD (0,0)).1,.int .i64 (r.getD (0,0)).2])∧Below w.heap.size w w'
set_option maxHeartbeats 4000000 in
theorem oGoOver {Gb gn:Nat} {gf:ByteArray→Option FV} (given:List FaceD) (m:ByteArray) (K:List Kid) (v:Value) (w:World) (hG:∀ z,(gf z).map (·.1)=given.find? (fun f=>eqS f.module z)) (hGi:∀ z q,gf z=some q→FaceIn w (fvV q) q.1) (hGok:∀ f ∈ given,FaceOk f) (mg:MapF w Gb gn (fun z=>fvO (gf z))) (hmx:HasMax w)
    (hv:Lies (·<w.heap.size) w (.node 1 m 0 (K.map Kid.tree)) v) (hKl:K.length≤900) (hgood:∀ k ∈ K,k.good∧kidOk k) (hps:∀ k ∈ K,k.kids.length≤1000) (hcnt:cntL (K.map Kid.tree)≤900000) (hown:FaceOk (faceK true m K)) :
    Calls Tryz.prog 21 #[v,.map (some Gb)] w (GO w (moF (faceK true m K) given K [] 1)):=by
  have c24:Tryz.prog.cellsOf 25=4:=by kernel_rfl
  have c27:Tryz.prog.cellsOf 28=2:=by kernel_rfl
  have c8:Tryz.prog.cellsOf 89=8:=by kernel_rfl
  have hmm0:=@run_makeMap Tryz.prog
  have hmf:∀ (fn:Fn) (first cap:Array Value) (w:World),(Instr.makeFunc fn first cap).run Tryz.prog w=.ok (.func fn first cap) w:=fun _ _ _ _=>rfl
  unfold Lies at hv
  obtain ⟨a,c,rfl,_,hk⟩:=hv
  rw [List.length_map] at *
  have hKs:K≠[]→∃ g o,a=some ⟨g,o,none⟩∧g<w.heap.size∧LiesAt (·<w.heap.size) w (K.map Kid.tree) g o:=fun hne=>hk (by simpa using hne)
  clear hk
  obtain ⟨w4,hw4⟩:∃ w4,w4=((((w.alloc (.cells #[.int .i64 1,.string m,.int .i64 0,.slice a K.length c] 25)).alloc (.cells #[.int .i64 0,.int .i64 0] 28)).alloc (.map #[] 0)).alloc (.cells #[.int .i64 1,.string m,.int .i64 0,.slice a K.length c,.map (some Gb),.map (some (w.heap.size+1+1)),.slice none 0 0,.int .i64 0] 89)):=⟨_,rfl⟩
  have hs3:(((w.alloc (.cells #[.int .i64 1,.string m,.int .i64 0,.slice a K.length c] 25)).alloc (.cells #[.int .i64 0,.int .i64 0] 28)).alloc (.map #[] 0)).heap.size=w.heap.size+1+1+1:=by simp
  have hb4:Below w.heap.size w w4:=by rw [hw4];exact ((((Below.refl _ _).alloc (jE _) _).alloc (by simp) _).alloc (by simp;omega) _).alloc (by simp;omega) _
  have hbox:BoxC w4 (w.heap.size+1+1+1) #[.int .i64 1,.string m,.int .i64 0,.slice a K.length c,.map (some Gb),.map (some (w.heap.size+1+1)),.slice none 0 0,.int .i64 0] 89:=by
    have:=BoxC.new (((w.alloc (.cells #[.int .i64 1,.string m,.int .i64 0,.slice a K.length c] 25)).alloc (.cells #[.int .i64 0,.int .i64 0] 28)).alloc (.map #[] 0)) #[.int .i64 1,.string m,.int .i64 0,.slice a K.length c,.map (some Gb),.map (some (w.heap.size+1+1)),.slice none 0 0,.int .i64 0] 89
    rw [hs3] at this
    rw [hw4]
    exact this
  have bG:Box2 w4 (w.heap.size+1) (.int .i64 0) (.int .i64 0):=by
    have:=Box2.new (w.alloc (.cells #[.int .i64 1,.string m,.int .i64 0,.slice a K.length c] 25)) (.int .i64 0) (.int .i64 0) 28
    rw [World.size_alloc] at this
    rw [hw4]
    have hb:=((Below.refl ((w.alloc (.cells #[.int .i64 1,.string m,.int .i64 0,.slice a K.length c] 25)).alloc (.cells #[.int .i64 0,.int .i64 0] 28)).heap.size ((w.alloc (.cells #[.int .i64 1,.string m,.int .i64 0,.slice a K.length c] 25)).alloc (.cells #[.int .i64 0,.int .i64 0] 28))).alloc (jE _) (.map #[] 0)).alloc (by simp) (.cells #[.int .i64 1,.string m,.int .i64 0,.slice a K.length c,.map (some Gb),.map (some (w.heap.size+1+1)),.slice none 0 0,.int .i64 0] 89)
    exact this.below hb
  have hmp:MapF w4 (w.heap.size+1+1) 0 (fun _=>none):=by
    have:=MapF.made ((w.alloc (.cells #[.int .i64 1,.string m,.int .i64 0,.slice a K.length c] 25)).alloc (.cells #[.int .i64 0,.int .i64 0] 28))
    rw [World.size_alloc,World.size_alloc] at this
    rw [hw4]
    exact this.below ((Below.refl _ _).alloc (jE _) _)
  obtain ⟨w2,hw2⟩:∃ w2,w2=((w.alloc (.cells #[.int .i64 1,.string m,.int .i64 0,.slice a K.length c] 25)).alloc (.cells #[.int .i64 0,.int .i64 0] 28)):=⟨_,rfl⟩
  have hs2:w2.heap.size=w.heap.size+1+1:=by rw [hw2];simp
  have hb2:Below w.heap.size w w2:=by rw [hw2];exact ((Below.refl _ _).alloc (jE _) _).alloc (by simp) _
  have hb24:Below w2.heap.size w2 w4:=by rw [hw4,hw2];exact ((Below.refl _ _).alloc (jE _) _).alloc (by simp) _
  have h0:M0 w2 w4 (w.heap.size+1+1+1) Gb (w.heap.size+1+1) gn gf m a K.length c 0 :=
    ⟨hb24,by omega,hbox.cell 1 rfl,hbox.cell 3 rfl,hbox.cell 4 rfl,hbox.cell 5 rfl,hbox.cell 6 rfl,hbox.cell 7 rfl,fun k=>hbox.fz k,hmp,by omega,by omega,hasMax_below hmx hb2,mg.below hb2⟩
  have hM:=oModule given hG (fun z q hq=>(hGi z q hq).below hb2) hGok m K a c w4 h0 (fun hne=>by
    obtain ⟨g,o,e,hg,hat⟩:=hKs hne
    exact ⟨g,o,e,by omega,LiesAt.below hg hat hb2⟩) hKl hgood hps hcnt hown
  clear h0 hmp hbox hKs hG hGi hGok
  have bG2:Box2 w2 (w.heap.size+1) (.int .i64 0) (.int .i64 0):=by
    have:=Box2.new (w.alloc (.cells #[.int .i64 1,.string m,.int .i64 0,.slice a K.length c] 25)) (.int .i64 0) (.int .i64 0) 28
    rw [World.size_alloc] at this
    rw [hw2]
    exact this
  clear hw2 hb4 bG
  generalize moF (faceK true m K) given K [] 1=R at *
  go_enter_defers Tryz.func21,Tryz.ntmps21
  go_wp2_with (fail)
  rw [← hw4]
  refine hM.mono ?_
  clear hw4 hM hb24
  rintro e w5 ⟨hb5,hq⟩
  have bG5:=bG2.below hb5
  have hz:=bG5.lt
  have HK:Hid (Below w.heap.size w w5):=hb2.trans (hb5.mono hb2.size)
  cases R with
  | some q =>
    obtain rfl:e=.panicked (Thrown q.1 q.2):=hq
    have key:=gcatch (w.heap.size+1) q.1 q.2 w5 bG5.c0 bG5.c1 bG5.f0 bG5.f1 hz
    clear hb5
    go_wp2
    refine leaves_cons (f:=41) (args:=#[.pointer (some ⟨w.heap.size+1,0,none⟩)]) (by simp) (by simp [go_sem]) ?_
    refine key.mono ?_
    rintro e u' w6 ⟨rfl,rfl,c0,c1,hF6⟩
    have HK6:Below w.heap.size w w6:=⟨hF6.os.trans HK.out.os,hF6.tape.trans HK.out.tape,hF6.output.trans HK.out.output,Nat.le_trans HK.out.size hF6.size,fun j hj=>(hF6.block j (by have:=HK.out.size;omega) (by simp;omega)).trans (HK.out.block j hj)⟩
    refine ⟨.agg #[.int .i64 q.1,.int .i64 q.2],?_,?_⟩
    · simp [results,Tryz.results21,go_sem,c0,c1]
    · exact ⟨rfl,HK6⟩
  | none =>
    obtain rfl:e=.returned (.tuple #[]):=hq
    obtain ⟨s0,s1,s2,s3⟩:=id bG5
    have HK6:Hid (Below w.heap.size w ((w5.setCell ⟨w.heap.size+1,0,none⟩ (.int .i64 0)).setCell ⟨w.heap.size+1,1,none⟩ (.int .i64 0))):=(HK.out.setCell (Nat.le_succ _) _).setCell (Nat.le_succ _) _
    clear hb5
    go_wp2
    refine leaves_cons (f:=41) (args:=#[.pointer (some ⟨w.heap.size+1,0,none⟩)]) (by simp) (by simp [go_sem]) ?_
    refine (gcatch_idle _ _).mono ?_
    rintro e u' w6 ⟨rfl,rfl,hw6⟩
    subst hw6
    refine ⟨.agg #[.int .i64 0,.int .i64 0],?_,?_⟩
    · simp [results,Tryz.results21,go_sem,s0,s1]
    · exact ⟨rfl,HK6.out⟩
end
end Go.Proofs.YtfopddgjdaoidaaGreatDoor.chk
namespace Go.Proofs.YtfopddgjdaoidaaGreatDoor.face
open Go.RowKit Go.Maps
open syn
theorem hasBoth_below {w w':World} (h:HasBoth w) (hb:Below w.heap.size w w'):HasBoth w':=⟨lexs.hasErr_below h.1 hb,hasOps_below h.2 hb⟩
theorem DeclOut.res {w:World} {m:ByteArray} {K:List Kid} {e:Ending} {w':World} (h:DeclOut w m K e w') :
    (match lookK m K [] [] 1 with
      | some e=>OfRes w noFace [] e.1 e.2
      | none=>OfRes w (faceK false m K) (importsK K) 0 0) e w':=by
  unfold DeclOut at h
  rw [lookD_is] at h
  cases hl:lookK m K [] [] 1 with
  | some q =>
    rw [hl] at h
    exact ⟨_,_,h.1,noFace_in _,noStrs_in _,h.2⟩
  | none =>
    rw [hl] at h
    obtain ⟨X,B,vv,pv,iv,P,hB,he,hF,hP,hn,hi,hb⟩:=h
    have hV:=varsN_len false K
    have hPl:P.length≤1000:=by have h1:=congrArg List.length hP;have h2:=procsN_len false K;rw [List.length_map] at h1;omega
    refine ⟨_,_,he,?_,strs_own hi,hb⟩
    have:=hF.face (m:=m) (by omega) hPl
    rw [hP] at this
    exact this
set_option maxHeartbeats 4000000 in
theorem oOf_bad (x:ByteArray) (w:World) (hH:HasBoth w) (hc:(parse x).code≠0) :
    Calls Tryz.prog 16 #[.string x] w (OfRes w noFace [] (parse x).code (parse x).place):=by
  have c24:Tryz.prog.cellsOf 25=4:=by kernel_rfl
  have c27:Tryz.prog.cellsOf 28=2:=by kernel_rfl
  have c3:Tryz.prog.cellsOf 44=3:=cell3
  have hB:=Joins.below_alloc2 w (.cells #[.string ⟨#[]⟩,.slice none 0 0,.slice none 0 0] 44) (.cells #[.int .i64 0,.int .i64 0] 28)
  have hP:=oparse x ((w.alloc (.cells #[.string ⟨#[]⟩,.slice none 0 0,.slice none 0 0] 44)).alloc (.cells #[.int .i64 0,.int .i64 0] 28)) (hasBoth_below hH hB)
  unfold PsOut at hP
  have hcb:((parse x).code==0)=false:=beq_false_of_ne hc
  have hcn:((parse x).code != 0)=true:=by simp [bne,hcb]
  generalize (parse x).code=cc at hP hc hcb hcn
  generalize (parse x).place=pp at hP
  generalize (parse x).tree=tt at hP
  have bF:=(Box3.new w (.string ⟨#[]⟩) (.slice none 0 0) (.slice none 0 0) 44).alloc (.cells #[.int .i64 0,.int .i64 0] 28)
  have bG:=Box2.new (w.alloc (.cells #[.string ⟨#[]⟩,.slice none 0 0,.slice none 0 0] 44)) (.int .i64 0) (.int .i64 0) 28
  rw [World.size_alloc] at bG
  go_enter Tryz.func16,Tryz.ntmps16
  go_wp2_with (go_at_call 12;refine hP.mono ?_;rintro e w1 ⟨v,rfl,hly,hb1⟩;obtain ⟨k0,x0,m0,a0,n0,d0,rfl⟩:=lies_shape hly;have bF1:=((bF.below hb1).alloc (.cells #[.int .i64 k0,.string x0,.int .i64 m0,.slice a0 n0 d0] 25)).alloc (.cells #[.int .i64 cc,.int .i64 pp] 28);have bG1:=((bG.below hb1).alloc (.cells #[.int .i64 k0,.string x0,.int .i64 m0,.slice a0 n0 d0] 25)).alloc (.cells #[.int .i64 cc,.int .i64 pp] 28);have hB2:=(hB.trans (hb1.mono hB.size)).trans ((Joins.below_alloc2 w1 (.cells #[.int .i64 k0,.string x0,.int .i64 m0,.slice a0 n0 d0] 25) (.cells #[.int .i64 cc,.int .i64 pp] 28)).mono (hB.trans (hb1.mono hB.size)).size);obtain ⟨t0,t1,t2,t3,t4,t5⟩:=id bF1;obtain ⟨s0,s1,s2,s3⟩:=id bG1)
  have hsz:w.heap.size+1<w1.heap.size:=(bG.below hb1).lt
  go_region
  all_goals
    go_wp2
    refine bodyPost_ret (v:=.tuple #[.agg #[.string ⟨#[]⟩,.slice none 0 0,.slice none 0 0],.slice none 0 0,.agg #[.int .i64 cc,.int .i64 pp]]) (by simp [results,Tryz.results16,go_sem,t0,t1,t2,s0,s1]) rfl ⟨_,_,rfl,noFace_in _,noStrs_in _,?_⟩
    exact (((((hB2.setCell (jE _) _).setCell (jE _) _).setCell (jE _) _).setCell (Nat.le_succ _) _).setCell (Nat.le_succ _) _).drew
theorem of_put {w w5:World} {X:Nat→Prop} {B:Nat} {vv pv iv:Value} {V:List VarD} {P:List (ProcD × Value)} {L:List ByteArray} (hB:w.heap.size+2≤B) (hF:FR X B w5 vv pv V P) (hi:w5.ownsRow B 9 1 iv L.length (strV L)) (hb:Below w.heap.size w w5) (x y z p q:Value) :
    FR X B (((((w5.setCell ⟨w.heap.size,0,none⟩ x).setCell ⟨w.heap.size,1,none⟩ y).setCell ⟨w.heap.size,2,none⟩ z).setCell ⟨w.heap.size+1,0,none⟩ p).setCell ⟨w.heap.size+1,1,none⟩ q) vv pv V P ∧
    (((((w5.setCell ⟨w.heap.size,0,none⟩ x).setCell ⟨w.heap.size,1,none⟩ y).setCell ⟨w.heap.size,2,none⟩ z).setCell ⟨w.heap.size+1,0,none⟩ p).setCell ⟨w.heap.size+1,1,none⟩ q).ownsRow B 9 1 iv L.length (strV L) ∧
    Below w.heap.size w (((((w5.setCell ⟨w.heap.size,0,none⟩ x).setCell ⟨w.heap.size,1,none⟩ y).setCell ⟨w.heap.size,2,none⟩ z).setCell ⟨w.heap.size+1,0,none⟩ p).setCell ⟨w.heap.size+1,1,none⟩ q):=by
  refine ⟨?_,?_,?_⟩
  · exact ((((hF.set (M:=w.heap.size) (o:=0) (by omega) x).set (M:=w.heap.size) (o:=1) (by omega) y).set (M:=w.heap.size) (o:=2) (by omega) z).set (M:=w.heap.size+1) (o:=0) (by omega) p).set (M:=w.heap.size+1) (o:=1) (by omega) q
  · have n0:iv.ownBlock≠some w.heap.size:=fun e=>by have:=(hi.lt _ e).1;omega
    have n1:iv.ownBlock≠some (w.heap.size+1):=fun e=>by have:=(hi.lt _ e).1;omega
    exact ownsRow_setCell_other (a:=⟨w.heap.size+1,1,none⟩) (ownsRow_setCell_other (a:=⟨w.heap.size+1,0,none⟩) (ownsRow_setCell_other (a:=⟨w.heap.size,2,none⟩) (ownsRow_setCell_other (a:=⟨w.heap.size,1,none⟩) (ownsRow_setCell_other (a:=⟨w.heap.size,0,none⟩) hi n0 x) n0 y) n0 z) n1 p) n1 q
  · exact ((((hb.setCell (jE _) _).setCell (jE _) _).setCell (jE _) _).setCell (Nat.le_succ _) _).setCell (Nat.le_succ _) _
theorem DeclOut.bad {w:World} {m:ByteArray} {K:List Kid} {q:Int × Int} {e:Ending} {w':World} (hq:lookD K [m] [] 1=some q):DeclOut w m K e w' ↔ (e=.returned (.tuple #[.agg #[.string ⟨#[]⟩,.slice none 0 0,.slice none 0 0],.slice none 0 0,.agg #[.int .i64 q.1,.int .i64 q.2]])∧Below w.heap.size w w'):=by
  unfold DeclOut;rw [hq]
theorem DeclOut.ok {w:World} {m:ByteArray} {K:List Kid} {e:Ending} {w':World} (hq:lookD K [m] [] 1=none):DeclOut w m K e w' ↔ ∃ (X:Nat→Prop) (B:Nat) (vv pv iv:Value) (P:List (ProcD × Value)),w.heap.size≤B∧e=.returned (.tuple #[.agg #[.string m,vv,pv],iv,.agg #[.int .i64 0,.int .i64 0]])∧FR X B w' vv pv (varsK false K) P∧P.map (·.1)=procsK false K∧(namesK K).length≤20∧w'.ownsRow B 9 1 iv (importsK K).length (strV (importsK K))∧Below w.heap.size w w':=by
  unfold DeclOut;rw [hq]
set_option maxHeartbeats 8000000 in
theorem oOf_ok (x:ByteArray) (m:ByteArray) (K:List Kid) (w:World) (hH:HasBoth w) (hc:(parse x).code=0) (ht:(parse x).tree=.node 1 m 0 (K.map Kid.tree)) (hm16:m.size≤16) (hgood:∀ k ∈ K,k.good) (hK:cntL (K.map Kid.tree)≤1000) (hps:∀ k ∈ K,k.kids.length≤1000) :
    Calls Tryz.prog 16 #[.string x] w (DeclOut w m K):=by
  have c24:Tryz.prog.cellsOf 25=4:=by kernel_rfl
  have c27:Tryz.prog.cellsOf 28=2:=by kernel_rfl
  have c3:Tryz.prog.cellsOf 44=3:=cell3
  have hB:=Joins.below_alloc2 w (.cells #[.string ⟨#[]⟩,.slice none 0 0,.slice none 0 0] 44) (.cells #[.int .i64 0,.int .i64 0] 28)
  have hP:=oparse x ((w.alloc (.cells #[.string ⟨#[]⟩,.slice none 0 0,.slice none 0 0] 44)).alloc (.cells #[.int .i64 0,.int .i64 0] 28)) (hasBoth_below hH hB)
  unfold PsOut at hP
  rw [hc,ht] at hP
  generalize (parse x).place=pp at hP
  clear hc ht
  have bF:=(Box3.new w (.string ⟨#[]⟩) (.slice none 0 0) (.slice none 0 0) 44).alloc (.cells #[.int .i64 0,.int .i64 0] 28)
  have bG:=Box2.new (w.alloc (.cells #[.string ⟨#[]⟩,.slice none 0 0,.slice none 0 0] 44)) (.int .i64 0) (.int .i64 0) 28
  rw [World.size_alloc] at bG
  go_enter Tryz.func16,Tryz.ntmps16
  go_wp2_with first
    | (go_at_call 12;refine hP.mono ?_;rintro e w1 ⟨v,rfl,hly,hb1⟩;obtain ⟨a0,d0,rfl,hlyN⟩:=mod_shape hly;have hW0:=hB.trans (hb1.mono hB.size);have hWa:=Joins.below_alloc2 w1 (.cells #[.int .i64 1,.string m,.int .i64 0,.slice a0 K.length d0] 25) (.cells #[.int .i64 0,.int .i64 pp] 28);have hW:=hW0.trans (hWa.mono hW0.size);have hlyW:=hlyN.below hWa;have bFn:=(bF.below hb1).below hWa;have bGn:=(bG.below hb1).below hWa;have hsz:w.heap.size+1<w1.heap.size:=(bG.below hb1).lt;have hD:=oDeclare m K _ _ hlyW hm16 hgood hK hps)
    | fail
  cases hq:lookD K [m] [] 1 with
  | some q =>
    refine hD.mono ?_
    intro e w4 h4
    rw [DeclOut.bad hq] at h4
    obtain ⟨rfl,hb4⟩:=h4
    obtain ⟨t0,t1,t2,t3,t4,t5⟩:=bFn.below hb4
    obtain ⟨s0,s1,s2,s3⟩:=bGn.below hb4
    have HB:Hid (Below w.heap.size w w4):=hW.trans (hb4.mono hW.size)
    have HQ:Hid (lookD K [m] [] 1=some q):=hq
    clear hq bF bG bFn bGn hP hD hb4 hW hW0 hWa hB
    go_wp2
    refine bodyPost_ret (v:=.tuple #[.agg #[.string ⟨#[]⟩,.slice none 0 0,.slice none 0 0],.slice none 0 0,.agg #[.int .i64 q.1,.int .i64 q.2]]) (by simp [results,Tryz.results16,go_sem,t0,t1,t2,s0,s1]) rfl ?_
    rw [DeclOut.bad HQ.out]
    exact ⟨rfl,((((HB.out.setCell (jE _) _).setCell (jE _) _).setCell (jE _) _).setCell (Nat.le_succ _) _).setCell (Nat.le_succ _) _⟩
  | none =>
    refine hD.mono ?_
    intro e w4 h4
    rw [DeclOut.ok hq] at h4
    obtain ⟨X,B,vv,pv,iv,P,hBB,rfl,hF,hPm,hn,hi,hb4⟩:=h4
    obtain ⟨av,cv,rfl⟩:=hF.shapeV
    obtain ⟨ap,cp,rfl⟩:=hF.shapeP
    obtain ⟨ai,ci,rfl,_,_⟩:=lexs.own_shape hi
    obtain ⟨t0,t1,t2,t3,t4,t5⟩:=bFn.below hb4
    obtain ⟨s0,s1,s2,s3⟩:=bGn.below hb4
    have hsw:w1.heap.size≤B:=by have:=hWa.size;omega
    have HF:Hid _:=of_put (w:=w) (by omega) hF hi (hW.trans (hb4.mono hW.size)) (.string m) (.slice av (varsK false K).length cv) (.slice ap P.length cp) (.int .i64 0) (.int .i64 0)
    have HP:Hid (P.map (·.1)=procsK false K∧(namesK K).length≤20∧w.heap.size≤B):=⟨hPm,hn,by omega⟩
    have HQ:Hid (lookD K [m] [] 1=none):=hq
    clear hq bF bG bFn bGn hP hD hb4 hW hW0 hWa hB hF hi hPm hn
    go_wp2
    refine bodyPost_ret (v:=.tuple #[.agg #[.string m,.slice av (varsK false K).length cv,.slice ap P.length cp],.slice ai (importsK K).length ci,.agg #[.int .i64 0,.int .i64 0]]) (by simp [results,Tryz.results16,go_sem,t0,t1,t2,s0,s1]) rfl ?_
    rw [DeclOut.ok HQ.out]
    exact ⟨X,B,_,_,_,P,HP.out.2.2,rfl,HF.out.1,HP.out.1,HP.out.2.1,HF.out.2⟩
end Go.Proofs.YtfopddgjdaoidaaGreatDoor.face
namespace Go.Proofs.YtfopddgjdaoidaaGreatDoor.face
open lexs syn
structure Fine (t:Tok):Prop where
  kinds:t.kind=1∨t.kind=2∨t.kind=3
  ne:t.text≠[]
  word:t.kind=1→t.text.length≤16∧ltrB (t.text.headD 0)=true∧t.text.all insB=true
  num:t.kind=2→numE t.text=0
  sign:t.kind=3→ltrB (t.text.headD 0)=false
theorem take_run (p:UInt8→Bool) (l:List UInt8):l.take (run p l)=l.takeWhile p:=by
  unfold run
  induction l with
  | nil=>rfl
  | cons b r ih =>
    rw [List.takeWhile_cons]
    cases p b
    · rfl
    · simp [ih]
theorem step_fine {b:UInt8} {r:List UInt8} {K:Int} {n i:Nat} (h:stepL (b :: r)=.tok K n):Fine ⟨K,(b :: r).take n,i⟩:=by
  have hn:=(stepL_tok h).1
  obtain ⟨m,rfl⟩:∃ m,n=m+1:=⟨n - 1,by omega⟩
  have hh:((b :: r).take (m+1)).headD 0=b:=by simp
  have hne:(b :: r).take (m+1)≠[]:=by simp
  rw [stepL,List.headD_cons,stepB] at h
  by_cases h1:(b==32 || b==10)=true
  · rw [if_pos h1] at h;simp at h
  rw [if_neg h1] at h
  by_cases h2:(b==35)=true
  · rw [if_pos h2] at h;simp at h
  rw [if_neg h2] at h
  cases h3:ltrB b
  · rw [h3] at h
    simp only [Bool.false_eq_true,if_false] at h
    cases h4:digB b
    · rw [h4] at h
      simp only [Bool.false_eq_true,if_false] at h
      split at h
      · simp at h
      · injection h with hk hm
        subst hk
        refine ⟨.inr (.inr rfl),hne,fun e=>by simp at e,fun e=>by simp at e,fun _=>?_⟩
        show ltrB (((b :: r).take (m+1)).headD 0)=false
        rw [hh]
        exact h3
    · rw [h4] at h
      simp only [if_true] at h
      split at h
      · rename_i he
        injection h with hk hm
        subst hk
        refine ⟨.inr (.inl rfl),hne,fun e=>by simp at e,fun _=>?_,fun e=>by simp at e⟩
        rw [← hm]
        simpa using he
      · simp at h
  · rw [h3] at h
    simp only [if_true] at h
    split at h
    · simp at h
    · rename_i h16
      injection h with hk hm
      subst hk
      refine ⟨.inl rfl,hne,fun _=>⟨?_,?_,?_⟩,fun e=>by simp at e,fun e=>by simp at e⟩
      · show ((b :: r).take (m+1)).length≤16
        rw [List.length_take]
        omega
      · show ltrB (((b :: r).take (m+1)).headD 0)=true
        rw [hh]
        exact h3
      · show ((b :: r).take (m+1)).all insB=true
        rw [← hm,take_run]
        exact List.all_takeWhile
theorem scanL_fine:∀ (f:Nat) (l:List UInt8) (i:Nat) (acc toks:List Tok),scanL f l i acc=.ok toks→(∀ t ∈ acc,Fine t)→∀ t ∈ toks,Fine t
  | 0,l,i,acc,toks,h,ha=>by
    unfold scanL at h
    injection h with h
    subst h
    exact ha
  | f+1,[],i,acc,toks,h,ha=>by
    unfold scanL at h
    injection h with h
    subst h
    exact ha
  | f+1,b :: r,i,acc,toks,h,ha=>by
    cases hs:stepL (b :: r) with
    | skip n=>rw [scanL_skip hs] at h;exact scanL_fine f _ _ _ _ h ha
    | fault c=>rw [scanL_fault hs] at h;simp at h
    | tok k n =>
      rw [scanL_tok hs] at h
      refine scanL_fine f _ _ _ _ h ?_
      intro t ht
      rw [List.mem_append] at ht
      rcases ht with ht | ht
      · exact ha t ht
      · simp only [List.mem_singleton] at ht
        subst ht
        exact step_fine hs
theorem scan_fine {l:List UInt8} {toks:List Tok} (h:scan l=.ok toks):∀ t ∈ toks,Fine t:=by
  unfold scan at h
  split at h
  · simp at h
  · exact scanL_fine _ _ _ _ _ h (fun t ht=>by simp at ht)
def raw (t:Tok):ByteArray:=⟨t.text.toArray⟩
theorem raw_list (t:Tok):(raw t).data.toList=t.text:=rfl
theorem raw_size (t:Tok):(raw t).size=t.text.length:=by rw [← lexs.len_L,raw_list]
def ownName (t:Tok):Bool:=!(reserved.any fun y=>eqS y (raw t)) && t.kind==1
theorem bytes_ext {x y:ByteArray} (h:x.data.toList=y.data.toList):x=y:=WideShapes.bytes_inj h
theorem eqS_iff {x y:ByteArray}:eqS x y=true ↔ x=y:=by
  unfold eqS
  rw [beq_iff_eq,ByteArray.toList_eq,ByteArray.toList_eq]
  exact ⟨bytes_ext,fun h=>by rw [h]⟩
def tellsL (x:ByteArray):List Tok→Bool
  | [t]=>ownName t && eqS (raw t) x
  | _=>false
def tells (x:ByteArray):Bool:=tellsL x (scan x.data.toList).toks
theorem isName_fine {t:Tok} (hg:Fine t) (h:ownName t=true):isName (raw t)=true:=by
  unfold ownName at h
  simp only [Bool.and_eq_true,beq_iff_eq] at h
  obtain ⟨h1,h2,h3⟩:=hg.word h.2
  have hsz:1≤(raw t).size:=by
    rw [raw_size]
    have:=hg.ne
    cases hl:t.text with
    | nil=>exact absurd hl this
    | cons b r=>simp
  unfold isName
  rw [raw_list]
  have hl:ltrI ((t.text.headD 0).toNat:Int)=true:=h2
  have ha:t.text.all (fun c=>insI (c.toNat:Int))=true:=h3
  rw [hl,ha,decide_eq_true ⟨hsz,by rw [raw_size];exact h1⟩,h.1]
  rfl
theorem run_all {l:List UInt8} (h:l.all insB=true):run insB l=l.length:=by
  apply run_eq
  · intro j hj _
    exact List.all_eq_true.1 h _ (List.getElem_mem hj)
  · exact .inl rfl
theorem scan_name {x:ByteArray} (h:isName x=true):scan x.data.toList=.ok [⟨1,x.data.toList,0⟩]:=by
  unfold isName at h
  simp only [Bool.and_eq_true,decide_eq_true_eq] at h
  obtain ⟨⟨⟨⟨h1,h16⟩,hl⟩,ha⟩,_⟩:=h
  have hlen:x.data.toList.length=x.size:=lexs.len_L x
  unfold scan
  rw [if_neg (by omega)]
  cases hx:x.data.toList with
  | nil=>rw [hx] at hlen;simp at hlen;omega
  | cons b r =>
    rw [hx] at hl ha hlen
    have hlb:ltrB b=true:=hl
    have hrun:run insB (b :: r)=(b :: r).length:=run_all ha
    have hb32:(b==32 || b==10)=false:=by
      cases hb:(b==32 || b==10) with
      | false=>rfl
      | true =>
        simp only [Bool.or_eq_true,beq_iff_eq] at hb
        rcases hb with rfl | rfl <;> simp [ltrB,ltrI] at hlb
    have hb35:(b==35)=false:=by
      cases hb:(b==35) with
      | false=>rfl
      | true =>
        simp only [beq_iff_eq] at hb
        subst hb
        simp [ltrB,ltrI] at hlb
    have hs:stepL (b :: r)=.tok 1 (b :: r).length:=by
      rw [stepL,List.headD_cons,stepB,hb32,hb35,hlb,hrun]
      simp only [Bool.false_eq_true,if_false,if_true]
      rw [if_neg (by omega)]
    rw [List.length_cons] at hs ⊢
    rw [scanL_tok hs]
    rw [List.drop_eq_nil_of_le (by simp),scanL_end,List.take_of_length_le (by simp)]
    rfl
theorem tells_eq (x:ByteArray):tells x=isName x:=by
  unfold tells
  cases hn:isName x with
  | true =>
    rw [scan_name hn]
    show (ownName _ && eqS _ x)=true
    have e:raw ⟨1,x.data.toList,0⟩=x:=bytes_ext rfl
    rw [e]
    unfold ownName
    rw [e]
    unfold isName at hn
    simp only [Bool.and_eq_true] at hn
    rw [hn.2,eqS_iff.2 rfl]
    rfl
  | false =>
    cases hs:scan x.data.toList with
    | err c p=>rfl
    | ok l =>
      show tellsL x l=false
      match l,hs with
      | [],_=>rfl
      | [t],hs =>
        show (ownName t && eqS (raw t) x)=false
        cases ho:ownName t with
        | false=>rfl
        | true =>
          cases he:eqS (raw t) x with
          | false=>rfl
          | true =>
            have h1:=isName_fine (scan_fine hs t (by simp)) ho
            rw [eqS_iff.1 he,hn] at h1
            cases h1
      | _ :: _ :: _,_=>rfl
end Go.Proofs.YtfopddgjdaoidaaGreatDoor.face
