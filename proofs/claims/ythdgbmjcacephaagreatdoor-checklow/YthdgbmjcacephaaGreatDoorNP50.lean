/- The law CheckLow: its walk. -/
import Derived.Test.YthdgbmjcacephaaGreatDoorNP48
import Derived.Test.YthdgbmjcacephaaGreatDoorNP49
import Derived.Test.YthdgbmjcacephaaGreatDoorNPq
namespace Go.Proofs.YthdgbmjcacephaaGreatDoor.chk
open Go.RowKit Go.Shelf
open Go.Proofs.YthdgbmjcacephaaGreatDoor.syn Go.Proofs.YthdgbmjcacephaaGreatDoor.face
set_option linter.unusedVariables false
set_option linter.unusedSimpArgs false
set_option maxRecDepth 100000
theorem small_parse:(parse ⟨#[109,111,100,117,108,101,32,109,59]⟩).code=0∧(parse ⟨#[109,111,100,117,108,101,32,109,59]⟩).tree=.node 1 ⟨#[109]⟩ 0 []:=by
  have h1:(parse ⟨#[109,111,100,117,108,101,32,109,59]⟩).code=0:=by kernel_rfl
  have h2:(parse ⟨#[109,111,100,117,108,101,32,109,59]⟩).tree=.node 1 ⟨#[109]⟩ 0 []:=by kernel_rfl
  exact ⟨h1,h2⟩
theorem small_ck:ckF ⟨#[109,111,100,117,108,101,32,109,59]⟩ [] ⟨#[109]⟩ []=(0,0):=by
  unfold ckF
  rw [if_neg (by decide),if_neg (by rw [small_parse.1];decide)]
  rfl
theorem faces_nil (w:World):FacesIn w (.slice none 0 0) []:=⟨none,0,rfl,by simp,fun h=>absurd rfl h⟩
theorem oCheckSmall (w:World) (hw:HasAll w):Calls Tryz.prog 9 #[.string ⟨#[109,111,100,117,108,101,32,109,59]⟩,.slice none 0 0] w fun e w'=>∃ a c,e=.returned (.tuple #[.agg #[.int .i64 1,.string ⟨#[109]⟩,.int .i64 0,.slice a 0 c],.agg #[.int .i64 0,.int .i64 0]])∧Below w.heap.size w w':=by
  have h:=oCheck ⟨#[109,111,100,117,108,101,32,109,59]⟩ [] (.slice none 0 0) ⟨#[109]⟩ [] w hw (faces_nil w) (fun _=>⟨small_parse.2,by decide,(fun k hk=>by cases hk),by simp [cntL],by simp,(fun k hk=>by cases hk)⟩)
  refine h.mono ?_
  rintro e w' ⟨v,he,h1,_,hb⟩
  rw [show ckF ⟨#[109,111,100,117,108,101,32,109,59]⟩ (([]:List FV).map (·.1)) ⟨#[109]⟩ []=(0,0) from small_ck] at he h1
  have h2:=h1 rfl
  rw [small_parse.2] at h2
  unfold Lies at h2
  obtain ⟨a,c,rfl,_,_⟩:=h2
  exact ⟨a,c,he,hb⟩
theorem small {x:ByteArray} {m:ByteArray} {K:List Kid} (ht:(parse x).tree=.node 1 m 0 (K.map Kid.tree)) (hf:fitsT (parse x).tree=true):cntL (K.map Kid.tree)≤900∧K.length≤900∧∀ k ∈ K,k.kids.length≤900:=by
  rw [ht,← within_fits,withinT_is _ 1 0 (by omega) (by omega) (by omega) (by omega)] at hf
  split at hf
  · rename_i h
    have hc:cntL (K.map Kid.tree)+1≤500:=by
      have h2:=h.2
      rw [cntN] at h2
      omega
    refine ⟨by omega,?_,?_⟩
    · have:=len_cnt (K.map Kid.tree)
      rw [List.length_map] at this
      omega
    · intro k hk
      obtain ⟨i,hi,rfl⟩:=List.mem_iff_getElem.1 hk
      have h1:=cntT_mem (K.map Kid.tree) i (by simpa using hi)
      have h2:(K.map Kid.tree)[i]'(by simpa using hi)=K[i].tree:=by simp
      rw [h2,Kid.tree_is,cntN] at h1
      have h4:=len_cnt K[i].kids
      omega
  · simp at hf
theorem shape5 (x:ByteArray) (h:(parse x).code=0):∃ (m:ByteArray) (K:List Kid),(parse x).tree=.node 1 m 0 (K.map Kid.tree)∧m.size≤16∧(∀ k ∈ K,k.good∧k.named∧deepK k)∧cntL (K.map Kid.tree)≤900∧K.length≤900∧∀ k ∈ K,k.kids.length≤900:=by
  obtain ⟨m,K,ht,hm,_,hk,hf⟩:=parse_shape4 x h
  obtain ⟨h1,h2,h3⟩:=small ht hf
  exact ⟨m,K,ht,hm,hk,h1,h2,h3⟩
set_option maxHeartbeats 4000000 in
theorem low_walk (x:ByteArray) (w:World) (hw:HasAll w) :
    Calls Tryz.prog 4 #[.string x] w fun e w'=>e=.returned (.bool true)∧Below w.heap.size w w':=by
  have c24:Tryz.prog.cellsOf 25=4:=by kernel_rfl
  have c27:Tryz.prog.cellsOf 28=2:=by kernel_rfl
  have hC1:=oCheckSmall w hw
  go_enter Tryz.func4,Tryz.ntmps4
  go_wp2_with (fail)
  refine hC1.mono ?_
  rintro e w1 ⟨a1,d1,rfl,hb1⟩
  have hB2:Below w.heap.size w ((w1.alloc (.cells #[.int .i64 1,.string ⟨#[109]⟩,.int .i64 0,.slice a1 0 d1] 25)).alloc (.cells #[.int .i64 0,.int .i64 0] 28)):=hb1.trans ((((Below.refl w1.heap.size w1).alloc (Nat.le_refl _) _).alloc (by simp) _).mono hb1.size)
  have hw2:=hasAll_below hw hB2
  go_wp2_with (fail)
  refine (oparse x _ hw2.1).mono ?_
  generalize ((w1.alloc (.cells #[.int .i64 1,.string ⟨#[109]⟩,.int .i64 0,.slice a1 0 d1] 25)).alloc (.cells #[.int .i64 0,.int .i64 0] 28))=W2 at *
  rintro e w3 ⟨v3,rfl,hl3,hb3⟩
  obtain ⟨k3,x3,m3,a3,n3,d3,rfl⟩:=lies_shape hl3
  have hB3:=hB2.trans (hb3.mono hB2.size)
  have hb4:Below w3.heap.size w3 ((w3.alloc (.cells #[.int .i64 k3,.string x3,.int .i64 m3,.slice a3 n3 d3] 25)).alloc (.cells #[.int .i64 (parse x).code,.int .i64 (parse x).place] 28)):=((Below.refl w3.heap.size w3).alloc (Nat.le_refl _) _).alloc (by simp) _
  have hB4:=hB3.trans (hb4.mono hB3.size)
  have hQ4:BoxC ((w3.alloc (.cells #[.int .i64 k3,.string x3,.int .i64 m3,.slice a3 n3 d3] 25)).alloc (.cells #[.int .i64 (parse x).code,.int .i64 (parse x).place] 28)) w3.heap.size #[.int .i64 k3,.string x3,.int .i64 m3,.slice a3 n3 d3] 25:=(BoxC.new w3 _ _).alloc _
  have r0:=hQ4.cell 0 rfl
  have r1:=hQ4.cell 1 rfl
  have r2:=hQ4.cell 2 rfl
  have r3:=hQ4.cell 3 rfl
  by_cases hc:(parse x).code=0
  · obtain ⟨m,K,hs⟩:=shape5 x hc
    have hl4:Lies (·<((w3.alloc (.cells #[.int .i64 k3,.string x3,.int .i64 m3,.slice a3 n3 d3] 25)).alloc (.cells #[.int .i64 (parse x).code,.int .i64 (parse x).place] 28)).heap.size) ((w3.alloc (.cells #[.int .i64 k3,.string x3,.int .i64 m3,.slice a3 n3 d3] 25)).alloc (.cells #[.int .i64 (parse x).code,.int .i64 (parse x).place] 28)) (parse x).tree (.agg #[.int .i64 k3,.string x3,.int .i64 m3,.slice a3 n3 d3]):=hl3.to (fun b hb=>Nat.lt_of_lt_of_le hb.2 hb4.size) (fun b hb o=>hb4.cell (p:=⟨b,o,none⟩) hb.2)
    have hHi:=oHigh (parse x).tree _ _ hl4
    have HL:=show Hid _ from ckF_low x m K hc hs.1 (fun k hk=>(hs.2.2.1 k hk).2.2)
    have hC5:=fun W hW=>oCheck x [] (.slice none 0 0) m K W hW (faces_nil W) (fun _=>hs)
    rw [show ([]:List FV).map (·.1)=[] from rfl] at hC5
    clear hs hl3 hl4 hQ4 hb4
    rw [hc] at hB4 hHi r0 r1 r2 r3 ⊢
    generalize (parse x).place=pp at *
    generalize highT (parse x).tree=hh at *
    cases hh with
    | true =>
      go_wp2_with (go_at_call 13;refine hHi.mono ?_;rintro e w5 ⟨rfl,hb5⟩)
      go_ret
      exact ⟨rfl,hB4.trans (hb5.mono hB4.size)⟩
    | false =>
      have h7:=HL.out rfl
      generalize ckF x [] m K=R at *
      obtain ⟨rc,rp⟩:=R
      have h7':¬ rc=7:=h7
      have h7n:(rc != 7)=true:=by simp [h7']
      clear HL
      go_wp2_with (go_at_call 13;refine hHi.mono ?_;rintro e w5 ⟨rfl,hb5⟩)
      have hB5:=hB4.trans (hb5.mono hB4.size)
      refine (hC5 w5 (hasAll_below hw hB5)).mono ?_
      rintro e w6 ⟨v6,rfl,h61,h62,hb6⟩
      obtain ⟨k6,x6,m6,a6,n6,d6,rfl⟩:∃ k x m a n c,v6=.agg #[.int .i64 k,.string x,.int .i64 m,.slice a n c]:=by
        by_cases h0:rc=0
        · exact lies_shape (h61 h0)
        · rw [h62 h0];exact ⟨_,_,_,_,_,_,rfl⟩
      clear h61 h62
      go_wp2
      go_ret
      exact ⟨by simp [h7'],((hB5.trans (hb6.mono hB5.size)).alloc (by have:=hB5.size;have:=hb6.size;omega) _).alloc (by have:=hB5.size;have:=hb6.size;simp;omega) _⟩
  · have hcn:((parse x).code != 0)=true:=by simp [hc]
    generalize (parse x).code=qc at *
    go_wp2
    go_ret
    exact ⟨rfl,hB4⟩
end Go.Proofs.YthdgbmjcacephaaGreatDoor.chk
