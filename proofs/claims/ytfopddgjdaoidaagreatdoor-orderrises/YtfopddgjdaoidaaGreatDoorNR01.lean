/- Fuel enough gives an answer: declarations. No Go in sight. -/
import Derived.Test.YtfopddgjdaoidaaGreatDoorNR00
import Derived.Deep.LoopGhost
set_option linter.unusedVariables false
namespace Go.Proofs.YtfopddgjdaoidaaGreatDoor
namespace lexs
open Go.RowKit
theorem ext_size (s:ByteArray) (p n:Nat) (h:p+n≤s.size):(s.extract p (p+n)).size=n:=by
 rw [← len_L,Lib.extract_data,List.length_take,List.length_drop,len_L];omega
theorem ext_data (s:ByteArray) (p n:Nat):(s.extract p (p+n)).data.toList=(s.data.toList.drop p).take n:=by
 rw [Lib.extract_data,Nat.add_sub_cancel_left]
theorem ext_head (s:ByteArray) (p n:Nat) (h:p+n≤s.size) (hn:0<n):(s.extract p (p+n))[0]'(by rw [ext_size s p n h];exact hn)=s[p]:=by
 have h0:0<(s.extract p (p+n)).size:=by rw [ext_size s p n h];exact hn
 have e:=headL (s.extract p (p+n)) h0
 rw [← e,ext_data,drop_cons s p (by omega)]
 cases n with
 | zero=>omega
 | succ n=>rfl
theorem stops_back {P:UInt8→Bool} {s:ByteArray} {p j:Nat} (hp:p<s.size) (h0:P s[p]=true) (h:Stops P s (p+1) j):Stops P s p j :=
 ⟨by have:=h.le;omega,h.top,fun k hk h1 h2=>by
  rcases Nat.lt_or_ge p k with h3 | h3
  ·exact h.all k hk (by omega) h2
  ·have:k=p:=by omega
   subst this
   exact h0,h.stop⟩
theorem sign_one (s:ByteArray) (p:Nat) (hp:p<s.size) (hc:ones.contains s[p]=true):signLen (s.data.toList.drop p)=1+more (s.data.toList.drop (p+1)) (s[p].toNat:Int):=by
 unfold signLen more
 rw [drop_cons s p hp,List.headD_cons,List.drop_one,List.tail_cons,byte_is _ 61 61 rfl]
 rw [if_pos hc]
 split<;>rfl
theorem sign_zero (s:ByteArray) (p:Nat) (hp:p<s.size) (hc:ones.contains s[p]=false):signLen (s.data.toList.drop p)=0:=by
 unfold signLen
 rw [drop_cons s p hp,List.headD_cons,List.drop_one,List.tail_cons,if_neg,if_neg (by rw [hc];decide)]
 intro h
 rw [Bool.and_eq_true,beq_iff_eq] at h
 rw [h.1] at hc
 exact absurd hc (by decide)
theorem more_le (s:ByteArray) (p:Nat) (c:Int) (hp:p<s.size):p+(1+more (s.data.toList.drop (p+1)) c)≤s.size:=by
 unfold more
 split
 ·rename_i h
  rw [Bool.and_eq_true] at h
  rcases Nat.lt_or_ge (p+1) s.size with h1 | h1
  ·omega
  ·have:=head_end s (p+1) h1
   rw [this] at h
   exact absurd h.2 (by decide)
 ·omega
def Rows' (s:ByteArray) (p n:Nat) (hp:p<s.size) (K E:Int):Prop :=
 (∀ w,Calls Tryz.prog 57 #[.int .u8 (s[p].toNat:Int)] w fun e w1=>∃ fv,e=.returned fv∧Below w.heap.size w w1 ∧
  Calls Tryz.prog 56 #[.string s,.int .i64 ((p:Int)+1),fv] w1 fun e w2=>e=.returned (.int .i64 ((p:Int)+(n:Int)))∧Below w.heap.size w w2) ∧
 (∀ w,HasErr w→Calls Tryz.prog 58 #[.string (s.extract p (p+n))] w fun e w'=>e=.returned (.tuple #[.int .i64 K,.int .i64 E])∧Below w.heap.size w w')
theorem begin_row (s:ByteArray) (p:Nat) (hs:s.size≤3000) (hp:p<s.size) (h:(ltrI (s[p].toNat:Int)||digI (s[p].toNat:Int))=true) (w:World) :
  Calls Tryz.prog 57 #[.int .u8 (s[p].toNat:Int)] w fun e w1=>∃ fv,e=.returned fv∧Below w.heap.size w w1 ∧
  Calls Tryz.prog 56 #[.string s,.int .i64 ((p:Int)+1),fv] w1 fun e w2=>e=.returned (.int .i64 ((p:Int)+(run insB (s.data.toList.drop p):Int)))∧Below w.heap.size w w2:=by
 refine (behind_row _ h w).mono ?_
 rintro e w1 ⟨rfl,hb⟩
 refine ⟨_,rfl,hb,?_⟩
 refine (reach_inside s (p+1) hs (by omega) w1).mono ?_
 rintro e w2 ⟨j,rfl,hj,rfl⟩
 have hi:insB s[p]=true:=by
  rw [Bool.or_eq_true] at h
  rcases h with h | h
  ·exact ltrB_insB h
  ·exact digB_insB h
 have hr:=(stops_back hp hi hj).run
 have hl:=hj.le
 refine ⟨?_,hb⟩
 rw [hr]
 congr 2
 omega
theorem begin_sign (s:ByteArray) (p:Nat) (hs:s.size≤3000) (hp:p<s.size) (hl:ltrI (s[p].toNat:Int)=false) (hd:digI (s[p].toNat:Int)=false) (w:World) :
  Calls Tryz.prog 57 #[.int .u8 (s[p].toNat:Int)] w fun e w1=>∃ fv,e=.returned fv∧Below w.heap.size w w1 ∧
  Calls Tryz.prog 56 #[.string s,.int .i64 ((p:Int)+1),fv] w1 fun e w2=>e=.returned (.int .i64 ((p:Int)+((1+more (s.data.toList.drop (p+1)) (s[p].toNat:Int):Nat):Int)))∧Below w.heap.size w w2:=by
 refine (behind_sign _ hl hd w).mono ?_
 rintro e w1 ⟨rfl,h1,h2,h3,hb⟩
 refine ⟨_,rfl,hb,?_⟩
 refine (reach_sign s (p+1) (s[p].toNat:Int) _ _ hs (by omega) w1 h1 h2 h3 (by simp)).mono ?_
 rintro e w2 ⟨rfl,hb2⟩
 refine ⟨?_,hb.trans (hb2.mono (by simp))⟩
 congr 2
 omega
theorem row_any (s:ByteArray) (p:Nat) (hs:s.size≤3000) (hp:p<s.size) (h32:((s[p].toNat:Int)==32)=false) (h10:((s[p].toNat:Int)==10)=false) (h35:((s[p].toNat:Int)==35)=false) :
  ∃ (n:Nat) (K E:Int),0<n∧p+n≤s.size∧((E != 0)=false→stepL (s.data.toList.drop p)=.tok K n)∧((E != 0)=true→stepL (s.data.toList.drop p)=.fault E)∧Rows' s p n hp K E:=by
 have hrl:=run_le insB (s.data.toList.drop p)
 rw [List.length_drop,len_L] at hrl
 cases hl:ltrI (s[p].toNat:Int)
 ·cases hd:digI (s[p].toNat:Int)
  ·have hn:0<1+more (s.data.toList.drop (p+1)) (s[p].toNat:Int):=by omega
   have hm:=more_le s p (s[p].toNat:Int) hp
   have hx:=ext_size s p _ hm
   have hh:=ext_head s p _ hm hn
   cases hc:ones.contains s[p]
   ·refine ⟨1+more (s.data.toList.drop (p+1)) (s[p].toNat:Int),0,2,hn,hm,fun h=>absurd h (by decide),fun _=>st_none hp h32 h10 h35 hl hd (sign_zero s p hp hc),fun w=>begin_sign s p hs hp hl hd w,fun w _=>?_⟩
    exact judge_none _ (by omega) (by omega) w (by rw [hh];exact hl) (by rw [hh];exact hd) (by rw [hh];exact hc)
   ·refine ⟨1+more (s.data.toList.drop (p+1)) (s[p].toNat:Int),3,0,hn,hm,fun _=>st_sign hp h32 h10 h35 hl hd (sign_one s p hp hc) (by omega),fun h=>absurd h (by decide),fun w=>begin_sign s p hs hp hl hd w,fun w _=>?_⟩
    exact judge_sign _ (by omega) (by omega) w (by rw [hh];exact hl) (by rw [hh];exact hd) (by rw [hh];exact hc)
  ·have hn:0<run insB (s.data.toList.drop p):=dig_pos hp hd rfl
   have hm:p+run insB (s.data.toList.drop p)≤s.size:=by omega
   have hx:=ext_size s p _ hm
   have hh:=ext_head s p _ hm hn
   refine ⟨_,2,numE ((s.data.toList.drop p).take (run insB (s.data.toList.drop p))),hn,hm,fun h=>st_num hp h32 h10 h35 hl hd rfl (by simpa [bne] using h),fun h=>st_bad hp h32 h10 h35 hl hd rfl (by simpa [bne] using h),fun w=>begin_row s p hs hp (by rw [hd,Bool.or_true]) w,fun w he=>?_⟩
   have hj:=judge_num (s.extract p (p+run insB (s.data.toList.drop p))) (by omega) (by omega) w he (by rw [hh];exact hl) (by rw [hh];exact hd)
   rw [ext_data] at hj
   exact hj
 ·have hn:0<run insB (s.data.toList.drop p):=by rw [drop_cons s p hp];exact run_pos _ _ _ (ltrB_insB hl)
  have hm:p+run insB (s.data.toList.drop p)≤s.size:=by omega
  have hx:=ext_size s p _ hm
  have hh:=ext_head s p _ hm hn
  by_cases h16:run insB (s.data.toList.drop p)≤16
  ·refine ⟨_,1,0,hn,hm,fun _=>st_word hp h32 h10 h35 hl rfl h16,fun h=>absurd h (by decide),fun w=>begin_row s p hs hp (by rw [hl,Bool.true_or]) w,fun w he=>?_⟩
   exact judge_word _ (by omega) (by omega) w (by rw [hh];exact hl) (by omega)
  ·refine ⟨_,0,1,hn,hm,fun h=>absurd h (by decide),fun _=>st_long hp h32 h10 h35 hl rfl (by omega),fun w=>begin_row s p hs hp (by rw [hl,Bool.true_or]) w,fun w he=>?_⟩
   exact judge_long _ (by omega) (by omega) w (by rw [hh];exact hl) (by omega)
def Scans (H:World→Prop) (F:Nat) (s:ByteArray):Prop:=∀ w:World,H w→Calls Tryz.prog F #[.string s] w fun e w'=>∃ v,e=.returned (.tuple #[v,.agg #[.int .i64 (scan s.data.toList).code,.int .i64 (scan s.data.toList).place]]) ∧
   w'.ownsRow w.heap.size 99 3 v (scan s.data.toList).toks.length (cellsOf (scan s.data.toList).toks)∧Below w.heap.size w w'
theorem own_shape {w:World} {B:Nat} {e:TypeId} {k n:Nat} {v:Value} {xs:List Value} (h:w.ownsRow B e k v n xs):∃ a c,v=.slice a n c∧n≤9223372036854775807∧(0<n→∃ g,a=some ⟨g,0,none⟩):=by
 rcases h.2 with ⟨rfl,rfl⟩|⟨g,cap,cur,rfl,_,_,h1,h2,_⟩
 ·exact ⟨none,0,rfl,by omega,fun h=>by omega⟩
 ·exact ⟨some ⟨g,0,none⟩,cap,rfl,by unfold maxLen at h2;omega,fun _=>⟨g,rfl⟩⟩
theorem cellsOf_at (l:List Tok) (k:Nat) (hk:k<l.length):(cellsOf l)[k*3]?=some (.int .i64 l[k].kind)∧(cellsOf l)[k*3+1]?=some (.string ⟨l[k].text.toArray⟩)∧(cellsOf l)[k*3+2]?=some (.int .i64 (l[k].at_:Int)):=by
 induction l generalizing k with
 | nil=>simp at hk
 | cons t l ih =>
  cases k with
  | zero=>simp [cellsOf]
  | succ k =>
   have h:=ih k (by simpa using hk)
   have e:cellsOf (t :: l)=[.int .i64 t.kind,.string ⟨t.text.toArray⟩,.int .i64 (t.at_:Int)]++cellsOf l:=rfl
   have e3:(k+1)*3=k*3+3:=by omega
   rw [e,e3]
   refine ⟨?_,?_,?_⟩
   ·rw [List.getElem?_append_right (by simp)];simpa using h.1
   ·rw [List.getElem?_append_right (by simp)];simpa using h.2.1
   ·rw [List.getElem?_append_right (by simp)];simpa using h.2.2
theorem tok_cells {w:World} {B:Nat} {e:TypeId} {g n cap:Nat} {l:List Tok} (h:w.ownsRow B e 3 (.slice (some ⟨g,0,none⟩) n cap) n (cellsOf l)) {k:Nat} (hk:k<l.length) :
  w.cell? ⟨g,k*3,none⟩=some (.int .i64 l[k].kind)∧w.cell? ⟨g,k*3+1,none⟩=some (.string ⟨l[k].text.toArray⟩)∧w.cell? ⟨g,k*3+2,none⟩=some (.int .i64 (l[k].at_:Int)):=by
 have ha:=cellsOf_at l k hk
 have hn:n=l.length:=by have:=h.1;rw [cellsOf_length] at this;omega
 exact ⟨(h.cellAt _ (by omega)).trans ha.1,(h.cellAt _ (by omega)).trans ha.2.1,(h.cellAt _ (by omega)).trans ha.2.2⟩
theorem below_next {w a b:World} {o:Obj} (h:Below w.heap.size w a) (h2:Below (a.alloc o).heap.size (a.alloc o) b):Below w.heap.size w b :=
 (h.alloc h.size o).trans (h2.mono (by have:=h.size;rw [World.size_alloc];omega))
theorem fine_next {w wr w1:World} {o:Obj} {e:TypeId} {k n:Nat} {v:Value} {xs:List Value} (hown:wr.ownsRow (w.heap.size+1) e k v n xs) (hbw:Below (w.heap.size+1) (w.alloc o) wr) (hb:Below wr.heap.size wr w1) :
  w1.ownsRow (w.heap.size+1) e k v n xs∧Below (w.heap.size+1) (w.alloc o) w1:=by
 have hs:=hbw.size
 rw [World.size_alloc] at hs
 exact ⟨own_below hown hb,hbw.trans (hb.mono hs)⟩
theorem fine_err {w wr:World} {o:Obj} (he:HasErr w) (hbw:Below (w.heap.size+1) (w.alloc o) wr):HasErr wr:=hasErr_below he (below_old hbw)
set_option maxRecDepth 100000 in
set_option maxHeartbeats 2000000 in
theorem oscan (s:ByteArray) (w:World) (hs:s.size≤3000) (he:HasErr w) :
  Calls Tryz.prog 26 #[.string s] w fun e w'=>∃ v,e=.returned (.tuple #[v,.agg #[.int .i64 (scan s.data.toList).code,.int .i64 (scan s.data.toList).place]]) ∧
   w'.ownsRow w.heap.size 99 3 v (scan s.data.toList).toks.length (cellsOf (scan s.data.toList).toks)∧Below w.heap.size w w':=by
 obtain ⟨i0,hi,hz0,hz1,hz2⟩:=info_parts tokInfo
 have hsz:¬ (3000:Int)<(s.size:Int):=by omega
 obtain ⟨R,hR⟩:∃ R,R=scan s.data.toList:=⟨_,rfl⟩
 rw [← hR]
 have HR:Hid (scanL s.size (s.data.toList.drop 0) 0 []=R):=by
  show _=_
  rw [hR,scan,if_neg (by rw [len_L];omega),len_L];rfl
 have HE:Hid (HasErr w):=he
 clear hR he
 go_enter Tryz.func26,Tryz.ntmps26
 go_wp2_with (go_at_call 55;refine (skip_any s 0 hs (by omega) _).mono ?_;rintro e w' ⟨q,rfl,hg,hq,hw⟩;obtain rfl:=hw.symm)
 obtain ⟨f0,hf0,HR0⟩:=hg.on s.size [] R (by omega) HR.out
 have hqs:=hg.top
 go_loopw [4,5] (fun v i wr=>∃ (p f:Nat) (acc:List Tok),p≤s.size∧i=.int .i64 p∧s.size≤p+f∧Hid (∀ h:p<s.size,((s[p].toNat:Int)==32)=false∧((s[p].toNat:Int)==10)=false∧((s[p].toNat:Int)==35)=false)∧Hid (scanL f (s.data.toList.drop p) p acc=R)∧wr.ownsRow (w.heap.size+1) 99 3 v acc.length (cellsOf acc)∧acc.length≤p∧Below (w.heap.size+1) (w.alloc (.cells #[.int .i64 0,.int .i64 0] 28)) wr)
  (fun _ i _=>s.size - (intOf i).toNat)
 case atStart =>
  exact ⟨q,f0,[],hqs,rfl,hf0,hq,HR0,World.ownsRow_nil _ _ _ _,by simp,Below.refl _ _⟩
 case round =>
  obtain ⟨p,f,acc,hp,rfl,hf,HB,HS,hown,hal,hbw⟩:=hrel
  obtain ⟨hc0,hc1,hz0',hz1',hB⟩:=boxes hbw
  have hB':w.heap.size<wr.heap.size:=hB
  by_cases hlt:p<s.size
  ·obtain ⟨f,rfl⟩:∃ f',f=f'+1:=⟨f - 1,by omega⟩
   obtain ⟨n,K,E,hn,hm,H1,H2,HBR,HJ⟩:=row_any s p hs hlt (HB.out hlt).1 (HB.out hlt).2.1 (HB.out hlt).2.2
   have hsl:=slice_is 9 Tryz.underlying9 s p n hm
   have hx:=ext_size s p n hm
   cases hE:(E != 0)
   ·have hst:Hid (stepL (s.data.toList.drop p)=.tok K n):=H1 hE
    clear H1 H2
    have hsk:∀ w,Calls Tryz.prog 55 #[.string s,.int .i64 ((p:Int)+(n:Int))] w fun e w'=>∃ j:Nat,e=.returned (.int .i64 j)∧Goes s (p+n) j∧(∀ h:j<s.size,((s[j].toNat:Int)==32)=false∧((s[j].toNat:Int)==10)=false∧((s[j].toNat:Int)==35)=false)∧w'=w:=by
     intro w
     have h:=skip_any s (p+n) hs hm w
     rw [Int.natCast_add] at h
     exact h
    go_wp2_with (first
     | (go_at_call 57;refine (HBR _).mono ?_;rintro e w1 ⟨fv,rfl,hb1,hreach⟩)
     | (go_at_call 56;refine hreach.mono ?_;rintro e w2 ⟨rfl,hb2⟩;obtain ⟨hown2,hbw2⟩:=fine_next hown hbw hb2)
     | (go_at_call 58;refine (HJ _ (fine_err HE.out hbw2)).mono ?_;rintro e w3 ⟨rfl,hb3⟩;obtain ⟨hown3,hbw3⟩:=fine_next hown2 hbw2 hb3; clear hown2 hbw2 hb2 hb3)
     | (go_at_call 59;refine (clone_any _ (by omega) _).mono ?_;rintro e w4 ⟨rfl,hb4⟩;obtain ⟨hown4,hbw4⟩:=fine_next hown3 hbw3 hb4;obtain ⟨_,_,_,_,hB4⟩:=boxes hbw4;clear hown3 hbw3 hb4)
     | (at_builtin;refine wpList_append_own _ rfl (.tmp 40) (.tmp 49) 65 rfl (w.heap.size+1) 99 i0 (.agg #[.int .i64 0,.string ⟨#[]⟩,.int .i64 0]) 3 32 Tryz.underlying65 hi hz0 hz1 hz2 rfl (by decide) _ _ _ rfl (hown4.alloc _) ⟨w4.heap.size,0,none⟩ 1 1 [.int .i64 K,.string (s.extract p (p+n)),.int .i64 (p:Int)] rfl rfl (cell_three_new _ _ _ _ _ _ (by simp)) (one_cells _ _ _) (by unfold maxLen;omega) (by omega) (by simp<;>omega) ?_;intro v' w5 hown' hgrow hne;have X:Hid (w5.ownsRow (w.heap.size+1) 99 3 v' (acc.length+1) (cellsOf acc++[.int .i64 K,.string (s.extract p (p+n)),.int .i64 (p:Int)])∧Below (w.heap.size+1) (w.alloc (.cells #[.int .i64 0,.int .i64 0] 28)) w5):=⟨hown',rel_tok (hbw4.alloc (by omega) _) (by simp<;>omega) (hown4.alloc _) hgrow⟩;clear hown' hgrow hne)
     | (go_at_call 55;refine (hsk _).mono ?_;rintro e w' ⟨j,rfl,hg2,hq2,hw⟩;obtain rfl:=hw.symm))
    have hT:=go_tok hlt hst.out HS.out
    obtain ⟨f',hf',HR'⟩:=hg2.on f _ R (by omega) hT.1
    have hjt:=hg2.top
    have hjl:=hg2.le
    go_roundw
    case rel=>exact ⟨j,f',_,hjt,rfl,hf',hq2,HR',own_tok X.out.1,by rw [List.length_append];simp;omega,X.out.2⟩
    case measure=>simp [intOf];omega
   ·have hst:Hid (stepL (s.data.toList.drop p)=.fault E):=H2 hE
    clear H1 H2
    have hend:=go_fault hlt hst.out HS.out
    subst hend
    go_wp2_with (first
     | (go_at_call 57;refine (HBR _).mono ?_;rintro e w1 ⟨fv,rfl,hb1,hreach⟩)
     | (go_at_call 56;refine hreach.mono ?_;rintro e w2 ⟨rfl,hb2⟩;obtain ⟨hown2,hbw2⟩:=fine_next hown hbw hb2)
     | (go_at_call 58;refine (HJ _ (fine_err HE.out hbw2)).mono ?_;rintro e w3 ⟨rfl,hb3⟩;obtain ⟨hown3,hbw3⟩:=fine_next hown2 hbw2 hb3;obtain ⟨c0,c1,e0,e1,hB3⟩:=boxes hbw3;clear hown2 hbw2 hb2 hb3))
    refine bodyPost_ret (v:=.tuple #[.slice none 0 0,.agg #[.int .i64 E,.int .i64 p]]) (by simp [results,Tryz.results26,go_sem,c0,c1]) rfl ⟨_,rfl,World.ownsRow_nil _ _ _ _,?_⟩
    exact ((below_old hbw3).setCell (jE _) _).setCell (jE _) _
  ·have hend:=go_end (by omega) HS.out
   subst hend
   go_wp2
   refine bodyPost_ret (v:=.tuple #[u4,.agg #[.int .i64 0,.int .i64 0]]) (by simp [results,Tryz.results26,go_sem,hc0,hc1]) rfl ⟨u4,rfl,?_,?_⟩
   ·exact ownsRow_le (ownsRow_setCell_below (ownsRow_setCell_below hown (by simp) _) (by simp) _) (by omega)
   ·exact ((below_old hbw).setCell (jE _) _).setCell (jE _) _
theorem oscan_long (s:ByteArray) (w:World) (hs:3000<s.size) :
  Calls Tryz.prog 26 #[.string s] w fun e w'=>∃ v,e=.returned (.tuple #[v,.agg #[.int .i64 (scan s.data.toList).code,.int .i64 (scan s.data.toList).place]]) ∧
   w'.ownsRow w.heap.size 99 3 v (scan s.data.toList).toks.length (cellsOf (scan s.data.toList).toks)∧Below w.heap.size w w':=by
 have hsz:(3000:Int)<(s.size:Int):=by omega
 have hR:scan s.data.toList=.err 1 0:=by rw [scan,if_pos (by rw [len_L];omega)]
 rw [hR]
 clear hR
 go_enter Tryz.func26,Tryz.ntmps26
 go_wp2
 refine bodyPost_ret (v:=.tuple #[.slice none 0 0,.agg #[.int .i64 1,.int .i64 0]]) (by simp [results,Tryz.results26,go_sem]) rfl ⟨_,rfl,World.ownsRow_nil _ _ _ _,?_⟩
 exact bal _
theorem scan_own (s:ByteArray):Scans HasErr 26 s:=by
 intro w he
 rcases Nat.lt_or_ge 3000 s.size with h | h
 ·exact oscan_long s w h
 ·exact oscan s w h he
end lexs
namespace syn
open lexs (Tok ltrI insI val)
inductive Tree where
 | node (kind:Int) (text:ByteArray) (num:Int) (kids:List Tree)
structure St where
 i:Nat
 bad:Bool
def St.fail (s:St):St:={ s with bad:=true }
def St.next (s:St):St:={ s with i:=s.i+1 }
def empty:ByteArray:=⟨#[]⟩
def eqS (x y:ByteArray):Bool:=x.toList==y.toList
section
variable (ts:List Tok)
def here (s:St):Option Tok:=if s.bad then none else ts[s.i]?
def txt (s:St):ByteArray :=
 match here ts s with
 | none=>empty
 | some t=>if t.kind==2 then empty else ⟨t.text.toArray⟩
def eat (x:ByteArray) (s:St):Bool × St:=if eqS (txt ts s) x then (true,s.next) else (false,s)
def must (x:ByteArray) (s:St):St:=if eqS (txt ts s) x then s.next else s.fail
def reserved:List ByteArray:=[⟨#[100,111]⟩,⟨#[101,108,115,101]⟩,⟨#[103,105,118,101,115]⟩,⟨#[104,105,103,104]⟩,⟨#[105,102]⟩,⟨#[105,109,112,111,114,116]⟩,⟨#[105,110]⟩,⟨#[108,111,119]⟩,⟨#[109,111,100,117,108,101]⟩,⟨#[111,117,116]⟩,⟨#[112,114,111,99]⟩,⟨#[112,117,98]⟩,⟨#[114,101,116,117,114,110]⟩,⟨#[119,104,105,108,101]⟩]
def isName (x:ByteArray):Bool :=
 decide (1≤x.size∧x.size≤16)&&ltrI ((x.data.toList.headD 0).toNat:Int)&&x.data.toList.all (fun c=>insI (c.toNat:Int))&&!(reserved.any fun y=>eqS y x)
def name (s:St):ByteArray × St:=if isName (txt ts s) then (txt ts s,s.next) else (empty,s.fail)
def whole (s:St):ByteArray × St :=
 let a:=name ts s
 let e:=eat ts ⟨#[46]⟩ a.2
 if e.1 then (a.1++⟨#[46]⟩++(name ts e.2).1,(name ts e.2).2) else (a.1,a.2)
def label (s:St):Int × St :=
 if eqS (txt ts s) ⟨#[104,105,103,104]⟩ then (1,s.next) else (0,must ts ⟨#[108,111,119]⟩ s)
def isNum (s:St):Bool:=match here ts s with | none=>false | some t=>t.kind==2
def number (s:St):Tree × St :=
 match here ts s with
 | none=>(.node 15 empty 0 [],s.fail)
 | some t=>if t.kind==2 then (.node 15 empty (val t.text:Int) [],s.next) else (.node 15 empty 0 [],s.fail)
def signs:List (ByteArray × Int × Int):=[(⟨#[61,61]⟩,9,0),(⟨#[60]⟩,8,0),(⟨#[43]⟩,1,1),(⟨#[45]⟩,2,1),(⟨#[124]⟩,7,1),(⟨#[42]⟩,3,2),(⟨#[47]⟩,4,2),(⟨#[37]⟩,5,2),(⟨#[38]⟩,6,2)]
def sign (x:ByteArray):Int × Int:=((signs.find? fun y=>eqS y.1 x).map (·.2)).getD (0,-1)
end
end syn
namespace syn
open lexs (Tok)
section
variable (ts:List Tok)
mutual
def exprF:Nat→St→Option (Tree × St)
 | 0,_=>none
 | f+1,s=>if s.bad then some (.node 0 empty 0 [],s) else boundF f 0 s
def boundF:Nat→Nat→St→Option (Tree × St)
 | 0,_,_=>none
 | f+1,least,s=>if 2<least then unaryF f s else (boundF f (least+1) s).bind fun q=>boundL f least q.1 q.2
def boundL:Nat→Nat→Tree→St→Option (Tree × St)
 | 0,_,_,_=>none
 | f+1,least,n,s =>
  if s.bad then some (n,s)
  else if (sign (txt ts s)).2 != (least:Int) then some (n,s)
  else (boundF f (least+1) s.next).bind fun q =>
   if least==0 then some (.node 19 empty (sign (txt ts s)).1 [n,q.1],q.2) else boundL f least (.node 19 empty (sign (txt ts s)).1 [n,q.1]) q.2
def unaryF:Nat→St→Option (Tree × St)
 | 0,_=>none
 | f+1,s =>
  if eqS (txt ts s) ⟨#[45]⟩ then (unaryF f s.next).bind fun q=>some (.node 20 empty 0 [q.1],q.2)
  else if eqS (txt ts s) ⟨#[33]⟩ then (unaryF f s.next).bind fun q=>some (.node 21 empty 0 [q.1],q.2)
  else if eqS (txt ts s) ⟨#[40]⟩ then askedF f s
  else if isNum ts s then some (number ts s)
  else if eqS (txt ts (whole ts s).2) ⟨#[40]⟩ then callF f (whole ts s).1 (whole ts s).2 else placeF f (whole ts s).1 (whole ts s).2
def askedF:Nat→St→Option (Tree × St)
 | 0,_=>none
 | f+1,s=>(exprF f (must ts ⟨#[40]⟩ s)).bind fun q=>some (q.1,must ts ⟨#[41]⟩ q.2)
def placeF:Nat→ByteArray→St→Option (Tree × St)
 | 0,_,_=>none
 | f+1,x,s =>
  if eqS (txt ts s) ⟨#[91]⟩ then (exprF f s.next).bind fun q=>some (.node 17 x 0 [q.1],must ts ⟨#[93]⟩ q.2) else some (.node 16 x 0 [],s)
def callF:Nat→ByteArray→St→Option (Tree × St)
 | 0,_,_=>none
 | f+1,x,s =>
  if eqS (txt ts (must ts ⟨#[40]⟩ s)) ⟨#[41]⟩ then some (.node 18 x 0 [],(must ts ⟨#[40]⟩ s).next) else callL f x [] (must ts ⟨#[40]⟩ s) true
def callL:Nat→ByteArray→List Tree→St→Bool→Option (Tree × St)
 | 0,_,_,_,_=>none
 | f+1,x,ks,s,on =>
  if on&&!s.bad then (exprF f s).bind fun q=>callL f x (ks++[q.1]) (eat ts ⟨#[44]⟩ q.2).2 (eat ts ⟨#[44]⟩ q.2).1
  else some (.node 18 x 0 ks,must ts ⟨#[41]⟩ s)
end
end
end syn
namespace syn
open Go.RowKit
def cell4 (w:World) (g o:Nat) (v:Value):Prop:=∃ x0 x1 x2 x3,v=.agg #[x0,x1,x2,x3]∧w.cell? ⟨g,o,none⟩=some x0∧w.cell? ⟨g,o+1,none⟩=some x1∧w.cell? ⟨g,o+2,none⟩=some x2∧w.cell? ⟨g,o+3,none⟩=some x3
mutual
def Lies (P:Nat→Prop) (w:World):Tree→Value→Prop
 | .node k x m ks,v=>∃ a c,v=.agg #[.int .i64 k,.string x,.int .i64 m,.slice a ks.length c]∧(ks.length≤4611686018427387904∧ks.length≤c)∧(ks≠[]→∃ g o,a=some ⟨g,o,none⟩∧P g∧LiesAt P w ks g o)
def LiesAt (P:Nat→Prop) (w:World):List Tree→Nat→Nat→Prop
 | [],_,_=>True
 | t :: r,g,o=>(∃ v,cell4 w g o v∧Lies P w t v)∧LiesAt P w r g (o+4)
end
mutual
theorem Lies.to {P Q:Nat→Prop} {w w':World} (hPQ:∀ b,P b→Q b) (hw:∀ b,P b→∀ o,w'.cell? ⟨b,o,none⟩=w.cell? ⟨b,o,none⟩):∀ {t:Tree} {v:Value},Lies P w t v→Lies Q w' t v
 | .node k x m ks,v,h=>by
  unfold Lies at h ⊢
  obtain ⟨a,c,e,hl,hk⟩:=h
  refine ⟨a,c,e,hl,fun hne=>?_⟩
  obtain ⟨g,o,e2,hp,hat⟩:=hk hne
  exact ⟨g,o,e2,hPQ _ hp,LiesAt.to hPQ hw hp hat⟩
theorem LiesAt.to {P Q:Nat→Prop} {w w':World} (hPQ:∀ b,P b→Q b) (hw:∀ b,P b→∀ o,w'.cell? ⟨b,o,none⟩=w.cell? ⟨b,o,none⟩):∀ {ks:List Tree} {g o:Nat},P g→LiesAt P w ks g o→LiesAt Q w' ks g o
 | [],g,o,hp,h=>by unfold LiesAt;trivial
 | t :: r,g,o,hp,h=>by
  unfold LiesAt at h ⊢
  obtain ⟨⟨v,⟨x0,x1,x2,x3,e,c0,c1,c2,c3⟩,hl⟩,hr⟩:=h
  refine ⟨⟨v,⟨x0,x1,x2,x3,e,?_,?_,?_,?_⟩,Lies.to hPQ hw hl⟩,LiesAt.to hPQ hw hp hr⟩
  ·rw [hw _ hp];exact c0
  ·rw [hw _ hp];exact c1
  ·rw [hw _ hp];exact c2
  ·rw [hw _ hp];exact c3
end
theorem LiesAt.get {P:Nat→Prop} {w:World}:∀ {ks:List Tree} {g o:Nat},LiesAt P w ks g o→∀ (i:Nat) (hi:i<ks.length),∃ v,cell4 w g (o+i*4) v∧Lies P w ks[i] v
 | [],g,o,h,i,hi=>by simp at hi
 | t :: r,g,o,h,i,hi=>by
  unfold LiesAt at h
  cases i with
  | zero=>simpa using h.1
  | succ i =>
   have:=LiesAt.get h.2 i (by simpa using hi)
   have e:o+(i+1)*4=o+4+i*4:=by omega
   rw [e]
   exact this
theorem Lies.below {w w':World} {t:Tree} {v:Value} (h:Lies (·<w.heap.size) w t v) (hb:Below w.heap.size w w'):Lies (·<w'.heap.size) w' t v :=
 h.to (fun b hb'=>Nat.lt_of_lt_of_le hb' hb.size) (fun b hb' o=>hb.cell (p:=⟨b,o,none⟩) hb')
theorem LiesAt.below {w w':World} {ks:List Tree} {g o:Nat} (hg:g<w.heap.size) (h:LiesAt (·<w.heap.size) w ks g o) (hb:Below w.heap.size w w'):LiesAt (·<w'.heap.size) w' ks g o :=
 h.to (fun b hb'=>Nat.lt_of_lt_of_le hb' hb.size) (fun b hb' o=>hb.cell (p:=⟨b,o,none⟩) hb') hg
theorem kid_lt {k:Int} {x:ByteArray} {m:Int} {ks:List Tree} {i:Nat} (hi:i<ks.length):SizeOf.sizeOf ks[i]<SizeOf.sizeOf (Tree.node k x m ks):=by
 have h1:=List.sizeOf_lt_of_mem (List.getElem_mem hi)
 simp
 omega
end syn
namespace syn
open Go.RowKit
open lexs (Tok cellsOf tok_cells own_shape numE)
abbrev Fr (r:Nat) (w w':World):Prop:=w.grownBy w' (some r)
theorem Fr.refl (r:Nat) (w:World):Fr r w w:=World.grownBy.refl _ _
theorem Fr.drewN {r:Nat} {w w':World} (h:Fr r w w') (n:Nat):Fr r w (w'.drewN n):=⟨h.os,h.tape,h.output,h.size,h.block⟩
theorem Fr.trans {r:Nat} {a b c:World} (h:Fr r a b) (k:Fr r b c):Fr r a c :=
 ⟨k.os.trans h.os,k.tape.trans h.tape,k.output.trans h.output,Nat.le_trans h.size k.size,fun j hj hn=>(k.block j (Nat.lt_of_lt_of_le hj h.size) hn).trans (h.block j hj hn)⟩
theorem Fr.set {r:Nat} {w w':World} (h:Fr r w w') (o:Nat) (v:Value):Fr r w (w'.setCell ⟨r,o,none⟩ v) :=
 ⟨h.os,h.tape,h.output,by rw [World.size_setCell];exact h.size,fun j hj hn=>(Below.heap_setCell _ _ _ _ (fun e=>hn (by rw [e]))).trans (h.block j hj hn)⟩
theorem eqS_empty {x:ByteArray} (h:eqS empty x=true):x.size=0:=by
 unfold eqS at h
 rw [beq_iff_eq,ByteArray.toList_eq,ByteArray.toList_eq] at h
 have h2:=congrArg List.length h
 rw [lexs.len_L,lexs.len_L] at h2
 exact h2.symm
theorem txt_lt {ts:List Tok} {s:St} {x:ByteArray} (hx:0<x.size) (h:eqS (txt ts s) x=true):s.i<ts.length:=by
 unfold txt here at h
 rcases Nat.lt_or_ge s.i ts.length with hl | hl
 ·exact hl
 ·exfalso
  rw [List.getElem?_eq_none hl] at h
  cases hb:s.bad<;>rw [hb] at h<;>simp at h<;>have:=eqS_empty h<;>omega
end syn
namespace syn
open Go.RowKit
open lexs (Tok ltrI insI)
theorem isName_short {x:ByteArray} (h:¬ (1≤x.size∧x.size≤16)):isName x=false:=by unfold isName;rw [decide_eq_false h];rfl
def sv (k:Nat):ByteArray:=(signs.getD k (empty,0,-1)).1
def so (k:Nat):Int:=(signs.getD k (empty,0,-1)).2.1
def sl (k:Nat):Int:=(signs.getD k (empty,0,-1)).2.2
theorem nine {k:Nat} (h:k<9):k=0∨k=1∨k=2∨k=3∨k=4∨k=5∨k=6∨k=7∨k=8:=by omega
theorem sv_at {k:Nat} (h:k<signs.length):sv k=signs[k].1∧(so k,sl k)=signs[k].2:=by
 unfold sv so sl
 rw [List.getD_eq_getElem?_getD,List.getElem?_eq_getElem h]
 exact ⟨rfl,rfl⟩
theorem sign_none (x:ByteArray) (h:∀ j,j<9→eqS (sv j) x=false):sign x=(0,-1):=by
 unfold sign
 rw [List.find?_eq_none.2]
 ·rfl
 ·intro y hy
  obtain ⟨k,hk,rfl⟩:=List.mem_iff_getElem.1 hy
  have:=h k hk
  rw [(sv_at hk).1] at this
  simpa using this
section
variable {w:World} {r:Nat} {L:Value} {ts:List Tok} {s:St}
theorem Fr.below {w':World} (hb:Below w.heap.size w w'):Fr r w w':=⟨hb.os,hb.tape,hb.output,hb.size,fun j hj _=>hb.block j hj⟩
end
theorem ret_str {x y:ByteArray} (h:x=y):Ending.returned (.string x)=.returned (.string y):=by rw [h]
theorem eqS_self (x:ByteArray):eqS x x=true:=by unfold eqS;exact beq_self_eq_true _
theorem name_size (ts:List Tok) (s:St):(name ts s).1.size≤16:=by
 unfold name
 cases he:isName (txt ts s)
 ·exact Nat.zero_le _
 ·simp only [if_true]
  rcases Nat.lt_or_ge 16 (txt ts s).size with h | h
  ·rw [isName_short (by omega)] at he
   exact absurd he (by decide)
  ·exact h
section
variable {w:World} {r:Nat} {L:Value} {ts:List Tok} {s:St}
end
end syn
namespace syn
open Go.RowKit
open lexs (Tok ltrI insI digB val numE tok_cells own_shape)
section
variable {w:World} {r:Nat} {L:Value} {ts:List Tok} {s:St}
theorem Fr.alloc {w':World} (h:Fr r w w') (o:Obj):Fr r w (w'.alloc o):=h.trans (Fr.below (bal o))
theorem Lies.leaf (P:Nat→Prop) (w:World) (k:Int) (x:ByteArray) (m:Int):Lies P w (.node k x m []) (.agg #[.int .i64 k,.string x,.int .i64 m,.slice none 0 0]):=by
 unfold Lies
 exact ⟨none,0,rfl,⟨by simp,by simp⟩,fun h=>absurd rfl h⟩
structure Box4 (w:World) (N:Nat) (x0 x1 x2 x3:Value):Prop where
 c0:w.cell? ⟨N,0,none⟩=some x0
 c1:w.cell? ⟨N,1,none⟩=some x1
 c2:w.cell? ⟨N,2,none⟩=some x2
 c3:w.cell? ⟨N,3,none⟩=some x3
 f0:w.frozen? ⟨N,0,none⟩=false
 f1:w.frozen? ⟨N,1,none⟩=false
 f2:w.frozen? ⟨N,2,none⟩=false
 f3:w.frozen? ⟨N,3,none⟩=false
theorem Box4.new (w:World) (x0 x1 x2 x3:Value) (T:TypeId):Box4 (w.alloc (.cells #[x0,x1,x2,x3] T)) w.heap.size x0 x1 x2 x3:=by
 constructor<;>simp
theorem Box4.lt {N:Nat} {x0 x1 x2 x3:Value} (h:Box4 w N x0 x1 x2 x3):N<w.heap.size:=World.block_lt_of_cell? w ⟨N,0,none⟩ h.c0
theorem Box4.fr {w':World} {N:Nat} {x0 x1 x2 x3:Value} (h:Box4 w N x0 x1 x2 x3) (hF:Fr r w w') (hN:N≠r):Box4 w' N x0 x1 x2 x3:=by
 have hb:=hF.block N h.lt (by simpa using hN)
 exact ⟨(World.cell?_of_block (a:=⟨N,0,none⟩) hb).trans h.c0,(World.cell?_of_block (a:=⟨N,1,none⟩) hb).trans h.c1,(World.cell?_of_block (a:=⟨N,2,none⟩) hb).trans h.c2,(World.cell?_of_block (a:=⟨N,3,none⟩) hb).trans h.c3,
  (World.frozen?_of_block (a:=⟨N,0,none⟩) hb).trans h.f0,(World.frozen?_of_block (a:=⟨N,1,none⟩) hb).trans h.f1,(World.frozen?_of_block (a:=⟨N,2,none⟩) hb).trans h.f2,(World.frozen?_of_block (a:=⟨N,3,none⟩) hb).trans h.f3⟩
theorem Box4.alloc {N:Nat} {x0 x1 x2 x3:Value} (h:Box4 w N x0 x1 x2 x3) (o:Obj):Box4 (w.alloc o) N x0 x1 x2 x3 :=
 h.fr (r:=w.heap.size) (Fr.below (bal o)) (by have:=h.lt;omega)
theorem Box4.drewN {N:Nat} {x0 x1 x2 x3:Value} (h:Box4 w N x0 x1 x2 x3) (n:Nat):Box4 (w.drewN n) N x0 x1 x2 x3:=⟨h.c0,h.c1,h.c2,h.c3,h.f0,h.f1,h.f2,h.f3⟩
theorem Box4.other {N M o:Nat} {x0 x1 x2 x3:Value} (h:Box4 w N x0 x1 x2 x3) (hM:M≠N) (v:Value):Box4 (w.setCell ⟨M,o,none⟩ v) N x0 x1 x2 x3 :=
 h.fr (r:=M) ((Fr.refl _ _).set o v) (by omega)
theorem Box4.set2 {N:Nat} {x0 x1 x2 x3:Value} (h:Box4 w N x0 x1 x2 x3) (v:Value):Box4 (w.setCell ⟨N,2,none⟩ v) N x0 x1 v x3 :=
 ⟨by rw [jD _ _ _ _ (by simp)];exact h.c0,by rw [jD _ _ _ _ (by simp)];exact h.c1,World.cell?_setCell_same _ _ _ h.c2,by rw [jD _ _ _ _ (by simp)];exact h.c3,by simp [h.f0],by simp [h.f1],by simp [h.f2],by simp [h.f3]⟩
theorem Box4.set3 {N:Nat} {x0 x1 x2 x3:Value} (h:Box4 w N x0 x1 x2 x3) (v:Value):Box4 (w.setCell ⟨N,3,none⟩ v) N x0 x1 x2 v :=
 ⟨by rw [jD _ _ _ _ (by simp)];exact h.c0,by rw [jD _ _ _ _ (by simp)];exact h.c1,by rw [jD _ _ _ _ (by simp)];exact h.c2,World.cell?_setCell_same _ _ _ h.c3,by simp [h.f0],by simp [h.f1],by simp [h.f2],by simp [h.f3]⟩
theorem Fr.setNew {w':World} (h:Fr r w w') {N o:Nat} (hN:w.heap.size≤N) (v:Value):Fr r w (w'.setCell ⟨N,o,none⟩ v) :=
 ⟨h.os,h.tape,h.output,by rw [World.size_setCell];exact h.size,fun j hj hn=>(Below.heap_setCell _ _ _ _ (by simp;omega)).trans (h.block j hj hn)⟩
theorem Fr.put4 {w':World} (h:Fr r w w') {N:Nat} (hN:w.heap.size≤N) (x0 x1 x2 x3:Value):Fr r w ((((w'.setCell ⟨N,0,none⟩ x0).setCell ⟨N,1,none⟩ x1).setCell ⟨N,2,none⟩ x2).setCell ⟨N,3,none⟩ x3) :=
 (((h.setNew hN x0).setNew hN x1).setNew hN x2).setNew hN x3
end
end syn
namespace syn
open Go.RowKit
open lexs (Tok tok_cells own_shape)
section
variable {w:World} {r:Nat} {L:Value} {ts:List Tok} {s:St}
theorem Lies.shape {P:Nat→Prop} {t:Tree} {v:Value} (h:Lies P w t v):∃ k x m sl,v=.agg #[.int .i64 k,.string x,.int .i64 m,sl]∧∃ a n c,sl=.slice a n c:=by
 cases t with
 | node k x m ks =>
  unfold Lies at h
  obtain ⟨a,c,rfl,_⟩:=h
  exact ⟨k,x,m,_,rfl,a,ks.length,c,rfl⟩
theorem Lies.fr {B:Nat} {w1 w2:World} {t:Tree} {v:Value} (h:Lies (fun b=>B≤b∧b<w1.heap.size) w1 t v) (hr:r<B) (hF:Fr r w1 w2):Lies (fun b=>B≤b∧b<w2.heap.size) w2 t v :=
 h.to (fun b hb=>⟨hb.1,Nat.lt_of_lt_of_le hb.2 hF.size⟩) (fun b hb o=>World.cell?_of_block (a:=⟨b,o,none⟩) (hF.block b hb.2 (by simp;omega)))
theorem Lies.low {B B':Nat} {t:Tree} {v:Value} (h:Lies (fun b=>B≤b∧b<w.heap.size) w t v) (hB:B'≤B):Lies (fun b=>B'≤b∧b<w.heap.size) w t v :=
 h.to (fun b hb=>⟨Nat.le_trans hB hb.1,hb.2⟩) (fun _ _ _=>rfl)
theorem Fr.put (w:World) (N:Nat) (x0 x1 x2 x3:Value):Fr N w ((((w.setCell ⟨N,0,none⟩ x0).setCell ⟨N,1,none⟩ x1).setCell ⟨N,2,none⟩ x2).setCell ⟨N,3,none⟩ x3) :=
 ((((Fr.refl _ _).set _ _).set _ _).set _ _).set _ _
theorem Fr.al (w:World) (o:Obj):Fr r w (w.alloc o):=(Fr.refl _ _).alloc o
theorem cell4_new (w:World) {y0 y1 y2 y3:Value} {T:TypeId} {M:Nat} (hM:M=w.heap.size):cell4 (w.alloc (.cells #[y0,y1,y2,y3] T)) M 0 (.agg #[y0,y1,y2,y3]):=by
 subst hM
 exact ⟨y0,y1,y2,y3,rfl,by simp,by simp,by simp,by simp⟩
theorem Lies.one {P:Nat→Prop} {M:Nat} {t:Tree} {v:Value} {k m:Int} {x:ByteArray} {c:Nat} (hP:P M) (h4:cell4 w M 0 v) (hL:Lies P w t v) (hc:1≤c:=by omega):Lies P w (.node k x m [t]) (.agg #[.int .i64 k,.string x,.int .i64 m,.slice (some ⟨M,0,none⟩) 1 c]):=by
 unfold Lies
 refine ⟨some ⟨M,0,none⟩,c,rfl,⟨by simp,by simpa using hc⟩,fun _=>⟨M,0,rfl,hP,?_⟩⟩
 unfold LiesAt
 exact ⟨⟨v,h4,hL⟩,by unfold LiesAt;trivial⟩
end
section
variable {r:Nat} {L:Value} {ts:List Tok} {s:St}
theorem eqS_lit (y:ByteArray) (l:List UInt8):eqS y ⟨l.toArray⟩=(y.toList==l):=by unfold eqS;rw [ByteArray.toList_eq ⟨l.toArray⟩]
end
section
variable {w:World} {r:Nat} {L:Value} {ts:List Tok} {s:St}
theorem Lies.frP {P Q:Nat→Prop} {x:Nat} {w1 w2:World} {t:Tree} {v:Value} (h:Lies P w1 t v) (hF:Fr x w1 w2) (hP:∀ b,P b→b<w1.heap.size∧b≠x) (hQ:∀ b,P b→Q b):Lies Q w2 t v :=
 h.to hQ (fun b hb o=>World.cell?_of_block (a:=⟨b,o,none⟩) (hF.block b (hP b hb).1 (by have:=(hP b hb).2;simpa using this)))
theorem Lies.two {P:Nat→Prop} {M:Nat} {t t':Tree} {v v':Value} {k m:Int} {x:ByteArray} {c:Nat} (hP:P M) (h4:cell4 w M 0 v) (h4':cell4 w M 4 v') (hL:Lies P w t v) (hL':Lies P w t' v') (hc:2≤c:=by omega):Lies P w (.node k x m [t,t']) (.agg #[.int .i64 k,.string x,.int .i64 m,.slice (some ⟨M,0,none⟩) 2 c]):=by
 unfold Lies
 refine ⟨some ⟨M,0,none⟩,c,rfl,⟨by simp,by simpa using hc⟩,fun _=>⟨M,0,rfl,hP,?_⟩⟩
 unfold LiesAt
 refine ⟨⟨v,h4,hL⟩,?_⟩
 unfold LiesAt
 exact ⟨⟨v',h4',hL'⟩,by unfold LiesAt;trivial⟩
theorem cell4_two (w:World) {y0 y1 y2 y3 z0 z1 z2 z3:Value} {T:TypeId} {M:Nat} (hM:M=w.heap.size):cell4 (w.alloc (.cells #[y0,y1,y2,y3,z0,z1,z2,z3] T)) M 0 (.agg #[y0,y1,y2,y3])∧cell4 (w.alloc (.cells #[y0,y1,y2,y3,z0,z1,z2,z3] T)) M 4 (.agg #[z0,z1,z2,z3]):=by
 subst hM
 exact ⟨⟨y0,y1,y2,y3,rfl,by simp,by simp,by simp,by simp⟩,⟨z0,z1,z2,z3,rfl,by simp,by simp,by simp,by simp⟩⟩
theorem Box4.put {N:Nat} {x0 x1 x2 x3 y0 y1 y2 y3:Value} (h:Box4 w N x0 x1 x2 x3):Box4 ((((w.setCell ⟨N,0,none⟩ y0).setCell ⟨N,1,none⟩ y1).setCell ⟨N,2,none⟩ y2).setCell ⟨N,3,none⟩ y3) N y0 y1 y2 y3:=by
 have h0:∀ o,(World.setCell w ⟨N,0,none⟩ y0).frozen? ⟨N,o,none⟩=w.frozen? ⟨N,o,none⟩:=fun o=>by simp
 refine ⟨?_,?_,?_,?_,by simp [h.f0],by simp [h.f1],by simp [h.f2],by simp [h.f3]⟩
 ·rw [jD _ _ _ _ (by simp),jD _ _ _ _ (by simp),jD _ _ _ _ (by simp)]
  exact World.cell?_setCell_same _ _ _ h.c0
 ·rw [jD _ _ _ _ (by simp),jD _ _ _ _ (by simp)]
  exact World.cell?_setCell_same _ _ _ (u:=x1) (by rw [jD _ _ _ _ (by simp)];exact h.c1)
 ·rw [jD _ _ _ _ (by simp)]
  exact World.cell?_setCell_same _ _ _ (u:=x2) (by rw [jD _ _ _ _ (by simp),jD _ _ _ _ (by simp)];exact h.c2)
 ·exact World.cell?_setCell_same _ _ _ (u:=x3) (by rw [jD _ _ _ _ (by simp),jD _ _ _ _ (by simp),jD _ _ _ _ (by simp)];exact h.c3)
theorem sign_lt (h:0≤(sign (txt ts s)).2):s.i<ts.length:=by
 rcases Nat.lt_or_ge s.i ts.length with hl | hl
 ·exact hl
 ·exfalso
  have he:txt ts s=empty:=by
   unfold txt here
   rw [List.getElem?_eq_none hl]
   cases s.bad<;>rfl
  rw [he,sign_none empty (fun j hj=>?_)] at h
  ·exact absurd h (by decide)
  ·rw [show empty=⟨([]:List UInt8).toArray⟩ from rfl,eqS_lit (sv j) [],ByteArray.toList_eq]
   rcases nine hj with rfl | rfl | rfl | rfl | rfl | rfl | rfl | rfl | rfl<;>rfl
end
end syn
namespace syn
open lexs (Tok)
section
variable {ts:List Tok} {s:St}
def left (ts:List Tok) (s:St):Nat:=if s.bad then 0 else ts.length - s.i
theorem left_fail:left ts s.fail=0:=rfl
theorem left_bad (h:s.bad=true):left ts s=0:=by unfold left;rw [h];rfl
theorem left_next_le:left ts s.next≤left ts s:=by
 unfold left St.next
 dsimp only
 split<;>omega
theorem left_hit {x:ByteArray} (hx:0<x.size) (h:eqS (txt ts s) x=true):left ts s.next+1=left ts s:=by
 have hl:=txt_lt hx h
 have hb:s.bad=false:=by
  cases hb:s.bad
  ·rfl
  ·exfalso
   have he:txt ts s=empty:=by unfold txt here;rw [hb];rfl
   rw [he] at h
   have:=eqS_empty h
   omega
 unfold left St.next
 dsimp only
 rw [hb]
 simp
 omega
theorem left_must (x:ByteArray) (hx:0<x.size):left ts (must ts x s)≤left ts s∧((must ts x s).bad=true∨left ts (must ts x s)+1=left ts s):=by
 unfold must
 cases h:eqS (txt ts s) x
 ·simp only [Bool.false_eq_true,if_false]
  exact ⟨by rw [left_fail];omega,.inl rfl⟩
 ·simp only [if_true]
  have:=left_hit hx h
  exact ⟨by omega,.inr this⟩
theorem left_name:left ts (name ts s).2≤left ts s:=by
 unfold name
 split
 ·exact left_next_le
 ·simp only [left_fail];omega
theorem left_eat (x:ByteArray):left ts (eat ts x s).2≤left ts s:=by
 unfold eat
 split
 ·exact left_next_le
 ·exact jE _
theorem left_whole:left ts (whole ts s).2≤left ts s:=by
 unfold whole
 dsimp only
 split
 ·exact Nat.le_trans left_name (Nat.le_trans (left_eat _) left_name)
 ·exact left_name
theorem left_number:left ts (number ts s).2≤left ts s:=by
 unfold number
 split
 ·simp only [left_fail];omega
 ·split
  ·exact left_next_le
  ·simp only [left_fail];omega
def Has (ts:List Tok) (s:St) (o:Option (Tree × St)):Prop:=∃ q,o=some q∧left ts q.2≤left ts s
structure Enough (ts:List Tok) (f:Nat):Prop where
 e:∀ s:St,(s.bad=true∧1≤f)∨10*left ts s+8≤f→Has ts s (exprF ts f s)
 b:∀ (s:St) (l:Nat),l≤3→10*left ts s+7≤f+l→Has ts s (boundF ts f l s)
 bl:∀ (s:St) (l:Nat) (n:Tree),l≤2→10*left ts s+6≤f+l→Has ts s (boundL ts f l n s)
 u:∀ s:St,10*left ts s+3≤f→Has ts s (unaryF ts f s)
 a:∀ s:St,10*left ts s+2≤f→Has ts s (askedF ts f s)
 p:∀ (s:St) (x:ByteArray),10*left ts s+2≤f→Has ts s (placeF ts f x s)
 c:∀ (s:St) (x:ByteArray),10*left ts s+2≤f→Has ts s (callF ts f x s)
 cl:∀ (s:St) (x:ByteArray) (ks:List Tree) (on:Bool),(((on&&!s.bad)=false∧1≤f)∨10*left ts s+9≤f)→Has ts s (callL ts f x ks s on)
theorem enough (ts:List Tok) (f:Nat):Enough ts f:=by
 induction f with
 | zero=>exact ⟨fun s h=>by omega,fun s l h1 h2=>by omega,fun s l n h1 h2=>by omega,fun s h=>by omega,fun s h=>by omega,fun s x h=>by omega,fun s x h=>by omega,fun s x ks on h=>by omega⟩
 | succ f ih =>
  refine ⟨fun s h=>?_,fun s l hl h=>?_,fun s l n hl h=>?_,fun s h=>?_,fun s h=>?_,fun s x h=>?_,fun s x h=>?_,fun s x ks on h=>?_⟩
  ·unfold exprF
   cases hb:s.bad
   ·simp only [Bool.false_eq_true,if_false]
    refine ih.b s 0 (by omega) ?_
    rcases h with ⟨h,_⟩ | h
    ·rw [hb] at h;simp at h
    ·omega
   ·simp only [if_true]
    exact ⟨_,rfl,jE _⟩
  ·unfold boundF
   split
   ·exact ih.u s (by omega)
   ·obtain ⟨q,hq,hle⟩:=ih.b s (l+1) (by omega) (by omega)
    rw [hq]
    simp only [Option.bind_some]
    obtain ⟨q',hq',hle'⟩:=ih.bl q.2 l q.1 (by omega) (by omega)
    exact ⟨q',hq',by omega⟩
  ·unfold boundL
   cases hb:s.bad
   ·simp only [Bool.false_eq_true,if_false]
    split
    ·exact ⟨_,rfl,jE _⟩
    ·rename_i hne
     have hk:(sign (txt ts s)).2=(l:Int):=by simpa using hne
     have hlt:=sign_lt (ts:=ts) (s:=s) (by omega)
     have hn:left ts s.next+1=left ts s:=by
      unfold left St.next
      dsimp only
      rw [hb]
      simp
      omega
     obtain ⟨q,hq,hle⟩:=ih.b s.next (l+1) (by omega) (by omega)
     rw [hq]
     simp only [Option.bind_some]
     split
     ·exact ⟨_,rfl,by dsimp only;omega⟩
     ·obtain ⟨q',hq',hle'⟩:=ih.bl q.2 l (.node 19 empty (sign (txt ts s)).1 [n,q.1]) (by omega) (by omega)
      exact ⟨q',hq',by omega⟩
   ·simp only [if_true]
    exact ⟨_,rfl,jE _⟩
  ·unfold unaryF
   cases h1:eqS (txt ts s) ⟨#[45]⟩
   ·simp only [Bool.false_eq_true,if_false]
    cases h2:eqS (txt ts s) ⟨#[33]⟩
    ·simp only [Bool.false_eq_true,if_false]
     split
     ·exact ih.a s (by omega)
     ·split
      ·exact ⟨_,rfl,left_number⟩
      ·have hw:=left_whole (ts:=ts) (s:=s)
       split
       ·obtain ⟨q,hq,hle⟩:=ih.c (whole ts s).2 (whole ts s).1 (by omega)
        exact ⟨q,hq,by omega⟩
       ·obtain ⟨q,hq,hle⟩:=ih.p (whole ts s).2 (whole ts s).1 (by omega)
        exact ⟨q,hq,by omega⟩
    ·simp only [if_true]
     have hn:=left_hit (by decide) h2
     obtain ⟨q,hq,hle⟩:=ih.u s.next (by omega)
     rw [hq]
     exact ⟨_,rfl,by dsimp only;omega⟩
   ·simp only [if_true]
    have hn:=left_hit (by decide) h1
    obtain ⟨q,hq,hle⟩:=ih.u s.next (by omega)
    rw [hq]
    exact ⟨_,rfl,by dsimp only;omega⟩
  ·unfold askedF
   have hm:=left_must (ts:=ts) (s:=s) ⟨#[40]⟩ (by decide)
   obtain ⟨q,hq,hle⟩:=ih.e (must ts ⟨#[40]⟩ s) (by rcases hm.2 with h1 | h1;exact .inl ⟨h1,by omega⟩;exact .inr (by omega))
   rw [hq]
   have hm2:=left_must (ts:=ts) (s:=q.2) ⟨#[41]⟩ (by decide)
   exact ⟨_,rfl,by dsimp only;omega⟩
  ·unfold placeF
   split
   ·rename_i h1
    have hn:=left_hit (by decide) h1
    obtain ⟨q,hq,hle⟩:=ih.e s.next (.inr (by omega))
    rw [hq]
    have hm2:=left_must (ts:=ts) (s:=q.2) ⟨#[93]⟩ (by decide)
    exact ⟨_,rfl,by dsimp only;omega⟩
   ·exact ⟨_,rfl,jE _⟩
  ·unfold callF
   have hm:=left_must (ts:=ts) (s:=s) ⟨#[40]⟩ (by decide)
   split
   ·rename_i h1
    have hn:=left_hit (by decide) h1
    exact ⟨_,rfl,by dsimp only;omega⟩
   ·obtain ⟨q,hq,hle⟩:=ih.cl (must ts ⟨#[40]⟩ s) x [] true (by rcases hm.2 with h1 | h1;exact .inl ⟨by rw [h1];rfl,by omega⟩;exact .inr (by omega))
    exact ⟨q,hq,by omega⟩
  ·unfold callL
   cases hc:(on&&!s.bad)
   ·simp only [Bool.false_eq_true,if_false]
    exact ⟨_,rfl,(left_must (ts:=ts) (s:=s) ⟨#[41]⟩ (by decide)).1⟩
   ·simp only [if_true]
    have h9:10*left ts s+9≤f+1:=by
     rcases h with ⟨h,_⟩ | h
     ·rw [hc] at h;simp at h
     ·exact h
    obtain ⟨q,hq,hle⟩:=ih.e s (.inr (by omega))
    rw [hq]
    simp only [Option.bind_some]
    cases he:eqS (txt ts q.2) ⟨#[44]⟩
    ·have e1:eat ts ⟨#[44]⟩ q.2=(false,q.2):=by unfold eat;rw [he];rfl
     rw [e1]
     obtain ⟨q',hq',hle'⟩:=ih.cl q.2 x (ks++[q.1]) false (.inl ⟨rfl,by omega⟩)
     exact ⟨q',hq',by omega⟩
    ·have e1:eat ts ⟨#[44]⟩ q.2=(true,q.2.next):=by unfold eat;rw [he];rfl
     rw [e1]
     have hn:=left_hit (by decide) he
     obtain ⟨q',hq',hle'⟩:=ih.cl q.2.next x (ks++[q.1]) true (.inr (by omega))
     exact ⟨q',hq',by omega⟩
end
section
variable (ts:List Tok)
mutual
def blockF:Nat→St→Option (Tree × St)
 | 0,_=>none
 | f+1,s=>blockL f [] (must ts ⟨#[123]⟩ s)
def blockL:Nat→List Tree→St→Option (Tree × St)
 | 0,_,_=>none
 | f+1,ks,s =>
  if s.bad then some (.node 6 empty 0 ks,s)
  else if eqS (txt ts s) ⟨#[125]⟩ then some (.node 6 empty 0 ks,s.next)
  else (statF f s).bind fun q=>blockL f (ks++[q.1]) q.2
def statF:Nat→St→Option (Tree × St)
 | 0,_=>none
 | f+1,s =>
  if eqS (txt ts s) ⟨#[105,102]⟩ then
   (askedF ts f s.next).bind fun x=>(blockF f x.2).bind fun b =>
    if eqS (txt ts b.2) ⟨#[101,108,115,101]⟩ then (blockF f b.2.next).bind fun c=>some (.node 10 empty 0 [x.1,b.1,c.1],c.2) else some (.node 10 empty 0 [x.1,b.1],b.2)
  else if eqS (txt ts s) ⟨#[119,104,105,108,101]⟩ then (askedF ts f s.next).bind fun x=>(blockF f x.2).bind fun b=>some (.node 11 empty 0 [x.1,b.1],b.2)
  else if eqS (txt ts s) ⟨#[108,111,119]⟩||eqS (txt ts s) ⟨#[104,105,103,104]⟩ then
   (exprF ts f (must ts ⟨#[61]⟩ (name ts (label ts s).2).2)).bind fun x=>some (.node 7 (name ts (label ts s).2).1 (label ts s).1 [x.1],must ts ⟨#[59]⟩ x.2)
  else if eqS (txt ts s) ⟨#[100,111]⟩ then (callF ts f (whole ts s.next).1 (whole ts s.next).2).bind fun x=>some (.node 9 empty 0 [x.1],must ts ⟨#[59]⟩ x.2)
  else if eqS (txt ts s) ⟨#[111,117,116]⟩ then (exprF ts f (label ts s.next).2).bind fun x=>some (.node 12 empty (label ts s.next).1 [x.1],must ts ⟨#[59]⟩ x.2)
  else if eqS (txt ts s) ⟨#[105,110]⟩ then (placeF ts f (whole ts (label ts s.next).2).1 (whole ts (label ts s.next).2).2).bind fun x=>some (.node 13 empty (label ts s.next).1 [x.1],must ts ⟨#[59]⟩ x.2)
  else if eqS (txt ts s) ⟨#[114,101,116,117,114,110]⟩ then (exprF ts f s.next).bind fun x=>some (.node 14 empty 0 [x.1],must ts ⟨#[59]⟩ x.2)
  else (placeF ts f (whole ts s).1 (whole ts s).2).bind fun x=>(exprF ts f (must ts ⟨#[61]⟩ x.2)).bind fun y=>some (.node 8 empty 0 [x.1,y.1],must ts ⟨#[59]⟩ y.2)
end
end
section
variable (ts:List Tok)
def pubS (s:St):St:=if eqS (txt ts s) ⟨#[112,117,98]⟩ then s.next else s
def pubN (s:St):Int:=if eqS (txt ts s) ⟨#[112,117,98]⟩ then 2 else 0
def paramsL:Nat→List Tree→St→Option (List Tree × St)
 | 0,_,_=>none
 | f+1,ks,s =>
  if eqS (txt ts (name ts (label ts s).2).2) ⟨#[44]⟩ then paramsL f (ks++[.node 5 (name ts (label ts s).2).1 (label ts s).1 []]) (name ts (label ts s).2).2.next
  else some (ks++[.node 5 (name ts (label ts s).2).1 (label ts s).1 []],(name ts (label ts s).2).2)
def params (f:Nat) (s:St):Option (List Tree × St):=if eqS (txt ts s) ⟨#[41]⟩ then some ([],s) else paramsL ts f [] s
def givesS (s:St):St:=if eqS (txt ts (label ts s).2) ⟨#[103,105,118,101,115]⟩ then (label ts (label ts s).2.next).2 else (label ts s).2
def givesN (n:Int) (s:St):Int:=if eqS (txt ts (label ts s).2) ⟨#[103,105,118,101,115]⟩ then n+(label ts s).1+4+4*(label ts (label ts s).2.next).1 else n+(label ts s).1
def varS (s:St):List Tree × St:=if eqS (txt ts s) ⟨#[91]⟩ then ([(number ts s.next).1],must ts ⟨#[93]⟩ (number ts s.next).2) else ([],s)
def declF (f:Nat) (s:St):Option (Tree × St) :=
 if eqS (txt ts (pubS ts s)) ⟨#[112,114,111,99]⟩ then
  (params ts f (must ts ⟨#[40]⟩ (name ts (pubS ts s).next).2)).bind fun p =>
   (blockF ts f (givesS ts (must ts ⟨#[41]⟩ p.2))).bind fun b =>
    some (.node 4 (name ts (pubS ts s).next).1 (givesN ts (pubN ts s) (must ts ⟨#[41]⟩ p.2)) (p.1++[b.1]),b.2)
 else some (.node 3 (name ts (label ts (pubS ts s)).2).1 (pubN ts s+(label ts (pubS ts s)).1) (varS ts (name ts (label ts (pubS ts s)).2).2).1,must ts ⟨#[59]⟩ (varS ts (name ts (label ts (pubS ts s)).2).2).2)
end
section
variable {ts:List Tok} {s:St}
theorem left_label:left ts (label ts s).2≤left ts s:=by
 unfold label
 split
 ·exact left_next_le
 ·exact (left_must ⟨#[108,111,119]⟩ (by decide)).1
theorem must_bad {x:ByteArray} (h:s.bad=true):(must ts x s).bad=true:=by
 unfold must
 split
 ·exact h
 ·rfl
theorem txt_bad (h:s.bad=true):txt ts s=empty:=by unfold txt here;rw [h];rfl
theorem eqS_bad {x:ByteArray} (hx:0<x.size) (h:s.bad=true):eqS (txt ts s) x=false:=by
 cases he:eqS (txt ts s) x
 ·rfl
 ·rw [txt_bad h] at he
  have:=eqS_empty he
  omega
theorem whole_or:left ts (whole ts s).2+1≤left ts s∨(whole ts s).2.bad=true:=by
 cases hn:isName (txt ts s)
 ·right
  have e:name ts s=(empty,s.fail):=by unfold name;rw [hn];rfl
  unfold whole
  rw [e]
  have e2:eat ts ⟨#[46]⟩ s.fail=(false,s.fail):=by unfold eat;rw [eqS_bad (by decide) rfl];rfl
  dsimp only
  rw [e2]
  rfl
 ·left
  have e:name ts s=(txt ts s,s.next):=by unfold name;rw [hn];rfl
  have h1:0<(txt ts s).size:=by
   rcases Nat.lt_or_ge 0 (txt ts s).size with h1 | h1
   ·exact h1
   ·rw [isName_short (by omega)] at hn
    exact absurd hn (by decide)
  have h2:=left_hit h1 (eqS_self (txt ts s))
  have h3:left ts (whole ts s).2≤left ts s.next:=by
   unfold whole
   rw [e]
   dsimp only
   split
   ·exact Nat.le_trans left_name (left_eat _)
   ·exact jE _
  omega
structure Enough2 (ts:List Tok) (f:Nat):Prop where
 bk:∀ s:St,20*left ts s+12≤f→Has ts s (blockF ts f s)
 bkl:∀ (s:St) (ks:List Tree),(s.bad=true∧1≤f)∨20*left ts s+11≤f→Has ts s (blockL ts f ks s)
 st:∀ s:St,20*left ts s+10≤f→∃ q,statF ts f s=some q∧left ts q.2≤left ts s∧(left ts q.2+1≤left ts s∨q.2.bad=true)
theorem enough2 (ts:List Tok) (f:Nat):Enough2 ts f:=by
 induction f with
 | zero=>exact ⟨fun s h=>by omega,fun s ks h=>by omega,fun s h=>by omega⟩
 | succ f ih =>
  have E:=enough ts f
  refine ⟨fun s h=>?_,fun s ks h=>?_,fun s h=>?_⟩
  ·unfold blockF
   have hm:=left_must (ts:=ts) (s:=s) ⟨#[123]⟩ (by decide)
   obtain ⟨q,hq,hle⟩:=ih.bkl (must ts ⟨#[123]⟩ s) [] (.inr (by omega))
   exact ⟨q,hq,by omega⟩
  ·unfold blockL
   cases hb:s.bad
   ·simp only [Bool.false_eq_true,if_false]
    have h9:20*left ts s+11≤f+1:=by
     rcases h with ⟨h,_⟩ | h
     ·rw [hb] at h;simp at h
     ·exact h
    split
    ·exact ⟨_,rfl,left_next_le⟩
    ·obtain ⟨q,hq,hle,hor⟩:=ih.st s (by omega)
     rw [hq]
     simp only [Option.bind_some]
     obtain ⟨q',hq',hle'⟩:=ih.bkl q.2 (ks++[q.1]) (by rcases hor with h1 | h1;exact .inr (by omega);exact .inl ⟨h1,by omega⟩)
     exact ⟨q',hq',by omega⟩
   ·simp only [if_true]
    exact ⟨_,rfl,jE _⟩
  ·unfold statF
   cases n1:eqS (txt ts s) ⟨#[105,102]⟩
   case true =>
    have hn:=left_hit (by decide) n1
    rw [if_pos rfl]
    obtain ⟨x,hx,lx⟩:=E.a s.next (by omega)
    obtain ⟨b,hb,lb⟩:=ih.bk x.2 (by omega)
    rw [hx]
    simp only [Option.bind_some]
    rw [hb]
    simp only [Option.bind_some]
    split
    ·obtain ⟨c,hc,lc⟩:=ih.bk b.2.next (by have:=left_next_le (ts:=ts) (s:=b.2);omega)
     rw [hc]
     have:=left_next_le (ts:=ts) (s:=b.2)
     exact ⟨_,rfl,by dsimp only;omega,.inl (by dsimp only;omega)⟩
    ·exact ⟨_,rfl,by dsimp only;omega,.inl (by dsimp only;omega)⟩
   rw [if_neg (by decide)]
   cases n2:eqS (txt ts s) ⟨#[119,104,105,108,101]⟩
   case true =>
    have hn:=left_hit (by decide) n2
    rw [if_pos rfl]
    obtain ⟨x,hx,lx⟩:=E.a s.next (by omega)
    obtain ⟨b,hb,lb⟩:=ih.bk x.2 (by omega)
    rw [hx]
    simp only [Option.bind_some]
    rw [hb]
    exact ⟨_,rfl,by dsimp only;omega,.inl (by dsimp only;omega)⟩
   rw [if_neg (by decide)]
   cases n3:(eqS (txt ts s) ⟨#[108,111,119]⟩||eqS (txt ts s) ⟨#[104,105,103,104]⟩)
   case true =>
    rw [if_pos rfl]
    have hl:left ts (label ts s).2+1≤left ts s:=by
     unfold label
     cases h1:eqS (txt ts s) ⟨#[104,105,103,104]⟩
     ·simp only [Bool.false_eq_true,if_false]
      rw [h1,Bool.or_false] at n3
      unfold must
      rw [n3,if_pos rfl]
      have:=left_hit (by decide) n3
      omega
     ·simp only [if_true]
      have:=left_hit (by decide) h1
      omega
    have hnm:=left_name (ts:=ts) (s:=(label ts s).2)
    have hm:=left_must (ts:=ts) (s:=(name ts (label ts s).2).2) ⟨#[61]⟩ (by decide)
    obtain ⟨x,hx,lx⟩:=E.e (must ts ⟨#[61]⟩ (name ts (label ts s).2).2) (.inr (by omega))
    rw [hx]
    have hm2:=left_must (ts:=ts) (s:=x.2) ⟨#[59]⟩ (by decide)
    exact ⟨_,rfl,by dsimp only;omega,.inl (by dsimp only;omega)⟩
   rw [if_neg (by decide)]
   cases n5:eqS (txt ts s) ⟨#[100,111]⟩
   case true =>
    have hn:=left_hit (by decide) n5
    rw [if_pos rfl]
    have hw:=left_whole (ts:=ts) (s:=s.next)
    obtain ⟨x,hx,lx⟩:=E.c (whole ts s.next).2 (whole ts s.next).1 (by omega)
    rw [hx]
    have hm2:=left_must (ts:=ts) (s:=x.2) ⟨#[59]⟩ (by decide)
    exact ⟨_,rfl,by dsimp only;omega,.inl (by dsimp only;omega)⟩
   rw [if_neg (by decide)]
   cases n6:eqS (txt ts s) ⟨#[111,117,116]⟩
   case true =>
    have hn:=left_hit (by decide) n6
    rw [if_pos rfl]
    have hw:=left_label (ts:=ts) (s:=s.next)
    obtain ⟨x,hx,lx⟩:=E.e (label ts s.next).2 (.inr (by omega))
    rw [hx]
    have hm2:=left_must (ts:=ts) (s:=x.2) ⟨#[59]⟩ (by decide)
    exact ⟨_,rfl,by dsimp only;omega,.inl (by dsimp only;omega)⟩
   rw [if_neg (by decide)]
   cases n7:eqS (txt ts s) ⟨#[105,110]⟩
   case true =>
    have hn:=left_hit (by decide) n7
    rw [if_pos rfl]
    have hw:=left_label (ts:=ts) (s:=s.next)
    have hw2:=left_whole (ts:=ts) (s:=(label ts s.next).2)
    obtain ⟨x,hx,lx⟩:=E.p (whole ts (label ts s.next).2).2 (whole ts (label ts s.next).2).1 (by omega)
    rw [hx]
    have hm2:=left_must (ts:=ts) (s:=x.2) ⟨#[59]⟩ (by decide)
    exact ⟨_,rfl,by dsimp only;omega,.inl (by dsimp only;omega)⟩
   rw [if_neg (by decide)]
   cases n8:eqS (txt ts s) ⟨#[114,101,116,117,114,110]⟩
   case true =>
    have hn:=left_hit (by decide) n8
    rw [if_pos rfl]
    obtain ⟨x,hx,lx⟩:=E.e s.next (.inr (by omega))
    rw [hx]
    have hm2:=left_must (ts:=ts) (s:=x.2) ⟨#[59]⟩ (by decide)
    exact ⟨_,rfl,by dsimp only;omega,.inl (by dsimp only;omega)⟩
   rw [if_neg (by decide)]
   have hw:=left_whole (ts:=ts) (s:=s)
   rcases whole_or (ts:=ts) (s:=s) with hor | hor
   ·obtain ⟨x,hx,lx⟩:=E.p (whole ts s).2 (whole ts s).1 (by omega)
    rw [hx]
    simp only [Option.bind_some]
    have hm:=left_must (ts:=ts) (s:=x.2) ⟨#[61]⟩ (by decide)
    obtain ⟨y,hy,ly⟩:=E.e (must ts ⟨#[61]⟩ x.2) (.inr (by omega))
    rw [hy]
    have hm2:=left_must (ts:=ts) (s:=y.2) ⟨#[59]⟩ (by decide)
    exact ⟨_,rfl,by dsimp only;omega,.inl (by dsimp only;omega)⟩
   ·obtain ⟨g,rfl⟩:∃ g,f=g+1:=⟨f - 1,by omega⟩
    have hpl:placeF ts (g+1) (whole ts s).1 (whole ts s).2=some (.node 16 (whole ts s).1 0 [],(whole ts s).2):=by
     unfold placeF
     rw [eqS_bad (by decide) hor,if_neg (by decide)]
    rw [hpl]
    simp only [Option.bind_some]
    have hb1:=must_bad (ts:=ts) (x:=⟨#[61]⟩) hor
    have hex:exprF ts (g+1) (must ts ⟨#[61]⟩ (whole ts s).2)=some (.node 0 empty 0 [],must ts ⟨#[61]⟩ (whole ts s).2):=by
     unfold exprF
     rw [hb1,if_pos rfl]
    rw [hex]
    have hb2:=must_bad (ts:=ts) (x:=⟨#[59]⟩) hb1
    exact ⟨_,rfl,by dsimp only;rw [left_bad hb2];omega,.inr hb2⟩
end
section
variable {ts:List Tok} {s:St}
theorem left_pub:left ts (pubS ts s)≤left ts s:=by
 unfold pubS
 split
 ·exact left_next_le
 ·exact jE _
theorem left_gives:left ts (givesS ts s)≤left ts s:=by
 unfold givesS
 split
 ·exact Nat.le_trans left_label (Nat.le_trans left_next_le left_label)
 ·exact left_label
theorem left_var:left ts (varS ts s).2≤left ts s:=by
 unfold varS
 split
 ·exact Nat.le_trans (left_must ⟨#[93]⟩ (by decide)).1 (Nat.le_trans left_number left_next_le)
 ·exact jE _
theorem name_bad (h:s.bad=true):(name ts s).2.bad=true:=by
 unfold name
 split
 ·exact h
 ·rfl
theorem var_bad (h:s.bad=true):(varS ts s).2.bad=true:=by
 unfold varS
 rw [eqS_bad (by decide) h,if_neg (by decide)]
 exact h
theorem label_or:left ts (label ts s).2+1≤left ts s∨(label ts s).2.bad=true:=by
 unfold label
 cases h1:eqS (txt ts s) ⟨#[104,105,103,104]⟩
 ·simp only [Bool.false_eq_true,if_false]
  rcases (left_must (ts:=ts) (s:=s) ⟨#[108,111,119]⟩ (by decide)).2 with h | h
  ·exact .inr h
  ·exact .inl (by omega)
 ·simp only [if_true]
  have:=left_hit (by decide) h1
  exact .inl (by omega)
theorem paramsL_has (f:Nat):∀ (ks:List Tree) (s:St),left ts s+1≤f→∃ p,paramsL ts f ks s=some p∧left ts p.2≤left ts s:=by
 induction f with
 | zero=>intro ks s h;omega
 | succ f ih =>
  intro ks s h
  have h1:=left_label (ts:=ts) (s:=s)
  have h2:=left_name (ts:=ts) (s:=(label ts s).2)
  unfold paramsL
  split
  ·rename_i h3
   have h4:=left_hit (by decide) h3
   obtain ⟨p,hp,hle⟩:=ih (ks++[.node 5 (name ts (label ts s).2).1 (label ts s).1 []]) (name ts (label ts s).2).2.next (by omega)
   exact ⟨p,hp,by omega⟩
  ·exact ⟨_,rfl,by dsimp only;omega⟩
theorem declF_has {f:Nat} (h:20*left ts s+12≤f):∃ q,declF ts f s=some q∧left ts q.2≤left ts s∧(left ts q.2+1≤left ts s∨q.2.bad=true):=by
 have hp:=left_pub (ts:=ts) (s:=s)
 unfold declF
 split
 ·rename_i h1
  have hn:=left_hit (by decide) h1
  have h2:=left_name (ts:=ts) (s:=(pubS ts s).next)
  have h3:=(left_must (ts:=ts) (s:=(name ts (pubS ts s).next).2) ⟨#[40]⟩ (by decide)).1
  obtain ⟨p,hpp,lp⟩:∃ p,params ts f (must ts ⟨#[40]⟩ (name ts (pubS ts s).next).2)=some p∧left ts p.2≤left ts (must ts ⟨#[40]⟩ (name ts (pubS ts s).next).2):=by
   unfold params
   split
   ·exact ⟨_,rfl,jE _⟩
   ·exact paramsL_has f [] _ (by omega)
  rw [hpp]
  simp only [Option.bind_some]
  have h4:=(left_must (ts:=ts) (s:=p.2) ⟨#[41]⟩ (by decide)).1
  have h5:=left_gives (ts:=ts) (s:=must ts ⟨#[41]⟩ p.2)
  obtain ⟨b,hb,lb⟩:=(enough2 ts f).bk (givesS ts (must ts ⟨#[41]⟩ p.2)) (by omega)
  rw [hb]
  exact ⟨_,rfl,by dsimp only;omega,.inl (by dsimp only;omega)⟩
 ·have h1:=left_label (ts:=ts) (s:=pubS ts s)
  have h2:=left_name (ts:=ts) (s:=(label ts (pubS ts s)).2)
  have h3:=left_var (ts:=ts) (s:=(name ts (label ts (pubS ts s)).2).2)
  have h4:=(left_must (ts:=ts) (s:=(varS ts (name ts (label ts (pubS ts s)).2).2).2) ⟨#[59]⟩ (by decide)).1
  refine ⟨_,rfl,by dsimp only;omega,?_⟩
  rcases label_or (ts:=ts) (s:=pubS ts s) with hor | hor
  ·exact .inl (by dsimp only;omega)
  ·exact .inr (must_bad (var_bad (name_bad hor)))
end
end syn
end Go.Proofs.YtfopddgjdaoidaaGreatDoor
