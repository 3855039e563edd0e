/- What chapter 3 says of expressions, as plain functions on lists of tokens: each answers nothing where its fuel is used up. -/
import Derived.Test.YtfopddgjdaoidaaGreatDoorNM01
set_option linter.unusedVariables false
namespace Go.Proofs.YtfopddgjdaoidaaGreatDoor.lexs
open Go.RowKit
def HasErr (w:World):Prop:=∃ ev,w.cell? ⟨Tryz.laysPI_ren.g 16,0,none⟩=some ev∧(ev=.nilIface∨∃ te pe,ev=.iface te pe)
theorem hasErr_below {w w':World} (h:HasErr w) (hb:Below w.heap.size w w'):HasErr w':=by
  obtain ⟨ev,h1,h2⟩:=h
  have hlt:Tryz.laysPI_ren.g 16<w.heap.size:=by
    rcases Nat.lt_or_ge (Tryz.laysPI_ren.g 16) w.heap.size with h | h
    · exact h
    · exfalso
      simp only [World.cell?] at h1
      rw [Array.getElem?_eq_none h] at h1
      simp at h1
  exact ⟨ev,by rw [hb.cell (p:=⟨Tryz.laysPI_ren.g 16,0,none⟩) hlt];exact h1,h2⟩
theorem parse_ok (x:ByteArray) (hs:x.size≤3000) (h:x.data.toList.all digB=true) (h0:x.data.toList≠[]) (hv:val x.data.toList<9223372036854775808) (w:World) :
    Calls Tryz.prog 137 #[.string x,.int .i64 10,.int .i64 64] w fun e w'=>e=.returned (.tuple #[.int .i64 (val x.data.toList:Int),.nilIface])∧Below w.heap.size w w':=by
  refine (Any.strconv_ParseInt_10_at64_ok Tryz.laysPI x (by omega) _ (by rw [parse_all _ h h0,if_pos hv]) w).mono ?_
  rintro e w' ⟨rfl,rfl | ⟨t,rfl⟩⟩
  · exact ⟨rfl,Below.refl _ _⟩
  · exact ⟨rfl,Lib.bytesWorld_below _ _ _⟩
theorem parse_range (x:ByteArray) (hs:x.size≤3000) (h:x.data.toList.all digB=true) (h0:x.data.toList≠[]) (hv:¬ val x.data.toList<9223372036854775808) (w:World) (he:HasErr w) :
    Calls Tryz.prog 137 #[.string x,.int .i64 10,.int .i64 64] w fun e w'=>∃ i T N,e=.returned (.tuple #[.int .i64 i,.iface T (.pointer (some ⟨N,0,none⟩))])∧Below w.heap.size w w':=by
  obtain ⟨ev,h1,h2⟩:=he
  refine (Any.strconv_ParseInt_10_at64_range Tryz.laysPI x (by omega) (by rw [parse_all _ h h0,if_neg hv]) ev w h1 h2).mono ?_
  rintro e w' ⟨N,rfl,_,_,hb⟩
  exact ⟨_,_,N,rfl,hb⟩
theorem stops_all {x:ByteArray} {j:Nat} (h:Stops digB x 0 j) (hj:j=x.size):x.data.toList.all digB=true:=by
  rw [List.all_eq_true]
  intro c hc
  obtain ⟨k,hk,rfl⟩:=List.mem_iff_getElem.1 hc
  rw [len_L] at hk
  exact h.all k hk (by omega) (by omega)
theorem ne_nil {x:ByteArray} (h:0<x.size):x.data.toList≠[]:=by intro e;have:=len_L x;rw [e] at this;simp at this;omega
set_option maxRecDepth 100000 in
theorem judgeNumber_any (x:ByteArray) (hs:x.size≤3000) (h0:0<x.size) (w:World) (he:HasErr w) :
    Calls Tryz.prog 104 #[.string x] w fun e w'=>e=.returned (.int .i64 (numE x.data.toList))∧Below w.heap.size w w':=by
  go_enter Tryz.func104,Tryz.ntmps104
  go_wp2_with (fail)
  refine (reach_digit x 0 hs (by omega) _).mono ?_
  rintro e w' ⟨j,rfl,hj,hw⟩
  obtain rfl:=hw.symm
  have hjt:=hj.top
  by_cases hlt:j<x.size
  · have HE:Hid (2=numE x.data.toList):=by
      rcases hj.stop with h | ⟨h,hd⟩
      · omega
      · exact num_bad x j h hd
    clear hj
    go_wp2
    go_ret
    exact ⟨ret_i64 HE.out,Below.refl _ _⟩
  · have hje:j=x.size:=by omega
    have ha:=stops_all hj hje
    clear hj
    subst hje
    have hh:=headL x h0
    cases hz:(decide (1<x.data.toList.length) && x.data.toList.headD 0==48)
    · have HN:=numE_val _ ha (ne_nil h0) hz
      rw [len_L,hh,← byte_is _ 48 48 rfl] at hz
      by_cases hv:val x.data.toList<9223372036854775808
      · rw [if_pos hv] at HN
        have HN':Hid (numE x.data.toList=0):=HN
        have HV:Hid (val x.data.toList<9223372036854775808):=hv
        have HA:Hid (x.data.toList.all digB=true):=ha
        clear HN hv ha
        by_cases h1:1<x.size
        · have hb:((x[0].toNat:Int)==48)=false:=by simpa [h1] using hz
          clear hz hh
          go_wp2_with (go_at_call 137;refine (parse_ok x hs HA.out (ne_nil h0) HV.out _).mono ?_;rintro e w1 ⟨rfl,hb1⟩)
          go_ret
          exact ⟨ret_i64 HN'.out.symm,hb1⟩
        · clear hz hh
          go_wp2_with (go_at_call 137;refine (parse_ok x hs HA.out (ne_nil h0) HV.out _).mono ?_;rintro e w1 ⟨rfl,hb1⟩)
          go_ret
          exact ⟨ret_i64 HN'.out.symm,hb1⟩
      · rw [if_neg hv] at HN
        have HN':Hid (numE x.data.toList=6):=HN
        have HV:Hid (¬ val x.data.toList<9223372036854775808):=hv
        have HA:Hid (x.data.toList.all digB=true):=ha
        clear HN hv ha
        by_cases h1:1<x.size
        · have hb:((x[0].toNat:Int)==48)=false:=by simpa [h1] using hz
          clear hz hh
          go_wp2_with (go_at_call 137;refine (parse_range x hs HA.out (ne_nil h0) HV.out _ he).mono ?_;rintro e w1 ⟨i1,T1,N1,rfl,hb1⟩)
          go_ret
          exact ⟨ret_i64 HN'.out.symm,hb1⟩
        · clear hz hh
          go_wp2_with (go_at_call 137;refine (parse_range x hs HA.out (ne_nil h0) HV.out _ he).mono ?_;rintro e w1 ⟨i1,T1,N1,rfl,hb1⟩)
          go_ret
          exact ⟨ret_i64 HN'.out.symm,hb1⟩
    · have HN:Hid (numE x.data.toList=2):=by
        show _=_
        rw [numE,if_neg (by simp [ha]),if_pos hz]
      rw [len_L,hh,← byte_is _ 48 48 rfl,Bool.and_eq_true] at hz
      have h1:1<x.size:=by simpa using hz.1
      have hb:=hz.2
      clear hz hh ha
      go_wp2
      go_ret
      exact ⟨ret_i64 HN.out.symm,Below.refl _ _⟩
def signs:ByteArray:=⟨#[123,125,40,41,91,93,59,44,46,61,60,43,45,42,47,37,38,124,33]⟩
theorem index_signs (b:UInt8):decide (Lib.indexByte signs.data.toList ((b.toNat:Int)).toNat.toUInt8 ≥ 0)=ones.contains b:=by
  have e:((b.toNat:Int)).toNat.toUInt8=b:=by simp
  rw [e,has_index]
  rfl
theorem judge_word (x:ByteArray) (hs:x.size≤3000) (h0:0<x.size) (w:World) (hl:ltrI (x[0].toNat:Int)=true) (h16:x.size≤16) :
    Calls Tryz.prog 58 #[.string x] w fun e w'=>e=.returned (.tuple #[.int .i64 1,.int .i64 0])∧Below w.heap.size w w':=by
  go_enter Tryz.func58,Tryz.ntmps58
  go_wp2_with (go_at_call 100;refine (oletter _ _).mono ?_;rintro e w' ⟨rfl,hw⟩;obtain rfl:=hw.symm)
  exact bodyPost_ret (v:=.tuple #[.int .i64 1,.int .i64 0]) (by simp [results,Tryz.results58,go_sem]) rfl ⟨rfl,Below.refl _ _⟩
theorem judge_long (x:ByteArray) (hs:x.size≤3000) (h0:0<x.size) (w:World) (hl:ltrI (x[0].toNat:Int)=true) (h16:16<x.size) :
    Calls Tryz.prog 58 #[.string x] w fun e w'=>e=.returned (.tuple #[.int .i64 0,.int .i64 1])∧Below w.heap.size w w':=by
  go_enter Tryz.func58,Tryz.ntmps58
  go_wp2_with (go_at_call 100;refine (oletter _ _).mono ?_;rintro e w' ⟨rfl,hw⟩;obtain rfl:=hw.symm)
  exact bodyPost_ret (v:=.tuple #[.int .i64 0,.int .i64 1]) (by simp [results,Tryz.results58,go_sem]) rfl ⟨rfl,Below.refl _ _⟩
theorem judge_num (x:ByteArray) (hs:x.size≤3000) (h0:0<x.size) (w:World) (he:HasErr w) (hl:ltrI (x[0].toNat:Int)=false) (hd:digI (x[0].toNat:Int)=true) :
    Calls Tryz.prog 58 #[.string x] w fun e w'=>e=.returned (.tuple #[.int .i64 2,.int .i64 (numE x.data.toList)])∧Below w.heap.size w w':=by
  go_enter Tryz.func58,Tryz.ntmps58
  go_wp2_with (first
    | (go_at_call 100;refine (oletter _ _).mono ?_;rintro e w' ⟨rfl,hw⟩;obtain rfl:=hw.symm)
    | (go_at_call 101;refine (odigit _ _).mono ?_;rintro e w' ⟨rfl,hw⟩;obtain rfl:=hw.symm)
    | (go_at_call 104;refine (judgeNumber_any x hs h0 _ he).mono ?_;rintro e w1 ⟨rfl,hb1⟩))
  exact bodyPost_ret (v:=.tuple #[.int .i64 2,.int .i64 (numE x.data.toList)]) (by simp [results,Tryz.results58,go_sem]) rfl ⟨rfl,hb1⟩
theorem judge_sign (x:ByteArray) (hs:x.size≤3000) (h0:0<x.size) (w:World) (hl:ltrI (x[0].toNat:Int)=false) (hd:digI (x[0].toNat:Int)=false) (hc:ones.contains x[0]=true) :
    Calls Tryz.prog 58 #[.string x] w fun e w'=>e=.returned (.tuple #[.int .i64 3,.int .i64 0])∧Below w.heap.size w w':=by
  have hi:Lib.indexByte signs.data.toList ((x[0].toNat:Int)).toNat.toUInt8 ≥ 0:=of_decide_eq_true (by rw [index_signs,hc])
  obtain ⟨I,hI⟩:∃ I,I=Lib.indexByte signs.data.toList ((x[0].toNat:Int)).toNat.toUInt8:=⟨_,rfl⟩
  have hx:=index_any signs (x[0].toNat:Int)
  rw [← hI] at hi hx
  clear hI hc
  go_enter Tryz.func58,Tryz.ntmps58
  go_wp2_with (first
    | (go_at_call 100;refine (oletter _ _).mono ?_;rintro e w' ⟨rfl,hw⟩;obtain rfl:=hw.symm)
    | (go_at_call 101;refine (odigit _ _).mono ?_;rintro e w' ⟨rfl,hw⟩;obtain rfl:=hw.symm)
    | (go_at_call 105;refine (hx _).mono ?_;rintro e w' ⟨rfl,hw⟩;obtain rfl:=hw.symm))
  exact bodyPost_ret (v:=.tuple #[.int .i64 3,.int .i64 0]) (by simp [results,Tryz.results58,go_sem]) rfl ⟨rfl,Below.refl _ _⟩
theorem judge_none (x:ByteArray) (hs:x.size≤3000) (h0:0<x.size) (w:World) (hl:ltrI (x[0].toNat:Int)=false) (hd:digI (x[0].toNat:Int)=false) (hc:ones.contains x[0]=false) :
    Calls Tryz.prog 58 #[.string x] w fun e w'=>e=.returned (.tuple #[.int .i64 0,.int .i64 2])∧Below w.heap.size w w':=by
  have hi:¬ Lib.indexByte signs.data.toList ((x[0].toNat:Int)).toNat.toUInt8 ≥ 0:=of_decide_eq_false (by rw [index_signs,hc])
  obtain ⟨I,hI⟩:∃ I,I=Lib.indexByte signs.data.toList ((x[0].toNat:Int)).toNat.toUInt8:=⟨_,rfl⟩
  have hx:=index_any signs (x[0].toNat:Int)
  rw [← hI] at hi hx
  clear hI hc
  go_enter Tryz.func58,Tryz.ntmps58
  go_wp2_with (first
    | (go_at_call 100;refine (oletter _ _).mono ?_;rintro e w' ⟨rfl,hw⟩;obtain rfl:=hw.symm)
    | (go_at_call 101;refine (odigit _ _).mono ?_;rintro e w' ⟨rfl,hw⟩;obtain rfl:=hw.symm)
    | (go_at_call 105;refine (hx _).mono ?_;rintro e w' ⟨rfl,hw⟩;obtain rfl:=hw.symm))
  exact bodyPost_ret (v:=.tuple #[.int .i64 0,.int .i64 2]) (by simp [results,Tryz.results58,go_sem]) rfl ⟨rfl,Below.refl _ _⟩
theorem ext_size (s:ByteArray) (p n:Nat) (h:p+n≤s.size):(s.extract p (p+n)).size=n:=by
  rw [← len_L,Lib.extract_data,List.length_take,List.length_drop,len_L];omega
theorem ext_data (s:ByteArray) (p n:Nat):(s.extract p (p+n)).data.toList=(s.data.toList.drop p).take n:=by
  rw [Lib.extract_data,Nat.add_sub_cancel_left]
theorem ext_head (s:ByteArray) (p n:Nat) (h:p+n≤s.size) (hn:0<n):(s.extract p (p+n))[0]'(by rw [ext_size s p n h];exact hn)=s[p]:=by
  have h0:0<(s.extract p (p+n)).size:=by rw [ext_size s p n h];exact hn
  have e:=headL (s.extract p (p+n)) h0
  rw [← e,ext_data,drop_cons s p (by omega)]
  cases n with
  | zero=>omega
  | succ n=>rfl
theorem stops_back {P:UInt8→Bool} {s:ByteArray} {p j:Nat} (hp:p<s.size) (h0:P s[p]=true) (h:Stops P s (p+1) j):Stops P s p j :=
  ⟨by have:=h.le;omega,h.top,fun k hk h1 h2=>by
    rcases Nat.lt_or_ge p k with h3 | h3
    · exact h.all k hk (by omega) h2
    · have:k=p:=by omega
      subst this
      exact h0,h.stop⟩
theorem sign_one (s:ByteArray) (p:Nat) (hp:p<s.size) (hc:ones.contains s[p]=true):signLen (s.data.toList.drop p)=1+more (s.data.toList.drop (p+1)) (s[p].toNat:Int):=by
  unfold signLen more
  rw [drop_cons s p hp,List.headD_cons,List.drop_one,List.tail_cons,byte_is _ 61 61 rfl]
  rw [if_pos hc]
  split <;> rfl
theorem sign_zero (s:ByteArray) (p:Nat) (hp:p<s.size) (hc:ones.contains s[p]=false):signLen (s.data.toList.drop p)=0:=by
  unfold signLen
  rw [drop_cons s p hp,List.headD_cons,List.drop_one,List.tail_cons,if_neg,if_neg (by rw [hc];decide)]
  intro h
  rw [Bool.and_eq_true,beq_iff_eq] at h
  rw [h.1] at hc
  exact absurd hc (by decide)
theorem more_le (s:ByteArray) (p:Nat) (c:Int) (hp:p<s.size):p+(1+more (s.data.toList.drop (p+1)) c)≤s.size:=by
  unfold more
  split
  · rename_i h
    rw [Bool.and_eq_true] at h
    rcases Nat.lt_or_ge (p+1) s.size with h1 | h1
    · omega
    · have:=head_end s (p+1) h1
      rw [this] at h
      exact absurd h.2 (by decide)
  · omega
def Rows' (s:ByteArray) (p n:Nat) (hp:p<s.size) (K E:Int):Prop :=
  (∀ w,Calls Tryz.prog 57 #[.int .u8 (s[p].toNat:Int)] w fun e w1=>∃ fv,e=.returned fv∧Below w.heap.size w w1 ∧
    Calls Tryz.prog 56 #[.string s,.int .i64 ((p:Int)+1),fv] w1 fun e w2=>e=.returned (.int .i64 ((p:Int)+(n:Int)))∧Below w.heap.size w w2) ∧
  (∀ w,HasErr w→Calls Tryz.prog 58 #[.string (s.extract p (p+n))] w fun e w'=>e=.returned (.tuple #[.int .i64 K,.int .i64 E])∧Below w.heap.size w w')
theorem begin_row (s:ByteArray) (p:Nat) (hs:s.size≤3000) (hp:p<s.size) (h:(ltrI (s[p].toNat:Int) || digI (s[p].toNat:Int))=true) (w:World) :
    Calls Tryz.prog 57 #[.int .u8 (s[p].toNat:Int)] w fun e w1=>∃ fv,e=.returned fv∧Below w.heap.size w w1 ∧
    Calls Tryz.prog 56 #[.string s,.int .i64 ((p:Int)+1),fv] w1 fun e w2=>e=.returned (.int .i64 ((p:Int)+(run insB (s.data.toList.drop p):Int)))∧Below w.heap.size w w2:=by
  refine (behind_row _ h w).mono ?_
  rintro e w1 ⟨rfl,hb⟩
  refine ⟨_,rfl,hb,?_⟩
  refine (reach_inside s (p+1) hs (by omega) w1).mono ?_
  rintro e w2 ⟨j,rfl,hj,rfl⟩
  have hi:insB s[p]=true:=by
    rw [Bool.or_eq_true] at h
    rcases h with h | h
    · exact ltrB_insB h
    · exact digB_insB h
  have hr:=(stops_back hp hi hj).run
  have hl:=hj.le
  refine ⟨?_,hb⟩
  rw [hr]
  congr 2
  omega
theorem begin_sign (s:ByteArray) (p:Nat) (hs:s.size≤3000) (hp:p<s.size) (hl:ltrI (s[p].toNat:Int)=false) (hd:digI (s[p].toNat:Int)=false) (w:World) :
    Calls Tryz.prog 57 #[.int .u8 (s[p].toNat:Int)] w fun e w1=>∃ fv,e=.returned fv∧Below w.heap.size w w1 ∧
    Calls Tryz.prog 56 #[.string s,.int .i64 ((p:Int)+1),fv] w1 fun e w2=>e=.returned (.int .i64 ((p:Int)+((1+more (s.data.toList.drop (p+1)) (s[p].toNat:Int):Nat):Int)))∧Below w.heap.size w w2:=by
  refine (behind_sign _ hl hd w).mono ?_
  rintro e w1 ⟨rfl,h1,h2,h3,hb⟩
  refine ⟨_,rfl,hb,?_⟩
  refine (reach_sign s (p+1) (s[p].toNat:Int) _ _ hs (by omega) w1 h1 h2 h3 (by simp)).mono ?_
  rintro e w2 ⟨rfl,hb2⟩
  refine ⟨?_,hb.trans (hb2.mono (by simp))⟩
  congr 2
  omega
theorem row_any (s:ByteArray) (p:Nat) (hs:s.size≤3000) (hp:p<s.size) (h32:((s[p].toNat:Int)==32)=false) (h10:((s[p].toNat:Int)==10)=false) (h35:((s[p].toNat:Int)==35)=false) :
    ∃ (n:Nat) (K E:Int),0<n∧p+n≤s.size∧((E != 0)=false→stepL (s.data.toList.drop p)=.tok K n)∧((E != 0)=true→stepL (s.data.toList.drop p)=.fault E)∧Rows' s p n hp K E:=by
  have hrl:=run_le insB (s.data.toList.drop p)
  rw [List.length_drop,len_L] at hrl
  cases hl:ltrI (s[p].toNat:Int)
  · cases hd:digI (s[p].toNat:Int)
    · have hn:0<1+more (s.data.toList.drop (p+1)) (s[p].toNat:Int):=by omega
      have hm:=more_le s p (s[p].toNat:Int) hp
      have hx:=ext_size s p _ hm
      have hh:=ext_head s p _ hm hn
      cases hc:ones.contains s[p]
      · refine ⟨1+more (s.data.toList.drop (p+1)) (s[p].toNat:Int),0,2,hn,hm,fun h=>absurd h (by decide),fun _=>st_none hp h32 h10 h35 hl hd (sign_zero s p hp hc),fun w=>begin_sign s p hs hp hl hd w,fun w _=>?_⟩
        exact judge_none _ (by omega) (by omega) w (by rw [hh];exact hl) (by rw [hh];exact hd) (by rw [hh];exact hc)
      · refine ⟨1+more (s.data.toList.drop (p+1)) (s[p].toNat:Int),3,0,hn,hm,fun _=>st_sign hp h32 h10 h35 hl hd (sign_one s p hp hc) (by omega),fun h=>absurd h (by decide),fun w=>begin_sign s p hs hp hl hd w,fun w _=>?_⟩
        exact judge_sign _ (by omega) (by omega) w (by rw [hh];exact hl) (by rw [hh];exact hd) (by rw [hh];exact hc)
    · have hn:0<run insB (s.data.toList.drop p):=dig_pos hp hd rfl
      have hm:p+run insB (s.data.toList.drop p)≤s.size:=by omega
      have hx:=ext_size s p _ hm
      have hh:=ext_head s p _ hm hn
      refine ⟨_,2,numE ((s.data.toList.drop p).take (run insB (s.data.toList.drop p))),hn,hm,fun h=>st_num hp h32 h10 h35 hl hd rfl (by simpa [bne] using h),fun h=>st_bad hp h32 h10 h35 hl hd rfl (by simpa [bne] using h),fun w=>begin_row s p hs hp (by rw [hd,Bool.or_true]) w,fun w he=>?_⟩
      have hj:=judge_num (s.extract p (p+run insB (s.data.toList.drop p))) (by omega) (by omega) w he (by rw [hh];exact hl) (by rw [hh];exact hd)
      rw [ext_data] at hj
      exact hj
  · have hn:0<run insB (s.data.toList.drop p):=by rw [drop_cons s p hp];exact run_pos _ _ _ (ltrB_insB hl)
    have hm:p+run insB (s.data.toList.drop p)≤s.size:=by omega
    have hx:=ext_size s p _ hm
    have hh:=ext_head s p _ hm hn
    by_cases h16:run insB (s.data.toList.drop p)≤16
    · refine ⟨_,1,0,hn,hm,fun _=>st_word hp h32 h10 h35 hl rfl h16,fun h=>absurd h (by decide),fun w=>begin_row s p hs hp (by rw [hl,Bool.true_or]) w,fun w he=>?_⟩
      exact judge_word _ (by omega) (by omega) w (by rw [hh];exact hl) (by omega)
    · refine ⟨_,0,1,hn,hm,fun h=>absurd h (by decide),fun _=>st_long hp h32 h10 h35 hl rfl (by omega),fun w=>begin_row s p hs hp (by rw [hl,Bool.true_or]) w,fun w he=>?_⟩
      exact judge_long _ (by omega) (by omega) w (by rw [hh];exact hl) (by omega)
def Scans (H:World→Prop) (F:Nat) (s:ByteArray):Prop:=∀ w:World,H w→Calls Tryz.prog F #[.string s] w fun e w'=>∃ v,e=.returned (.tuple #[v,.agg #[.int .i64 (scan s.data.toList).code,.int .i64 (scan s.data.toList).place]]) ∧
      w'.ownsRow w.heap.size 99 3 v (scan s.data.toList).toks.length (cellsOf (scan s.data.toList).toks)∧Below w.heap.size w w'
theorem own_shape {w:World} {B:Nat} {e:TypeId} {k n:Nat} {v:Value} {xs:List Value} (h:w.ownsRow B e k v n xs):∃ a c,v=.slice a n c∧n≤9223372036854775807∧(0<n→∃ g,a=some ⟨g,0,none⟩):=by
  rcases h.2 with ⟨rfl,rfl⟩ | ⟨g,cap,cur,rfl,_,_,h1,h2,_⟩
  · exact ⟨none,0,rfl,by omega,fun h=>by omega⟩
  · exact ⟨some ⟨g,0,none⟩,cap,rfl,by unfold maxLen at h2;omega,fun _=>⟨g,rfl⟩⟩
theorem cellsOf_at (l:List Tok) (k:Nat) (hk:k<l.length):(cellsOf l)[k * 3]?=some (.int .i64 l[k].kind)∧(cellsOf l)[k * 3+1]?=some (.string ⟨l[k].text.toArray⟩)∧(cellsOf l)[k * 3+2]?=some (.int .i64 (l[k].at_:Int)):=by
  induction l generalizing k with
  | nil=>simp at hk
  | cons t l ih =>
    cases k with
    | zero=>simp [cellsOf]
    | succ k =>
      have h:=ih k (by simpa using hk)
      have e:cellsOf (t :: l)=[.int .i64 t.kind,.string ⟨t.text.toArray⟩,.int .i64 (t.at_:Int)]++cellsOf l:=rfl
      have e3:(k+1) * 3=k * 3+3:=by omega
      rw [e,e3]
      refine ⟨?_,?_,?_⟩
      · rw [List.getElem?_append_right (by simp)];simpa using h.1
      · rw [List.getElem?_append_right (by simp)];simpa using h.2.1
      · rw [List.getElem?_append_right (by simp)];simpa using h.2.2
theorem tok_cells {w:World} {B:Nat} {e:TypeId} {g n cap:Nat} {l:List Tok} (h:w.ownsRow B e 3 (.slice (some ⟨g,0,none⟩) n cap) n (cellsOf l)) {k:Nat} (hk:k<l.length) :
    w.cell? ⟨g,k * 3,none⟩=some (.int .i64 l[k].kind)∧w.cell? ⟨g,k * 3+1,none⟩=some (.string ⟨l[k].text.toArray⟩)∧w.cell? ⟨g,k * 3+2,none⟩=some (.int .i64 (l[k].at_:Int)):=by
  have ha:=cellsOf_at l k hk
  have hn:n=l.length:=by have:=h.1;rw [cellsOf_length] at this;omega
  exact ⟨(h.cellAt _ (by omega)).trans ha.1,(h.cellAt _ (by omega)).trans ha.2.1,(h.cellAt _ (by omega)).trans ha.2.2⟩
theorem below_next {w a b:World} {o:Obj} (h:Below w.heap.size w a) (h2:Below (a.alloc o).heap.size (a.alloc o) b):Below w.heap.size w b :=
  (h.alloc h.size o).trans (h2.mono (by have:=h.size;rw [World.size_alloc];omega))
theorem fine_next {w wr w1:World} {o:Obj} {e:TypeId} {k n:Nat} {v:Value} {xs:List Value} (hown:wr.ownsRow (w.heap.size+1) e k v n xs) (hbw:Below (w.heap.size+1) (w.alloc o) wr) (hb:Below wr.heap.size wr w1) :
    w1.ownsRow (w.heap.size+1) e k v n xs∧Below (w.heap.size+1) (w.alloc o) w1:=by
  have hs:=hbw.size
  rw [World.size_alloc] at hs
  exact ⟨own_below hown hb,hbw.trans (hb.mono hs)⟩
theorem fine_err {w wr:World} {o:Obj} (he:HasErr w) (hbw:Below (w.heap.size+1) (w.alloc o) wr):HasErr wr:=hasErr_below he (below_old hbw)
set_option maxRecDepth 100000 in
set_option maxHeartbeats 2000000 in
theorem oscan (s:ByteArray) (w:World) (hs:s.size≤3000) (he:HasErr w) :
    Calls Tryz.prog 26 #[.string s] w fun e w'=>∃ v,e=.returned (.tuple #[v,.agg #[.int .i64 (scan s.data.toList).code,.int .i64 (scan s.data.toList).place]]) ∧
      w'.ownsRow w.heap.size 99 3 v (scan s.data.toList).toks.length (cellsOf (scan s.data.toList).toks)∧Below w.heap.size w w':=by
  obtain ⟨i0,hi,hz0,hz1,hz2⟩:=info_parts tokInfo
  have hsz:¬ (3000:Int)<(s.size:Int):=by omega
  obtain ⟨R,hR⟩:∃ R,R=scan s.data.toList:=⟨_,rfl⟩
  rw [← hR]
  have HR:Hid (scanL s.size (s.data.toList.drop 0) 0 []=R):=by
    show _=_
    rw [hR,scan,if_neg (by rw [len_L];omega),len_L];rfl
  have HE:Hid (HasErr w):=he
  clear hR he
  go_enter Tryz.func26,Tryz.ntmps26
  go_wp2_with (go_at_call 55;refine (skip_any s 0 hs (by omega) _).mono ?_;rintro e w' ⟨q,rfl,hg,hq,hw⟩;obtain rfl:=hw.symm)
  obtain ⟨f0,hf0,HR0⟩:=hg.on s.size [] R (by omega) HR.out
  have hqs:=hg.top
  go_loopw [4,5] (fun v i wr=>∃ (p f:Nat) (acc:List Tok),p≤s.size∧i=.int .i64 p∧s.size≤p+f∧Hid (∀ h:p<s.size,((s[p].toNat:Int)==32)=false∧((s[p].toNat:Int)==10)=false∧((s[p].toNat:Int)==35)=false)∧Hid (scanL f (s.data.toList.drop p) p acc=R)∧wr.ownsRow (w.heap.size+1) 99 3 v acc.length (cellsOf acc)∧acc.length≤p∧Below (w.heap.size+1) (w.alloc (.cells #[.int .i64 0,.int .i64 0] 28)) wr)
    (fun _ i _=>s.size - (intOf i).toNat)
  case atStart =>
    exact ⟨q,f0,[],hqs,rfl,hf0,hq,HR0,World.ownsRow_nil _ _ _ _,by simp,Below.refl _ _⟩
  case round =>
    obtain ⟨p,f,acc,hp,rfl,hf,HB,HS,hown,hal,hbw⟩:=hrel
    obtain ⟨hc0,hc1,hz0',hz1',hB⟩:=boxes hbw
    have hB':w.heap.size<wr.heap.size:=hB
    by_cases hlt:p<s.size
    · obtain ⟨f,rfl⟩:∃ f',f=f'+1:=⟨f - 1,by omega⟩
      obtain ⟨n,K,E,hn,hm,H1,H2,HBR,HJ⟩:=row_any s p hs hlt (HB.out hlt).1 (HB.out hlt).2.1 (HB.out hlt).2.2
      have hsl:=slice_is 9 Tryz.underlying9 s p n hm
      have hx:=ext_size s p n hm
      cases hE:(E != 0)
      · have hst:Hid (stepL (s.data.toList.drop p)=.tok K n):=H1 hE
        clear H1 H2
        have hsk:∀ w,Calls Tryz.prog 55 #[.string s,.int .i64 ((p:Int)+(n:Int))] w fun e w'=>∃ j:Nat,e=.returned (.int .i64 j)∧Goes s (p+n) j∧(∀ h:j<s.size,((s[j].toNat:Int)==32)=false∧((s[j].toNat:Int)==10)=false∧((s[j].toNat:Int)==35)=false)∧w'=w:=by
          intro w
          have h:=skip_any s (p+n) hs hm w
          rw [Int.natCast_add] at h
          exact h
        go_wp2_with (first
          | (go_at_call 57;refine (HBR _).mono ?_;rintro e w1 ⟨fv,rfl,hb1,hreach⟩)
          | (go_at_call 56;refine hreach.mono ?_;rintro e w2 ⟨rfl,hb2⟩;obtain ⟨hown2,hbw2⟩:=fine_next hown hbw hb2)
          | (go_at_call 58;refine (HJ _ (fine_err HE.out hbw2)).mono ?_;rintro e w3 ⟨rfl,hb3⟩;obtain ⟨hown3,hbw3⟩:=fine_next hown2 hbw2 hb3; clear hown2 hbw2 hb2 hb3)
          | (go_at_call 59;refine (clone_any _ (by omega) _).mono ?_;rintro e w4 ⟨rfl,hb4⟩;obtain ⟨hown4,hbw4⟩:=fine_next hown3 hbw3 hb4;obtain ⟨_,_,_,_,hB4⟩:=boxes hbw4;clear hown3 hbw3 hb4)
          | (at_builtin;refine wpList_append_own _ rfl (.tmp 40) (.tmp 49) 65 rfl (w.heap.size+1) 99 i0 (.agg #[.int .i64 0,.string ⟨#[]⟩,.int .i64 0]) 3 32 Tryz.underlying65 hi hz0 hz1 hz2 rfl (by decide) _ _ _ rfl (hown4.alloc _) ⟨w4.heap.size,0,none⟩ 1 1 [.int .i64 K,.string (s.extract p (p+n)),.int .i64 (p:Int)] rfl rfl (cell_three_new _ _ _ _ _ _ (by simp)) (one_cells _ _ _) (by unfold maxLen;omega) (by omega) (by simp <;> omega) ?_;intro v' w5 hown' hgrow hne;have X:Hid (w5.ownsRow (w.heap.size+1) 99 3 v' (acc.length+1) (cellsOf acc++[.int .i64 K,.string (s.extract p (p+n)),.int .i64 (p:Int)])∧Below (w.heap.size+1) (w.alloc (.cells #[.int .i64 0,.int .i64 0] 28)) w5):=⟨hown',rel_tok (hbw4.alloc (by omega) _) (by simp <;> omega) (hown4.alloc _) hgrow⟩;clear hown' hgrow hne)
          | (go_at_call 55;refine (hsk _).mono ?_;rintro e w' ⟨j,rfl,hg2,hq2,hw⟩;obtain rfl:=hw.symm))
        have hT:=go_tok hlt hst.out HS.out
        obtain ⟨f',hf',HR'⟩:=hg2.on f _ R (by omega) hT.1
        have hjt:=hg2.top
        have hjl:=hg2.le
        go_roundw
        case rel=>exact ⟨j,f',_,hjt,rfl,hf',hq2,HR',own_tok X.out.1,by rw [List.length_append];simp;omega,X.out.2⟩
        case measure=>simp [intOf];omega
      · have hst:Hid (stepL (s.data.toList.drop p)=.fault E):=H2 hE
        clear H1 H2
        have hend:=go_fault hlt hst.out HS.out
        subst hend
        go_wp2_with (first
          | (go_at_call 57;refine (HBR _).mono ?_;rintro e w1 ⟨fv,rfl,hb1,hreach⟩)
          | (go_at_call 56;refine hreach.mono ?_;rintro e w2 ⟨rfl,hb2⟩;obtain ⟨hown2,hbw2⟩:=fine_next hown hbw hb2)
          | (go_at_call 58;refine (HJ _ (fine_err HE.out hbw2)).mono ?_;rintro e w3 ⟨rfl,hb3⟩;obtain ⟨hown3,hbw3⟩:=fine_next hown2 hbw2 hb3;obtain ⟨c0,c1,e0,e1,hB3⟩:=boxes hbw3;clear hown2 hbw2 hb2 hb3))
        refine bodyPost_ret (v:=.tuple #[.slice none 0 0,.agg #[.int .i64 E,.int .i64 p]]) (by simp [results,Tryz.results26,go_sem,c0,c1]) rfl ⟨_,rfl,World.ownsRow_nil _ _ _ _,?_⟩
        exact ((below_old hbw3).setCell (jE _) _).setCell (jE _) _
    · have hend:=go_end (by omega) HS.out
      subst hend
      go_wp2
      refine bodyPost_ret (v:=.tuple #[u4,.agg #[.int .i64 0,.int .i64 0]]) (by simp [results,Tryz.results26,go_sem,hc0,hc1]) rfl ⟨u4,rfl,?_,?_⟩
      · exact ownsRow_le (ownsRow_setCell_below (ownsRow_setCell_below hown (by simp) _) (by simp) _) (by omega)
      · exact ((below_old hbw).setCell (jE _) _).setCell (jE _) _
theorem oscan_long (s:ByteArray) (w:World) (hs:3000<s.size) :
    Calls Tryz.prog 26 #[.string s] w fun e w'=>∃ v,e=.returned (.tuple #[v,.agg #[.int .i64 (scan s.data.toList).code,.int .i64 (scan s.data.toList).place]]) ∧
      w'.ownsRow w.heap.size 99 3 v (scan s.data.toList).toks.length (cellsOf (scan s.data.toList).toks)∧Below w.heap.size w w':=by
  have hsz:(3000:Int)<(s.size:Int):=by omega
  have hR:scan s.data.toList=.err 1 0:=by rw [scan,if_pos (by rw [len_L];omega)]
  rw [hR]
  clear hR
  go_enter Tryz.func26,Tryz.ntmps26
  go_wp2
  refine bodyPost_ret (v:=.tuple #[.slice none 0 0,.agg #[.int .i64 1,.int .i64 0]]) (by simp [results,Tryz.results26,go_sem]) rfl ⟨_,rfl,World.ownsRow_nil _ _ _ _,?_⟩
  exact (Below.refl _ _).alloc (jE _) _
theorem scan_own (s:ByteArray):Scans HasErr 26 s:=by
  intro w he
  rcases Nat.lt_or_ge 3000 s.size with h | h
  · exact oscan_long s w h
  · exact oscan s w h he
end Go.Proofs.YtfopddgjdaoidaaGreatDoor.lexs
namespace Go.Proofs.YtfopddgjdaoidaaGreatDoor.syn
open lexs (Tok ltrI insI val)
inductive Tree where
  | node (kind:Int) (text:ByteArray) (num:Int) (kids:List Tree)
structure St where
  i:Nat
  bad:Bool
def St.fail (s:St):St:={ s with bad:=true }
def St.next (s:St):St:={ s with i:=s.i+1 }
def empty:ByteArray:=⟨#[]⟩
def eqS (x y:ByteArray):Bool:=x.toList==y.toList
section
variable (ts:List Tok)
def here (s:St):Option Tok:=if s.bad then none else ts[s.i]?
def txt (s:St):ByteArray :=
  match here ts s with
  | none=>empty
  | some t=>if t.kind==2 then empty else ⟨t.text.toArray⟩
def eat (x:ByteArray) (s:St):Bool × St:=if eqS (txt ts s) x then (true,s.next) else (false,s)
def must (x:ByteArray) (s:St):St:=if eqS (txt ts s) x then s.next else s.fail
def reserved:List ByteArray:=[⟨#[100,111]⟩,⟨#[101,108,115,101]⟩,⟨#[103,105,118,101,115]⟩,⟨#[104,105,103,104]⟩,⟨#[105,102]⟩,⟨#[105,109,112,111,114,116]⟩,⟨#[105,110]⟩,⟨#[108,111,119]⟩,⟨#[109,111,100,117,108,101]⟩,⟨#[111,117,116]⟩,⟨#[112,114,111,99]⟩,⟨#[112,117,98]⟩,⟨#[114,101,116,117,114,110]⟩,⟨#[119,104,105,108,101]⟩]
def isName (x:ByteArray):Bool :=
  decide (1≤x.size∧x.size≤16) && ltrI ((x.data.toList.headD 0).toNat:Int) && x.data.toList.all (fun c=>insI (c.toNat:Int)) && !(reserved.any fun y=>eqS y x)
def name (s:St):ByteArray × St:=if isName (txt ts s) then (txt ts s,s.next) else (empty,s.fail)
def whole (s:St):ByteArray × St :=
  let a:=name ts s
  let e:=eat ts ⟨#[46]⟩ a.2
  if e.1 then (a.1++⟨#[46]⟩++(name ts e.2).1,(name ts e.2).2) else (a.1,a.2)
def label (s:St):Int × St :=
  if eqS (txt ts s) ⟨#[104,105,103,104]⟩ then (1,s.next) else (0,must ts ⟨#[108,111,119]⟩ s)
def isNum (s:St):Bool:=match here ts s with | none=>false | some t=>t.kind==2
def number (s:St):Tree × St :=
  match here ts s with
  | none=>(.node 15 empty 0 [],s.fail)
  | some t=>if t.kind==2 then (.node 15 empty (val t.text:Int) [],s.next) else (.node 15 empty 0 [],s.fail)
def signs:List (ByteArray × Int × Int):=[(⟨#[61,61]⟩,9,0),(⟨#[60]⟩,8,0),(⟨#[43]⟩,1,1),(⟨#[45]⟩,2,1),(⟨#[124]⟩,7,1),(⟨#[42]⟩,3,2),(⟨#[47]⟩,4,2),(⟨#[37]⟩,5,2),(⟨#[38]⟩,6,2)]
def sign (x:ByteArray):Int × Int:=((signs.find? fun y=>eqS y.1 x).map (·.2)).getD (0,-1)
end
end Go.Proofs.YtfopddgjdaoidaaGreatDoor.syn
namespace Go.Proofs.YtfopddgjdaoidaaGreatDoor.syn
open lexs (Tok)
section
variable (ts:List Tok)
mutual
def exprF:Nat→St→Option (Tree × St)
  | 0,_=>none
  | f+1,s=>if s.bad then some (.node 0 empty 0 [],s) else boundF f 0 s
def boundF:Nat→Nat→St→Option (Tree × St)
  | 0,_,_=>none
  | f+1,least,s=>if 2<least then unaryF f s else (boundF f (least+1) s).bind fun q=>boundL f least q.1 q.2
def boundL:Nat→Nat→Tree→St→Option (Tree × St)
  | 0,_,_,_=>none
  | f+1,least,n,s =>
    if s.bad then some (n,s)
    else if (sign (txt ts s)).2 != (least:Int) then some (n,s)
    else (boundF f (least+1) s.next).bind fun q =>
      if least==0 then some (.node 19 empty (sign (txt ts s)).1 [n,q.1],q.2) else boundL f least (.node 19 empty (sign (txt ts s)).1 [n,q.1]) q.2
def unaryF:Nat→St→Option (Tree × St)
  | 0,_=>none
  | f+1,s =>
    if eqS (txt ts s) ⟨#[45]⟩ then (unaryF f s.next).bind fun q=>some (.node 20 empty 0 [q.1],q.2)
    else if eqS (txt ts s) ⟨#[33]⟩ then (unaryF f s.next).bind fun q=>some (.node 21 empty 0 [q.1],q.2)
    else if eqS (txt ts s) ⟨#[40]⟩ then askedF f s
    else if isNum ts s then some (number ts s)
    else if eqS (txt ts (whole ts s).2) ⟨#[40]⟩ then callF f (whole ts s).1 (whole ts s).2 else placeF f (whole ts s).1 (whole ts s).2
def askedF:Nat→St→Option (Tree × St)
  | 0,_=>none
  | f+1,s=>(exprF f (must ts ⟨#[40]⟩ s)).bind fun q=>some (q.1,must ts ⟨#[41]⟩ q.2)
def placeF:Nat→ByteArray→St→Option (Tree × St)
  | 0,_,_=>none
  | f+1,x,s =>
    if eqS (txt ts s) ⟨#[91]⟩ then (exprF f s.next).bind fun q=>some (.node 17 x 0 [q.1],must ts ⟨#[93]⟩ q.2) else some (.node 16 x 0 [],s)
def callF:Nat→ByteArray→St→Option (Tree × St)
  | 0,_,_=>none
  | f+1,x,s =>
    if eqS (txt ts (must ts ⟨#[40]⟩ s)) ⟨#[41]⟩ then some (.node 18 x 0 [],(must ts ⟨#[40]⟩ s).next) else callL f x [] (must ts ⟨#[40]⟩ s) true
def callL:Nat→ByteArray→List Tree→St→Bool→Option (Tree × St)
  | 0,_,_,_,_=>none
  | f+1,x,ks,s,on =>
    if on && !s.bad then (exprF f s).bind fun q=>callL f x (ks++[q.1]) (eat ts ⟨#[44]⟩ q.2).2 (eat ts ⟨#[44]⟩ q.2).1
    else some (.node 18 x 0 ks,must ts ⟨#[41]⟩ s)
end
end
end Go.Proofs.YtfopddgjdaoidaaGreatDoor.syn
