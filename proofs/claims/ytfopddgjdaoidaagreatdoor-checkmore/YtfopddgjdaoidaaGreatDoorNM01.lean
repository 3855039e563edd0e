/- What the program's behind answers, and reach with what it answers; the library's Clone and IndexByte: contracts. -/
import Derived.Test.YtfopddgjdaoidaaGreatDoorNM00
import Derived.Shelf.Strconv.ErrVarParseInt
import Derived.Lib.Bytealg
set_option linter.unusedVariables false
namespace Go.Proofs.YtfopddgjdaoidaaGreatDoor.lexs
open Go.RowKit
theorem oletter (c:Int) (w:World) :
    Calls Tryz.prog 100 #[.int .u8 c] w fun e w'=>e=.returned (.bool (ltrI c))∧w'=w:=by
  go_enter Tryz.func100,Tryz.ntmps100
  go_wp2
  all_goals
    go_ret
    exact ⟨ret_bool (by rw [Bool.eq_iff_iff];simp [ltrI] <;> omega),rfl⟩
theorem odigit (c:Int) (w:World) :
    Calls Tryz.prog 101 #[.int .u8 c] w fun e w'=>e=.returned (.bool (digI c))∧w'=w:=by
  go_enter Tryz.func101,Tryz.ntmps101
  go_wp2
  all_goals
    go_ret
    exact ⟨ret_bool (by rw [Bool.eq_iff_iff];simp [digI] <;> omega),rfl⟩
theorem oblank (c:Int) (w:World) :
    Calls Tryz.prog 98 #[.int .u8 c] w fun e w'=>e=.returned (.bool (c==32 || c==10))∧w'=w:=by
  go_enter Tryz.func98,Tryz.ntmps98
  go_wp2
  all_goals
    go_ret
    exact ⟨ret_bool (by first | rfl | (rw [Bool.eq_iff_iff];simp <;> omega) | (simp_all)),rfl⟩
theorem onoted (c:Int) (w:World) :
    Calls Tryz.prog 99 #[.int .u8 c] w fun e w'=>e=.returned (.bool (c != 10))∧w'=w:=by
  go_enter Tryz.func99,Tryz.ntmps99
  go_wp2
  all_goals
    go_ret
    exact ⟨ret_bool (by first | rfl | (rw [Bool.eq_iff_iff];simp <;> omega) | (simp_all)),rfl⟩
theorem obehind1 (c:Int) (w:World) :
    Calls Tryz.prog 102 #[.int .u8 c] w fun e w'=>e=.returned (.bool (insI c))∧w'=w:=by
  cases h1:ltrI c <;> cases h2:digI c
  all_goals
    go_enter Tryz.func102,Tryz.ntmps102
    go_wp2_with (first | (go_at_call 100;refine (oletter _ _).mono ?_;rintro e w' ⟨rfl,rfl⟩) | (go_at_call 101;refine (odigit _ _).mono ?_;rintro e w' ⟨rfl,rfl⟩))
    go_ret
    exact ⟨ret_bool (by unfold insI;rw [h1,h2];simp),rfl⟩
structure Stops (P:UInt8→Bool) (s:ByteArray) (i j:Nat):Prop where
  le:i≤j
  top:j≤s.size
  all:∀ k (h:k<s.size),i≤k→k<j→P s[k]=true
  stop:j=s.size∨∃ h:j<s.size,P s[j]=false
theorem Stops.run {P:UInt8→Bool} {s:ByteArray} {i j:Nat} (h:Stops P s i j):run P (s.data.toList.drop i)=j - i:=by
  have e:i+(j - i)=j:=by have:=h.le;omega
  exact run_at P s i (j - i) (by have:=h.top;omega) (fun k hk h1 h2=>h.all k hk h1 (by omega)) (by simp only [e];exact h.stop)
set_option maxRecDepth 100000 in
theorem reach_digit (s:ByteArray) (i:Nat) (hs:s.size≤3000) (hi:i≤s.size) (w:World) :
    Calls Tryz.prog 56 #[.string s,.int .i64 i,.func (.func 101) #[] #[]] w fun e w'=>∃ j:Nat,e=.returned (.int .i64 j)∧Stops digB s i j∧w'=w:=by
  go_enter Tryz.func56,Tryz.ntmps56
  go_wp2
  go_loop [1] (fun t=>∃ j:Nat,i≤j∧j≤s.size∧t=.int .i64 j∧Hid (∀ k (h:k<s.size),i≤k→k<j→digB s[k]=true)) (fun t=>s.size - (intOf t).toNat)
  case atStart=>exact ⟨i,by omega,hi,rfl,fun k _ h1 h2=>by omega⟩
  case round =>
    obtain ⟨j,hij,hjs,rfl,HN⟩:=hrel
    by_cases hq:j<s.size
    · cases hb:digI (s[j].toNat:Int)
      · go_wp2_with (go_at_call 101;refine (odigit _ _).mono ?_;rintro e w' ⟨rfl,hw⟩;obtain rfl:=hw.symm)
        go_ret
        exact ⟨j,rfl,⟨hij,hjs,HN.out,.inr ⟨hq,by exact hb⟩⟩,rfl⟩
      · go_wp2_with (go_at_call 101;refine (odigit _ _).mono ?_;rintro e w' ⟨rfl,hw⟩;obtain rfl:=hw.symm)
        go_round
        case rel=>exact ⟨j+1,by omega,by omega,by go_num,fun k h h1 h2=>by
          rcases Nat.lt_or_ge k j with h3 | h3
          · exact HN.out k h h1 h3
          · have:k=j:=by omega
            subst this
            exact hb⟩
        case measure=>simp [intOf];omega
    · go_wp2_with (go_at_call 101;refine (odigit _ _).mono ?_;rintro e w' ⟨rfl,hw⟩;obtain rfl:=hw.symm)
      go_ret
      exact ⟨j,rfl,⟨hij,hjs,HN.out,.inl (by omega)⟩,rfl⟩
set_option maxRecDepth 100000 in
theorem reach_inside (s:ByteArray) (i:Nat) (hs:s.size≤3000) (hi:i≤s.size) (w:World) :
    Calls Tryz.prog 56 #[.string s,.int .i64 i,.func (.func 102) #[] #[]] w fun e w'=>∃ j:Nat,e=.returned (.int .i64 j)∧Stops insB s i j∧w'=w:=by
  go_enter Tryz.func56,Tryz.ntmps56
  go_wp2
  go_loop [1] (fun t=>∃ j:Nat,i≤j∧j≤s.size∧t=.int .i64 j∧Hid (∀ k (h:k<s.size),i≤k→k<j→insB s[k]=true)) (fun t=>s.size - (intOf t).toNat)
  case atStart=>exact ⟨i,by omega,hi,rfl,fun k _ h1 h2=>by omega⟩
  case round =>
    obtain ⟨j,hij,hjs,rfl,HN⟩:=hrel
    by_cases hq:j<s.size
    · cases hb:insI (s[j].toNat:Int)
      · go_wp2_with (go_at_call 102;refine (obehind1 _ _).mono ?_;rintro e w' ⟨rfl,hw⟩;obtain rfl:=hw.symm)
        go_ret
        exact ⟨j,rfl,⟨hij,hjs,HN.out,.inr ⟨hq,by exact hb⟩⟩,rfl⟩
      · go_wp2_with (go_at_call 102;refine (obehind1 _ _).mono ?_;rintro e w' ⟨rfl,hw⟩;obtain rfl:=hw.symm)
        go_round
        case rel=>exact ⟨j+1,by omega,by omega,by go_num,fun k h h1 h2=>by
          rcases Nat.lt_or_ge k j with h3 | h3
          · exact HN.out k h h1 h3
          · have:k=j:=by omega
            subst this
            exact hb⟩
        case measure=>simp [intOf];omega
    · go_wp2_with (go_at_call 102;refine (obehind1 _ _).mono ?_;rintro e w' ⟨rfl,hw⟩;obtain rfl:=hw.symm)
      go_ret
      exact ⟨j,rfl,⟨hij,hjs,HN.out,.inl (by omega)⟩,rfl⟩
theorem blank_is (b:UInt8):((b.toNat:Int)==32 || (b.toNat:Int)==10)=(b==32 || b==10):=by rw [byte_is _ 32 32 rfl,byte_is _ 10 10 rfl]
theorem noted_is (b:UInt8):((b.toNat:Int) != 10)=(b != 10):=by rw [bne,byte_is _ 10 10 rfl];rfl
set_option maxRecDepth 100000 in
theorem reach_blank (s:ByteArray) (i:Nat) (hs:s.size≤3000) (hi:i≤s.size) (w:World) :
    Calls Tryz.prog 56 #[.string s,.int .i64 i,.func (.func 98) #[] #[]] w fun e w'=>∃ j:Nat,e=.returned (.int .i64 j)∧Stops (fun b=>b==32 || b==10) s i j∧w'=w:=by
  go_enter Tryz.func56,Tryz.ntmps56
  go_wp2
  go_loop [1] (fun t=>∃ j:Nat,i≤j∧j≤s.size∧t=.int .i64 j∧Hid (∀ k (h:k<s.size),i≤k→k<j→(fun b=>b==32 || b==10) s[k]=true)) (fun t=>s.size - (intOf t).toNat)
  case atStart=>exact ⟨i,by omega,hi,rfl,fun k _ h1 h2=>by omega⟩
  case round =>
    obtain ⟨j,hij,hjs,rfl,HN⟩:=hrel
    by_cases hq:j<s.size
    · cases hb:((s[j].toNat:Int)==32 || (s[j].toNat:Int)==10)
      · go_wp2_with (go_at_call 98;refine (oblank _ _).mono ?_;rintro e w' ⟨rfl,hw⟩;obtain rfl:=hw.symm)
        go_ret
        exact ⟨j,rfl,⟨hij,hjs,HN.out,.inr ⟨hq,by rw [blank_is] at hb;exact hb⟩⟩,rfl⟩
      · go_wp2_with (go_at_call 98;refine (oblank _ _).mono ?_;rintro e w' ⟨rfl,hw⟩;obtain rfl:=hw.symm)
        go_round
        case rel=>exact ⟨j+1,by omega,by omega,by go_num,fun k h h1 h2=>by
          rcases Nat.lt_or_ge k j with h3 | h3
          · exact HN.out k h h1 h3
          · have:k=j:=by omega
            subst this
            rw [blank_is] at hb;exact hb⟩
        case measure=>simp [intOf];omega
    · go_wp2_with (go_at_call 98;refine (oblank _ _).mono ?_;rintro e w' ⟨rfl,hw⟩;obtain rfl:=hw.symm)
      go_ret
      exact ⟨j,rfl,⟨hij,hjs,HN.out,.inl (by omega)⟩,rfl⟩
set_option maxRecDepth 100000 in
theorem reach_noted (s:ByteArray) (i:Nat) (hs:s.size≤3000) (hi:i≤s.size) (w:World) :
    Calls Tryz.prog 56 #[.string s,.int .i64 i,.func (.func 99) #[] #[]] w fun e w'=>∃ j:Nat,e=.returned (.int .i64 j)∧Stops (fun b=>b != 10) s i j∧w'=w:=by
  go_enter Tryz.func56,Tryz.ntmps56
  go_wp2
  go_loop [1] (fun t=>∃ j:Nat,i≤j∧j≤s.size∧t=.int .i64 j∧Hid (∀ k (h:k<s.size),i≤k→k<j→(fun b=>b != 10) s[k]=true)) (fun t=>s.size - (intOf t).toNat)
  case atStart=>exact ⟨i,by omega,hi,rfl,fun k _ h1 h2=>by omega⟩
  case round =>
    obtain ⟨j,hij,hjs,rfl,HN⟩:=hrel
    by_cases hq:j<s.size
    · cases hb:((s[j].toNat:Int) != 10)
      · go_wp2_with (go_at_call 99;refine (onoted _ _).mono ?_;rintro e w' ⟨rfl,hw⟩;obtain rfl:=hw.symm)
        go_ret
        exact ⟨j,rfl,⟨hij,hjs,HN.out,.inr ⟨hq,by rw [noted_is] at hb;exact hb⟩⟩,rfl⟩
      · go_wp2_with (go_at_call 99;refine (onoted _ _).mono ?_;rintro e w' ⟨rfl,hw⟩;obtain rfl:=hw.symm)
        go_round
        case rel=>exact ⟨j+1,by omega,by omega,by go_num,fun k h h1 h2=>by
          rcases Nat.lt_or_ge k j with h3 | h3
          · exact HN.out k h h1 h3
          · have:k=j:=by omega
            subst this
            rw [noted_is] at hb;exact hb⟩
        case measure=>simp [intOf];omega
    · go_wp2_with (go_at_call 99;refine (onoted _ _).mono ?_;rintro e w' ⟨rfl,hw⟩;obtain rfl:=hw.symm)
      go_ret
      exact ⟨j,rfl,⟨hij,hjs,HN.out,.inl (by omega)⟩,rfl⟩
/-! ### what is passed by -/
structure Goes (s:ByteArray) (p j:Nat):Prop where
  le:p≤j
  top:j≤s.size
  on:∀ (f:Nat) (acc:List Tok) (R:Res),s.size≤p+f→scanL f (s.data.toList.drop p) p acc=R→∃ f',s.size≤j+f'∧scanL f' (s.data.toList.drop j) j acc=R
theorem Goes.rfl' {s:ByteArray} {p:Nat} (h:p≤s.size):Goes s p p:=⟨jE _,h,fun f acc R h1 h2=>⟨f,h1,h2⟩⟩
theorem Goes.trans {s:ByteArray} {p j k:Nat} (h1:Goes s p j) (h2:Goes s j k):Goes s p k :=
  ⟨Nat.le_trans h1.le h2.le,h2.top,fun f acc R a b=>by
    obtain ⟨f',a',b'⟩:=h1.on f acc R a b
    exact h2.on f' acc R a' b'⟩
theorem goes_step {s:ByteArray} {p n:Nat} (hp:p<s.size) (h:stepL (s.data.toList.drop p)=.skip n):Goes s p (p+n)∧0<n:=by
  have h0:=go_skip hp (f:=0) (acc:=[]) h rfl
  refine ⟨⟨by omega,h0.2.2,fun f acc R a b=>?_⟩,h0.2.1⟩
  obtain ⟨f,rfl⟩:∃ f',f=f'+1:=⟨f - 1,by omega⟩
  have hg:=go_skip hp h b
  exact ⟨f,by omega,hg.1⟩
theorem goes_blanks {s:ByteArray} {p j:Nat} (h:Stops (fun b=>b==32 || b==10) s p j):Goes s p j:=by
  obtain ⟨n,rfl⟩:∃ n,j=p+n:=⟨j - p,by have:=h.le;omega⟩
  have H:∀ n,p+n≤s.size→(∀ k (h:k<s.size),p≤k→k<p+n→(s[k]==32 || s[k]==10)=true)→Goes s p (p+n):=by
    intro n
    induction n with
    | zero=>intro h1 _;exact Goes.rfl' h1
    | succ n ih =>
      intro h1 h2
      have g:=ih (by omega) (fun k hk a b=>h2 k hk a (by omega))
      have hb:=h2 (p+n) (by omega) (by omega) (by omega)
      rw [← blank_is,Bool.or_eq_true] at hb
      exact g.trans (goes_step (by omega) (st_blank (by omega) hb)).1
  exact H n h.top h.all
theorem goes_note {s:ByteArray} {p j:Nat} (hp:p<s.size) (h3:((s[p].toNat:Int)==35)=true) (h:Stops (fun b=>b != 10) s p j):Goes s p j∧p<j:=by
  have hv:(s[p].toNat:Int)=35:=by simpa using h3
  have hst:=st_note hp (by rw [hv];rfl) (by rw [hv];rfl) h3 h.run
  have g:=goes_step hp hst
  have hl:=h.le
  have e:p+(j - p)=j:=by omega
  rw [e] at g
  exact ⟨g.1,by omega⟩
set_option maxRecDepth 100000 in
theorem skip_any (s:ByteArray) (i:Nat) (hs:s.size≤3000) (hi:i≤s.size) (w:World) :
    Calls Tryz.prog 55 #[.string s,.int .i64 i] w fun e w'=>∃ j:Nat,e=.returned (.int .i64 j)∧Goes s i j∧(∀ h:j<s.size,((s[j].toNat:Int)==32)=false∧((s[j].toNat:Int)==10)=false∧((s[j].toNat:Int)==35)=false)∧w'=w:=by
  go_enter Tryz.func55,Tryz.ntmps55
  go_wp2
  go_loop [1] (fun t=>∃ j:Nat,j≤s.size∧t=.int .i64 j∧Hid (Goes s i j)) (fun t=>s.size - (intOf t).toNat)
  case atStart=>exact ⟨i,hi,rfl,Goes.rfl' hi⟩
  case round =>
    obtain ⟨j,hjs,rfl,HG⟩:=hrel
    go_wp2_with (fail)
    refine (reach_blank s j hs hjs _).mono ?_
    rintro e w' ⟨k,rfl,hk,hw⟩
    obtain rfl:=hw.symm
    have HK:Hid (Goes s i k):=HG.out.trans (goes_blanks hk)
    have hkl:=hk.le
    have hkt:=hk.top
    have HS:=hk.stop
    by_cases hq:k<s.size
    · have HB:Hid (((s[k].toNat:Int)==32)=false∧((s[k].toNat:Int)==10)=false):=by
        rcases HS with h | ⟨_,h⟩
        · omega
        · rw [← blank_is,Bool.or_eq_false_iff] at h
          exact h
      clear HS hk
      cases h35:((s[k].toNat:Int) != 35)
      case true =>
        go_wp2
        go_ret
        exact ⟨k,rfl,HK.out,fun _=>⟨HB.out.1,HB.out.2,by simpa [bne] using h35⟩,rfl⟩
      case false =>
        go_wp2_with (fail)
        refine (reach_noted s k hs hkt _).mono ?_
        rintro e w' ⟨m,rfl,hm,hw⟩
        obtain rfl:=hw.symm
        have hg:=goes_note hq (by simpa [bne] using h35) hm
        have HM:Hid (Goes s i m):=HK.out.trans hg.1
        have hlt:=hg.2
        have hmt:=hm.top
        clear hm hg
        go_wp2
        go_round
        case rel=>exact ⟨m,hmt,rfl,HM.out⟩
        case measure=>simp [intOf];omega
    · have hke:k=s.size:=by omega
      subst hke
      clear HS hk
      go_wp2
      go_ret
      exact ⟨s.size,rfl,HK.out,fun h=>absurd h hq,rfl⟩
end Go.Proofs.YtfopddgjdaoidaaGreatDoor.lexs
namespace Go.Proofs
open Go.Shelf
def Tryz.laysPI_ren : Go.Shelf.Ren := ⟨fun | 174 => 137 | 247 => 172 | 245 => 173 | 287 => 192 | 279 => 193 | 280 => 194 | 281 => 195 | 282 => 196 | 321 => 207 | 322 => 208 | 316 => 106 | 171 => 210 | 205 => 209 | 243 => 231 | 246 => 201 | 283 => 223 | 284 => 224 | 285 => 225 | 286 => 226 | 129 => 237 | 317 => 236 | 318 => 238 | 319 => 239 | 320 => 240 | 337 => 249 | 338 => 250 | n => n, fun | 9 => 9 | 3 => 3 | 2 => 2 | 75 => 130 | 85 => 183 | 4 => 4 | 167 => 222 | 5 => 5 | 53 => 223 | 175 => 224 | 46 => 226 | 168 => 227 | 37 => 125 | 0 => 0 | 210 => 240 | 21 => 21 | 127 => 166 | 145 => 259 | 143 => 257 | 171 => 243 | 173 => 246 | 212 => 264 | 51 => 265 | 20 => 20 | 213 => 266 | 232 => 276 | 233 => 277 | 80 => 96 | n => n, fun | 15 => 2 | 16 => 3 | 17 => 4 | 18 => 6 | 19 => 7 | n => n⟩
theorem Tryz.laysPI : Go.Proofs.LaysC.n174 Tryz.prog Tryz.laysPI_ren := {
  mixed := by kernel_rfl
  f129 := Tryz.func237.trans (congrArg some (by kernel_rfl))
  f171 := Tryz.func210.trans (congrArg some (by kernel_rfl))
  f174 := Tryz.func137.trans (congrArg some (by kernel_rfl))
  f205 := Tryz.func209.trans (congrArg some (by kernel_rfl))
  f243 := Tryz.func231.trans (congrArg some (by kernel_rfl))
  f245 := Tryz.func173.trans (congrArg some (by kernel_rfl))
  f246 := Tryz.func201.trans (congrArg some (by kernel_rfl))
  f247 := Tryz.func172.trans (congrArg some (by kernel_rfl))
  f279 := Tryz.func193.trans (congrArg some (by kernel_rfl))
  f280 := Tryz.func194.trans (congrArg some (by kernel_rfl))
  f281 := Tryz.func195.trans (congrArg some (by kernel_rfl))
  f282 := Tryz.func196.trans (congrArg some (by kernel_rfl))
  f283 := Tryz.func223.trans (congrArg some (by kernel_rfl))
  f284 := Tryz.func224.trans (congrArg some (by kernel_rfl))
  f285 := Tryz.func225.trans (congrArg some (by kernel_rfl))
  f286 := Tryz.func226.trans (congrArg some (by kernel_rfl))
  f287 := Tryz.func192.trans (congrArg some (by kernel_rfl))
  f316 := Tryz.func106.trans (congrArg some (by kernel_rfl))
  f317 := Tryz.func236.trans (congrArg some (by kernel_rfl))
  f318 := Tryz.func238.trans (congrArg some (by kernel_rfl))
  f319 := Tryz.func239.trans (congrArg some (by kernel_rfl))
  f320 := Tryz.func240.trans (congrArg some (by kernel_rfl))
  f321 := Tryz.func207.trans (congrArg some (by kernel_rfl))
  f322 := Tryz.func208.trans (congrArg some (by kernel_rfl))
  f337 := Tryz.func249.trans (congrArg some (by kernel_rfl))
  f338 := Tryz.func250.trans (congrArg some (by kernel_rfl))
  t0 := Tryz.underlying0
  a0 := Tryz.isAgg0
  z0 := Tryz.sizeOf0
  v0 := Tryz.zeroValue0
  t2 := Tryz.underlying2
  a2 := Tryz.isAgg2
  z2 := Tryz.sizeOf2
  v2 := Tryz.zeroValue2
  t3 := Tryz.underlying3
  a3 := Tryz.isAgg3
  z3 := Tryz.sizeOf3
  v3 := Tryz.zeroValue3
  t4 := Tryz.underlying4
  a4 := Tryz.isAgg4
  z4 := Tryz.sizeOf4
  v4 := Tryz.zeroValue4
  t5 := Tryz.underlying5
  a5 := Tryz.isAgg5
  z5 := Tryz.sizeOf5
  v5 := Tryz.zeroValue5
  t9 := Tryz.underlying9
  a9 := Tryz.isAgg9
  z9 := Tryz.sizeOf9
  v9 := Tryz.zeroValue9
  t20 := Tryz.underlying20
  a20 := Tryz.isAgg20
  z20 := Tryz.sizeOf20
  v20 := Tryz.zeroValue20
  t21 := Tryz.underlying21
  a21 := Tryz.isAgg21
  z21 := Tryz.sizeOf21
  v21 := Tryz.zeroValue21
  t37 := Tryz.underlying125
  a37 := Tryz.isAgg125
  z37 := Tryz.sizeOf125
  v37 := Tryz.zeroValue125
  t46 := Tryz.underlying226
  a46 := Tryz.isAgg226
  z46 := Tryz.sizeOf226
  v46 := Tryz.zeroValue226
  t51 := Tryz.underlying265
  a51 := Tryz.isAgg265
  z51 := Tryz.sizeOf265
  v51 := Tryz.zeroValue265
  t53 := Tryz.underlying223
  a53 := Tryz.isAgg223
  z53 := Tryz.sizeOf223
  v53 := Tryz.zeroValue223
  t75 := Tryz.underlying130
  a75 := Tryz.isAgg130
  z75 := Tryz.sizeOf130
  v75 := Tryz.zeroValue130
  t85 := Tryz.underlying183
  a85 := Tryz.isAgg183
  z85 := Tryz.sizeOf183
  v85 := Tryz.zeroValue183
  t127 := Tryz.underlying166
  a127 := Tryz.isAgg166
  z127 := Tryz.sizeOf166
  v127 := Tryz.zeroValue166
  t143 := Tryz.underlying257
  a143 := Tryz.isAgg257
  z143 := Tryz.sizeOf257
  v143 := Tryz.zeroValue257
  t145 := Tryz.underlying259
  a145 := Tryz.isAgg259
  z145 := Tryz.sizeOf259
  v145 := Tryz.zeroValue259
  t167 := Tryz.underlying222
  a167 := Tryz.isAgg222
  z167 := Tryz.sizeOf222
  v167 := Tryz.zeroValue222
  t168 := Tryz.underlying227
  a168 := Tryz.isAgg227
  z168 := Tryz.sizeOf227
  v168 := Tryz.zeroValue227
  t171 := Tryz.underlying243
  a171 := Tryz.isAgg243
  z171 := Tryz.sizeOf243
  v171 := Tryz.zeroValue243
  t173 := Tryz.underlying246
  a173 := Tryz.isAgg246
  z173 := Tryz.sizeOf246
  v173 := Tryz.zeroValue246
  t175 := Tryz.underlying224
  a175 := Tryz.isAgg224
  z175 := Tryz.sizeOf224
  v175 := Tryz.zeroValue224
  t210 := Tryz.underlying240
  a210 := Tryz.isAgg240
  z210 := Tryz.sizeOf240
  v210 := Tryz.zeroValue240
  t212 := Tryz.underlying264
  a212 := Tryz.isAgg264
  z212 := Tryz.sizeOf264
  v212 := Tryz.zeroValue264
  t213 := Tryz.underlying266
  a213 := Tryz.isAgg266
  z213 := Tryz.sizeOf266
  t232 := Tryz.underlying276
  a232 := Tryz.isAgg276
  z232 := Tryz.sizeOf276
  v232 := Tryz.zeroValue276
  t233 := Tryz.underlying277
  a233 := Tryz.isAgg277
  z233 := Tryz.sizeOf277
  v233 := Tryz.zeroValue277
  g15 := by kernel_rfl
  g16 := by kernel_rfl
  g17 := by kernel_rfl
  g18 := by kernel_rfl
  g19 := by kernel_rfl
  t80 := Tryz.underlying96
  a80 := Tryz.isAgg96
  z80 := Tryz.sizeOf96
  v80 := Tryz.zeroValue96
  i0 := by kernel_rfl
  i2 := by kernel_rfl
  i3 := by kernel_rfl
  i4 := by kernel_rfl
  i5 := by kernel_rfl
  i9 := by kernel_rfl
  i20 := by kernel_rfl
  i21 := by kernel_rfl
  i37 := by kernel_rfl
  i46 := by kernel_rfl
  i51 := by kernel_rfl
  i53 := by kernel_rfl
  i75 := by kernel_rfl
  i80 := by kernel_rfl
  i85 := by kernel_rfl
  i127 := by kernel_rfl
  i143 := by kernel_rfl
  i145 := by kernel_rfl
  i167 := by kernel_rfl
  i168 := by kernel_rfl
  i171 := by kernel_rfl
  i173 := by kernel_rfl
  i175 := by kernel_rfl
  i210 := by kernel_rfl
  i212 := by kernel_rfl
  i232 := by kernel_rfl
  i233 := by kernel_rfl
  m15 := by kernel_rfl
  m16 := by kernel_rfl
  m17 := by kernel_rfl
  m18 := by kernel_rfl
  m19 := by kernel_rfl
  c0 := by kernel_rfl
  c2 := by kernel_rfl
  c3 := by kernel_rfl
  c4 := by kernel_rfl
  c5 := by kernel_rfl
  c9 := by kernel_rfl
  c20 := by kernel_rfl
  c21 := by kernel_rfl
  c37 := by kernel_rfl
  c46 := by kernel_rfl
  c51 := by kernel_rfl
  c53 := by kernel_rfl
  c75 := by kernel_rfl
  c80 := by kernel_rfl
  c85 := by kernel_rfl
  c127 := by kernel_rfl
  c143 := by kernel_rfl
  c145 := by kernel_rfl
  c167 := by kernel_rfl
  c168 := by kernel_rfl
  c171 := by kernel_rfl
  c173 := by kernel_rfl
  c175 := by kernel_rfl
  c210 := by kernel_rfl
  c212 := by kernel_rfl
  c213 := by kernel_rfl
  c232 := by kernel_rfl
  c233 := by kernel_rfl }
def Tryz.laysClone_ren : Go.Shelf.Ren := ⟨fun | 316 => 106 | n => n, fun | 9 => 9 | 3 => 3 | 4 => 4 | 37 => 125 | 0 => 0 | 127 => 166 | 5 => 5 | n => n, fun | n => n⟩
theorem Tryz.laysClone : Go.Proofs.LaysM.n316 Tryz.prog Tryz.laysClone_ren := {
  mixed := by kernel_rfl
  f316 := Tryz.func106.trans (congrArg some (by kernel_rfl))
  t0 := Tryz.underlying0
  a0 := Tryz.isAgg0
  z0 := Tryz.sizeOf0
  v0 := Tryz.zeroValue0
  t3 := Tryz.underlying3
  a3 := Tryz.isAgg3
  z3 := Tryz.sizeOf3
  v3 := Tryz.zeroValue3
  t4 := Tryz.underlying4
  a4 := Tryz.isAgg4
  z4 := Tryz.sizeOf4
  v4 := Tryz.zeroValue4
  t9 := Tryz.underlying9
  a9 := Tryz.isAgg9
  z9 := Tryz.sizeOf9
  v9 := Tryz.zeroValue9
  t37 := Tryz.underlying125
  a37 := Tryz.isAgg125
  z37 := Tryz.sizeOf125
  v37 := Tryz.zeroValue125
  t127 := Tryz.underlying166
  a127 := Tryz.isAgg166
  z127 := Tryz.sizeOf166
  v127 := Tryz.zeroValue166
  t5 := Tryz.underlying5
  a5 := Tryz.isAgg5
  z5 := Tryz.sizeOf5
  v5 := Tryz.zeroValue5
  i0 := by kernel_rfl
  i3 := by kernel_rfl
  i4 := by kernel_rfl
  i5 := by kernel_rfl
  i9 := by kernel_rfl
  i37 := by kernel_rfl
  i127 := by kernel_rfl }
end Go.Proofs
namespace Go.Proofs.YtfopddgjdaoidaaGreatDoor.lexs
open Go.RowKit
theorem behind_row (c:Int) (h:(ltrI c || digI c)=true) (w:World) :
    Calls Tryz.prog 57 #[.int .u8 c] w fun e w'=>e=.returned (.func (.func 102) #[] #[])∧Below w.heap.size w w':=by
  cases h1:ltrI c <;> cases h2:digI c
  case false.false=>simp [h1,h2] at h
  all_goals
    go_enter Tryz.func57,Tryz.ntmps57
    go_wp2_with (first | (go_at_call 100;refine (oletter _ _).mono ?_;rintro e w' ⟨rfl,hw⟩;obtain rfl:=hw.symm) | (go_at_call 101;refine (odigit _ _).mono ?_;rintro e w' ⟨rfl,hw⟩;obtain rfl:=hw.symm))
    go_ret
    exact ⟨rfl,(Below.refl _ _).alloc (jE _) _⟩
def Boxed (w w':World) (c:Int):Prop:=w'.cell? ⟨w.heap.size+1,0,none⟩=some (.int .i64 1)∧w'.cell? ⟨w.heap.size,0,none⟩=some (.int .u8 c)∧w'.frozen? ⟨w.heap.size+1,0,none⟩=false∧Below w.heap.size w w'
theorem behind_sign (c:Int) (h1:ltrI c=false) (h2:digI c=false) (w:World) :
    Calls Tryz.prog 57 #[.int .u8 c] w fun e w'=>e=.returned (.func (.func 103) #[] #[.pointer (some ⟨w.heap.size+1,0,none⟩),.pointer (some ⟨w.heap.size,0,none⟩)])∧Boxed w w' c:=by
  have hmf:∀ (fn:Fn) (first cap:Array Value) (w:World),(Instr.makeFunc fn first cap).run Tryz.prog w=.ok (.func fn first cap) w:=fun _ _ _ _=>rfl
  go_enter Tryz.func57,Tryz.ntmps57
  go_wp2_with (first | (go_at_call 100;refine (oletter _ _).mono ?_;rintro e w' ⟨rfl,hw⟩;obtain rfl:=hw.symm) | (go_at_call 101;refine (odigit _ _).mono ?_;rintro e w' ⟨rfl,hw⟩;obtain rfl:=hw.symm))
  go_ret
  refine ⟨rfl,?_,?_,?_,?_⟩
  · simp
  · simp
  · simp
  · exact ((Below.refl _ _).alloc (jE _) _).alloc (by simp) _
theorem obehind2 (x n c:Int) (a b:Addr) (w:World) (hn:0≤n∧n≤5) (ha:w.cell? a=some (.int .i64 n)) (hb:w.cell? b=some (.int .u8 c)) (hf:w.frozen? a=false) (hab:a≠b) :
    Calls Tryz.prog 103 #[.int .u8 x,.pointer (some a),.pointer (some b)] w fun e w'=>e=.returned (.bool (n==1 && c==61 && x==61))∧w'=w.setCell a (.int .i64 (n+1)):=by
  have hw:IntKind.i64.wrap (n+1)=n+1:=by rw [IntKind.wrap_i64];omega
  have ha':=World.cell?_setCell_same w a (.int .i64 (n+1)) ha
  have hb':=(jD w a b (.int .i64 (n+1)) hab).trans hb
  have e:(n+1==2)=(n==1):=by rw [Bool.eq_iff_iff];simp;omega
  cases h1:(n==1) <;> cases h2:(c==61) <;> cases h3:(x==61)
  all_goals
    rw [h1] at e
    go_enter Tryz.func103,Tryz.ntmps103
    go_wp2
    go_ret
    exact ⟨rfl,rfl⟩
def more (l:List UInt8) (c:Int):Nat:=if c==61 && l.headD 0==61 then 1 else 0
theorem head_at (s:ByteArray) (i:Nat) (h:i<s.size):((s.data.toList.drop i).headD 0==61)=((s[i].toNat:Int)==61):=by
  rw [drop_cons s i h,List.headD_cons,byte_is _ 61 61 rfl]
theorem head_end (s:ByteArray) (i:Nat) (h:s.size≤i):((s.data.toList.drop i).headD 0==61)=false:=by
  rw [List.drop_eq_nil_of_le (by rw [len_L];exact h)];rfl
set_option maxRecDepth 100000 in
theorem reach_sign (s:ByteArray) (i:Nat) (c:Int) (a b:Addr) (hs:s.size≤3000) (hi:i≤s.size) (w:World) (ha:w.cell? a=some (.int .i64 1)) (hb:w.cell? b=some (.int .u8 c)) (hf:w.frozen? a=false) (hab:a≠b) :
    Calls Tryz.prog 56 #[.string s,.int .i64 i,.func (.func 103) #[] #[.pointer (some a),.pointer (some b)]] w fun e w'=>e=.returned (.int .i64 ((i+more (s.data.toList.drop i) c:Nat):Int))∧Below a.block w w':=by
  have ha':=World.cell?_setCell_same w a (.int .i64 2) ha
  have hb':=(jD w a b (.int .i64 2) hab).trans hb
  have hf':(w.setCell a (.int .i64 2)).frozen? a=false:=by simp [hf]
  have B0:Below a.block w w:=Below.refl _ _
  have B1:Below a.block w (w.setCell a (.int .i64 2)):=B0.setCell (jE _) _
  have B2:Below a.block w ((w.setCell a (.int .i64 2)).setCell a (.int .i64 3)):=B1.setCell (jE _) _
  go_enter Tryz.func56,Tryz.ntmps56
  go_wp2
  go_loopw [1] (fun t wr=>(t=.int .i64 i∧wr=w)∨(t=.int .i64 ((i:Int)+1)∧i<s.size∧Hid (more (s.data.toList.drop i) c=1)∧wr=w.setCell a (.int .i64 2))) (fun t _=>i+1 - (intOf t).toNat)
  case atStart=>exact .inl ⟨rfl,rfl⟩
  case round =>
    rcases hrel with ⟨rfl,rfl⟩ | ⟨rfl,hlt,HM,rfl⟩
    · by_cases hq:i<s.size
      · have hh:=head_at s i hq
        cases hg:(c==61 && (s[i].toNat:Int)==61)
        · have HM:Hid (more (s.data.toList.drop i) c=0):=by show _=_;unfold more;rw [hh,hg];rfl
          clear hh
          go_wp2_with (go_at_call 103;refine (obehind2 _ 1 c a b _ (by omega) ha hb hf hab).mono ?_;rintro e w' ⟨rfl,hw⟩;obtain rfl:=hw.symm)
          go_ret
          exact ⟨by rw [HM.out];rfl,B1⟩
        · have HM:Hid (more (s.data.toList.drop i) c=1):=by show _=_;unfold more;rw [hh,hg];rfl
          clear hh
          go_wp2_with (go_at_call 103;refine (obehind2 _ 1 c a b _ (by omega) ha hb hf hab).mono ?_;rintro e w' ⟨rfl,hw⟩;obtain rfl:=hw.symm)
          go_roundw
          case rel=>exact .inr ⟨by go_num,hq,HM.out,by first | rfl | trivial⟩
          case measure=>simp [intOf] <;> omega
      · have HM:Hid (more (s.data.toList.drop i) c=0):=by show _=_;unfold more;rw [head_end s i (by omega)];simp
        go_wp2_with (go_at_call 103;refine (obehind2 _ 1 c a b _ (by omega) ha hb hf hab).mono ?_;rintro e w' ⟨rfl,hw⟩;obtain rfl:=hw.symm)
        go_ret
        exact ⟨by rw [HM.out];rfl,B0⟩
    · by_cases hq:i+1<s.size
      · go_wp2_with (go_at_call 103;refine (obehind2 _ 2 c a b _ (by omega) ha' hb' hf' hab).mono ?_;rintro e w' ⟨rfl,hw⟩;obtain rfl:=hw.symm)
        go_ret
        exact ⟨by rw [HM.out];rfl,B2⟩
      · go_wp2_with (go_at_call 103;refine (obehind2 _ 2 c a b _ (by omega) ha' hb' hf' hab).mono ?_;rintro e w' ⟨rfl,hw⟩;obtain rfl:=hw.symm)
        go_ret
        exact ⟨by rw [HM.out];rfl,B1⟩
theorem clone_any (x:ByteArray) (h:x.size≤3000) (w:World) :
    Calls Tryz.prog 59 #[.string x] w fun e w'=>e=.returned (.string x)∧Below w.heap.size w w':=by
  go_enter Tryz.func59,Tryz.ntmps59
  go_wp2_with (go_at_call 106;refine (Any.stringslite_Clone Tryz.laysClone x _ (by omega)).mono ?_;rintro e w' ⟨rfl,hb⟩)
  go_ret
  exact ⟨rfl,hb⟩
set_option maxHeartbeats 1000000 in
set_option maxRecDepth 100000 in
theorem index_lite (s:ByteArray) (c:Int) (w:World) :
    Calls Tryz.prog 138 #[.string s,.int .u8 c] w fun e w'=>e=.returned (.int .i64 (Lib.indexByte s.data.toList c.toNat.toUInt8))∧w'=w:=by
  go_enter Tryz.func138,Tryz.ntmps138
  go_wp2
  rw [run_callFunc_extern Tryz.func174 (by kernel_rfl) (by kernel_rfl) (by kernel_rfl) (e:=Extern.BytealgIndexByte.indexByte) (by kernel_rfl),Lib.run_indexByteString]
  simp only [Result.andThen]
  rw [Oper.upon_value]
  go_wp2
  go_ret
  exact ⟨rfl,rfl⟩
theorem index_any (s:ByteArray) (c:Int) (w:World) :
    Calls Tryz.prog 105 #[.string s,.int .u8 c] w fun e w'=>e=.returned (.int .i64 (Lib.indexByte s.data.toList c.toNat.toUInt8))∧w'=w:=by
  go_enter Tryz.func105,Tryz.ntmps105
  go_wp2_with (go_at_call 138;refine (index_lite _ _ _).mono ?_;rintro e w' ⟨rfl,rfl⟩)
  go_ret
  exact ⟨rfl,rfl⟩
theorem has_index (l:List UInt8) (c:UInt8):decide (Lib.indexByte l c ≥ 0)=l.contains c:=by
  induction l with
  | nil=>simp [Lib.indexByte]
  | cons b l ih =>
    have hg:=Lib.indexByte_ge l c
    rw [List.contains_cons,← ih,Lib.indexByte]
    by_cases h:b=c
    · subst h;simp
    · have h':¬ (c=b):=fun e=>h e.symm
      simp only [beq_iff_eq,h,if_false]
      by_cases h1:Lib.indexByte l c = -1
      · simp [h1,h']
      · rw [if_neg h1,Bool.eq_iff_iff]
        simp [h']
        omega
end Go.Proofs.YtfopddgjdaoidaaGreatDoor.lexs
