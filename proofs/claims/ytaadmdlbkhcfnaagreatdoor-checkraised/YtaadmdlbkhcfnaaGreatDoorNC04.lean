/- What the program's isName, name, longName, label, param and opOf answer: contracts. -/
import Derived.Shelf.Strconv.ErrVarParseInt
import Derived.WalkLawsBesides
import Derived.Test.YtaadmdlbkhcfnaaGreatDoorNC00
import Derived.BigQuiet
import Derived.Lib.Bytealg
import Derived.Deep.LoopGhost
import Derived.Test.YtaadmdlbkhcfnaaGreatDoorNCq
set_option maxHeartbeats 4000000
set_option linter.unusedVariables false
set_option maxRecDepth 100000
set_option linter.unusedSimpArgs false
namespace Go.Proofs
open Go.Shelf
def Tryz.laysPI_ren : Go.Shelf.Ren := ⟨fun | 174 => 79 | 247 => 98 | 245 => 99 | 287 => 113 | 279 => 114 | 280 => 115 | 281 => 116 | 282 => 117 | 321 => 130 | 322 => 131 | 316 => 59 | 171 => 133 | 205 => 132 | 243 => 151 | 246 => 112 | 283 => 126 | 284 => 127 | 285 => 128 | 286 => 129 | 129 => 147 | 317 => 146 | 318 => 148 | 319 => 149 | 320 => 150 | 337 => 160 | 338 => 161 | n => n, fun | 9 => 9 | 3 => 3 | 2 => 2 | 75 => 83 | 85 => 141 | 4 => 4 | 167 => 163 | 5 => 5 | 53 => 164 | 175 => 165 | 46 => 167 | 168 => 168 | 37 => 78 | 0 => 0 | 210 => 182 | 21 => 21 | 127 => 114 | 145 => 199 | 143 => 197 | 171 => 175 | 173 => 178 | 212 => 193 | 51 => 194 | 20 => 20 | 213 => 195 | 232 => 210 | 233 => 211 | 80 => 86 | n => n, fun | 15 => 2 | 16 => 3 | 17 => 4 | 18 => 6 | 19 => 7 | n => n⟩
theorem Tryz.laysPI : Go.Proofs.LaysC.n174 Tryz.prog Tryz.laysPI_ren := {
  mixed := by kernel_rfl
  f129 := Tryz.func147.trans (congrArg some (by kernel_rfl))
  f171 := Tryz.func133.trans (congrArg some (by kernel_rfl))
  f174 := Tryz.func79.trans (congrArg some (by kernel_rfl))
  f205 := Tryz.func132.trans (congrArg some (by kernel_rfl))
  f243 := Tryz.func151.trans (congrArg some (by kernel_rfl))
  f245 := Tryz.func99.trans (congrArg some (by kernel_rfl))
  f246 := Tryz.func112.trans (congrArg some (by kernel_rfl))
  f247 := Tryz.func98.trans (congrArg some (by kernel_rfl))
  f279 := Tryz.func114.trans (congrArg some (by kernel_rfl))
  f280 := Tryz.func115.trans (congrArg some (by kernel_rfl))
  f281 := Tryz.func116.trans (congrArg some (by kernel_rfl))
  f282 := Tryz.func117.trans (congrArg some (by kernel_rfl))
  f283 := Tryz.func126.trans (congrArg some (by kernel_rfl))
  f284 := Tryz.func127.trans (congrArg some (by kernel_rfl))
  f285 := Tryz.func128.trans (congrArg some (by kernel_rfl))
  f286 := Tryz.func129.trans (congrArg some (by kernel_rfl))
  f287 := Tryz.func113.trans (congrArg some (by kernel_rfl))
  f316 := Tryz.func59.trans (congrArg some (by kernel_rfl))
  f317 := Tryz.func146.trans (congrArg some (by kernel_rfl))
  f318 := Tryz.func148.trans (congrArg some (by kernel_rfl))
  f319 := Tryz.func149.trans (congrArg some (by kernel_rfl))
  f320 := Tryz.func150.trans (congrArg some (by kernel_rfl))
  f321 := Tryz.func130.trans (congrArg some (by kernel_rfl))
  f322 := Tryz.func131.trans (congrArg some (by kernel_rfl))
  f337 := Tryz.func160.trans (congrArg some (by kernel_rfl))
  f338 := Tryz.func161.trans (congrArg some (by kernel_rfl))
  t0 := Tryz.underlying0
  a0 := Tryz.isAgg0
  z0 := Tryz.sizeOf0
  v0 := Tryz.zeroValue0
  t2 := Tryz.underlying2
  a2 := Tryz.isAgg2
  z2 := Tryz.sizeOf2
  v2 := Tryz.zeroValue2
  t3 := Tryz.underlying3
  a3 := Tryz.isAgg3
  z3 := Tryz.sizeOf3
  v3 := Tryz.zeroValue3
  t4 := Tryz.underlying4
  a4 := Tryz.isAgg4
  z4 := Tryz.sizeOf4
  v4 := Tryz.zeroValue4
  t5 := Tryz.underlying5
  a5 := Tryz.isAgg5
  z5 := Tryz.sizeOf5
  v5 := Tryz.zeroValue5
  t9 := Tryz.underlying9
  a9 := Tryz.isAgg9
  z9 := Tryz.sizeOf9
  v9 := Tryz.zeroValue9
  t20 := Tryz.underlying20
  a20 := Tryz.isAgg20
  z20 := Tryz.sizeOf20
  v20 := Tryz.zeroValue20
  t21 := Tryz.underlying21
  a21 := Tryz.isAgg21
  z21 := Tryz.sizeOf21
  v21 := Tryz.zeroValue21
  t37 := Tryz.underlying78
  a37 := Tryz.isAgg78
  z37 := Tryz.sizeOf78
  v37 := Tryz.zeroValue78
  t46 := Tryz.underlying167
  a46 := Tryz.isAgg167
  z46 := Tryz.sizeOf167
  v46 := Tryz.zeroValue167
  t51 := Tryz.underlying194
  a51 := Tryz.isAgg194
  z51 := Tryz.sizeOf194
  v51 := Tryz.zeroValue194
  t53 := Tryz.underlying164
  a53 := Tryz.isAgg164
  z53 := Tryz.sizeOf164
  v53 := Tryz.zeroValue164
  t75 := Tryz.underlying83
  a75 := Tryz.isAgg83
  z75 := Tryz.sizeOf83
  v75 := Tryz.zeroValue83
  t85 := Tryz.underlying141
  a85 := Tryz.isAgg141
  z85 := Tryz.sizeOf141
  v85 := Tryz.zeroValue141
  t127 := Tryz.underlying114
  a127 := Tryz.isAgg114
  z127 := Tryz.sizeOf114
  v127 := Tryz.zeroValue114
  t143 := Tryz.underlying197
  a143 := Tryz.isAgg197
  z143 := Tryz.sizeOf197
  v143 := Tryz.zeroValue197
  t145 := Tryz.underlying199
  a145 := Tryz.isAgg199
  z145 := Tryz.sizeOf199
  v145 := Tryz.zeroValue199
  t167 := Tryz.underlying163
  a167 := Tryz.isAgg163
  z167 := Tryz.sizeOf163
  v167 := Tryz.zeroValue163
  t168 := Tryz.underlying168
  a168 := Tryz.isAgg168
  z168 := Tryz.sizeOf168
  v168 := Tryz.zeroValue168
  t171 := Tryz.underlying175
  a171 := Tryz.isAgg175
  z171 := Tryz.sizeOf175
  v171 := Tryz.zeroValue175
  t173 := Tryz.underlying178
  a173 := Tryz.isAgg178
  z173 := Tryz.sizeOf178
  v173 := Tryz.zeroValue178
  t175 := Tryz.underlying165
  a175 := Tryz.isAgg165
  z175 := Tryz.sizeOf165
  v175 := Tryz.zeroValue165
  t210 := Tryz.underlying182
  a210 := Tryz.isAgg182
  z210 := Tryz.sizeOf182
  v210 := Tryz.zeroValue182
  t212 := Tryz.underlying193
  a212 := Tryz.isAgg193
  z212 := Tryz.sizeOf193
  v212 := Tryz.zeroValue193
  t213 := Tryz.underlying195
  a213 := Tryz.isAgg195
  z213 := Tryz.sizeOf195
  t232 := Tryz.underlying210
  a232 := Tryz.isAgg210
  z232 := Tryz.sizeOf210
  v232 := Tryz.zeroValue210
  t233 := Tryz.underlying211
  a233 := Tryz.isAgg211
  z233 := Tryz.sizeOf211
  v233 := Tryz.zeroValue211
  g15 := by kernel_rfl
  g16 := by kernel_rfl
  g17 := by kernel_rfl
  g18 := by kernel_rfl
  g19 := by kernel_rfl
  t80 := Tryz.underlying86
  a80 := Tryz.isAgg86
  z80 := Tryz.sizeOf86
  v80 := Tryz.zeroValue86
  i0 := by kernel_rfl
  i2 := by kernel_rfl
  i3 := by kernel_rfl
  i4 := by kernel_rfl
  i5 := by kernel_rfl
  i9 := by kernel_rfl
  i20 := by kernel_rfl
  i21 := by kernel_rfl
  i37 := by kernel_rfl
  i46 := by kernel_rfl
  i51 := by kernel_rfl
  i53 := by kernel_rfl
  i75 := by kernel_rfl
  i80 := by kernel_rfl
  i85 := by kernel_rfl
  i127 := by kernel_rfl
  i143 := by kernel_rfl
  i145 := by kernel_rfl
  i167 := by kernel_rfl
  i168 := by kernel_rfl
  i171 := by kernel_rfl
  i173 := by kernel_rfl
  i175 := by kernel_rfl
  i210 := by kernel_rfl
  i212 := by kernel_rfl
  i232 := by kernel_rfl
  i233 := by kernel_rfl
  m15 := by kernel_rfl
  m16 := by kernel_rfl
  m17 := by kernel_rfl
  m18 := by kernel_rfl
  m19 := by kernel_rfl
  c0 := by kernel_rfl
  c2 := by kernel_rfl
  c3 := by kernel_rfl
  c4 := by kernel_rfl
  c5 := by kernel_rfl
  c9 := by kernel_rfl
  c20 := by kernel_rfl
  c21 := by kernel_rfl
  c37 := by kernel_rfl
  c46 := by kernel_rfl
  c51 := by kernel_rfl
  c53 := by kernel_rfl
  c75 := by kernel_rfl
  c80 := by kernel_rfl
  c85 := by kernel_rfl
  c127 := by kernel_rfl
  c143 := by kernel_rfl
  c145 := by kernel_rfl
  c167 := by kernel_rfl
  c168 := by kernel_rfl
  c171 := by kernel_rfl
  c173 := by kernel_rfl
  c175 := by kernel_rfl
  c210 := by kernel_rfl
  c212 := by kernel_rfl
  c213 := by kernel_rfl
  c232 := by kernel_rfl
  c233 := by kernel_rfl }
def Tryz.laysClone_ren : Go.Shelf.Ren := ⟨fun | 316 => 59 | n => n, fun | 9 => 9 | 3 => 3 | 4 => 4 | 37 => 78 | 0 => 0 | 127 => 114 | 5 => 5 | n => n, fun | n => n⟩
theorem Tryz.laysClone : Go.Proofs.LaysM.n316 Tryz.prog Tryz.laysClone_ren := {
  mixed := by kernel_rfl
  f316 := Tryz.func59.trans (congrArg some (by kernel_rfl))
  t0 := Tryz.underlying0
  a0 := Tryz.isAgg0
  z0 := Tryz.sizeOf0
  v0 := Tryz.zeroValue0
  t3 := Tryz.underlying3
  a3 := Tryz.isAgg3
  z3 := Tryz.sizeOf3
  v3 := Tryz.zeroValue3
  t4 := Tryz.underlying4
  a4 := Tryz.isAgg4
  z4 := Tryz.sizeOf4
  v4 := Tryz.zeroValue4
  t9 := Tryz.underlying9
  a9 := Tryz.isAgg9
  z9 := Tryz.sizeOf9
  v9 := Tryz.zeroValue9
  t37 := Tryz.underlying78
  a37 := Tryz.isAgg78
  z37 := Tryz.sizeOf78
  v37 := Tryz.zeroValue78
  t127 := Tryz.underlying114
  a127 := Tryz.isAgg114
  z127 := Tryz.sizeOf114
  v127 := Tryz.zeroValue114
  t5 := Tryz.underlying5
  a5 := Tryz.isAgg5
  z5 := Tryz.sizeOf5
  v5 := Tryz.zeroValue5
  i0 := by kernel_rfl
  i3 := by kernel_rfl
  i4 := by kernel_rfl
  i5 := by kernel_rfl
  i9 := by kernel_rfl
  i37 := by kernel_rfl
  i127 := by kernel_rfl }
end Go.Proofs
namespace Go.Proofs.YtaadmdlbkhcfnaaGreatDoor.lexs
open Go.RowKit
theorem zbt {x y:Bool} (h:x=y):Ending.returned (.bool x)=.returned (.bool y):=by rw [h]
theorem zam {x y:Int} (h:x=y):Ending.returned (.int .i64 x)=.returned (.int .i64 y):=by rw [h]
/-! ### numeral's ways -/
theorem zoo (s:ByteArray) (k:Nat) (h:k<s.size):s.data.toList[k]'(by simpa using h)=s[k]:=rfl
theorem ya9 (s:ByteArray):s.data.toList.length=s.size:=by simp
theorem zxs (s:ByteArray) (k:Nat) (h:k<s.size) (hd:yA (s[k].toNat:Int)=false):2=qU s.data.toList:=by
 have:s.data.toList.all qJ=false:=by
  rw [List.all_eq_false];exact ⟨s[k],by rw [<- zoo s k h];exact jH _,by unfold qJ;simp [hd]⟩
 unfold qU;rw [jv this]
theorem zoj (s:ByteArray) (h:0<s.size):s.data.toList.headD 0=s[0]:=by
 rw [<- zoo s 0 h];have:s.data.toList≠[]:=by intro e;have:=ya9 s;rw [e] at this;simp at this;omega
 obtain ⟨a,r,e⟩:=List.exists_cons_of_ne_nil this;simp only [e,List.headD_cons,jI]
theorem ztb (t:TypeId) (ht:Tryz.prog.underlying t=some .string) (s:ByteArray) (i n:Nat) (h:i+n<=s.size) (w:World) : (Instr.slice t (.string s) (some (.int .i64 (i:Int))) (some (.int .i64 ((i:Int)+(n:Int)))) none).run Tryz.prog w=.ok (.string (s.extract i (i+n))) w:=by
 have:=run_slice_string (P:=Tryz.prog) (w:=w) t s .i64 .i64 (i:Int) ((i:Int)+(n:Int)) ht (by omega) (by omega) (by omega);rw [this];simp only [Int.toNat_natCast]
 congr 4
theorem zx4:(Tryz.prog.info? 89).map (fun i=>(i.zero,i.size,i.bytes))=some (some (.agg #[.int .i64 0,.string ⟨#[]⟩,.int .i64 0]),3,32):=by kernel_rfl
theorem zg6 {w wr:World} {x y:Value} {T:TypeId} (h:Below (w.heap.size+1) (w.alloc (.cells #[x,y] T)) wr) : wr.cell? ⟨w.heap.size,0,none⟩=some x/\wr.cell? ⟨w.heap.size,1,none⟩=some y/\wr.frozen? ⟨w.heap.size,0,none⟩=false/\wr.frozen? ⟨w.heap.size,1,none⟩=false/\w.heap.size+1<=wr.heap.size:=by
 refine ⟨?_,?_,?_,?_,?_⟩;·rw [h.cell (p:=⟨w.heap.size,0,none⟩) (by simp)];simp
 ·rw [h.cell (p:=⟨w.heap.size,1,none⟩) (by simp)];simp
 ·rw [h.frozen (p:=⟨w.heap.size,0,none⟩) (by simp)];simp
 ·rw [h.frozen (p:=⟨w.heap.size,1,none⟩) (by simp)];simp
 ·have:=h.size;simpa using this
theorem zox (w:World) (a b c:Value) (t:TypeId) (g:Nat) (hg:g=w.heap.size):∀ j u,[a,b,c][j]?=some u->(w.alloc (.cells #[a,b,c] t)).cell? ((⟨g,0,none⟩:Addr).add j)=some u:=by
 subst hg;intro j u hj
 match j,hj with
 | 0,hj=>simp at hj;subst hj;simp [Addr.add]
 | 1,hj=>simp at hj;subst hj;simp [Addr.add]
 | 2,hj=>simp at hj;subst hj;simp [Addr.add]
theorem zrp (a b:Int) (x:ByteArray):∀ u∈[Value.int .i64 a,.string x,.int .i64 b],u.oneCell'=true:=by
 intro u hu;simp at hu;rcases hu with rfl | rfl | rfl<;>rfl
theorem zvn {B:Nat} {W0 W w1:World} {e:TypeId} {k n:Nat} {v:Value} {xs:List Value} (hbw:Below (B+1) W0 W) (hB:B+1<=W.heap.size) (hown:W.ownsRow (B+1) e k v n xs) (hg:W.grownBy w1 v.ownBlock):Below (B+1) W0 w1 :=
 hbw.grown hg hB fun j hj=>(hown.lt _ hj).1
theorem zex {w wr:World} {o:Obj} (h:Below (w.heap.size+1) (w.alloc o) wr):Below w.heap.size w wr :=
 (bal o).trans (h.mono (by omega))
theorem ownsRow_le {w:World} {base base' size n:Nat} {e:TypeId} {v:Value} {xs:List Value} (h:w.ownsRow base e size v n xs) (hb:base'<=base):w.ownsRow base' e size v n xs:=by
 obtain ⟨h1,h2⟩:=h;refine ⟨h1,?_⟩;rcases h2 with h2 | ⟨g,cap,cur,hv,hg,hh,r⟩
 ·exact Or.inl h2
 ·exact Or.inr ⟨g,cap,cur,hv,by omega,hh,r⟩
theorem zxq {w:World} {B:Nat} {e:TypeId} {v:Value} {acc:List Tok} {s:ByteArray} {p n:Nat} {k:Int} (h:w.ownsRow B e 3 v (acc.length+1) (cellsOf acc++[.int .i64 k,.string (s.extract p (p+n)),.int .i64 (p:Int)])) : w.ownsRow B e 3 v (acc++[(⟨k,(s.data.toList.drop p).take n,p⟩:Tok)]).length (cellsOf (acc++[⟨k,(s.data.toList.drop p).take n,p⟩])):=by
 rw [zo5,<- zqc,jb];exact h
theorem zx3 {s:ByteArray} {p n:Nat} (hp:p<s.size) (hd:yA (s[p].toNat:Int)=true) (hr:run qG (s.data.toList.drop p)=n):0<n:=by
 rw [<- hr,gG s p hp];exact zbz _ _ _ (zcv hd)
theorem zrg {B:Nat} {e:TypeId} {k:Nat} {v:Value} {n:Nat} {xs:List Value} {w w':World} (h:w.ownsRow B e k v n xs) (hb:Below w.heap.size w w'):w'.ownsRow B e k v n xs :=
 h.kept (row:=none) ⟨hb.os,hb.tape,hb.output,hb.size,fun j hj _=>hb.block j hj⟩ (by cases hv:v.ownBlock<;>simp)
theorem dQ (c:Int) (w:World) : Calls Tryz.prog 53 #[.int .u8 c] w fun e w'=>e=.returned (.bool (zD c))/\w'=w:=by
 go_enter Tryz.func53,Tryz.ntmps53;go_wp2
 all_goals
  go_ret;exact ⟨zbt (by rw [Bool.eq_iff_iff];simp [zD]<;>omega),rfl⟩
theorem dE (c:Int) (w:World) : Calls Tryz.prog 54 #[.int .u8 c] w fun e w'=>e=.returned (.bool (yA c))/\w'=w:=by
 go_enter Tryz.func54,Tryz.ntmps54;go_wp2
 all_goals
  go_ret;exact ⟨zbt (by rw [Bool.eq_iff_iff];simp [yA]<;>omega),rfl⟩
theorem zgy (c:Int) (w:World) : Calls Tryz.prog 51 #[.int .u8 c] w fun e w'=>e=.returned (.bool (c==32||c==10))/\w'=w:=by
 go_enter Tryz.func51,Tryz.ntmps51;go_wp2
 all_goals
  go_ret;exact ⟨zbt (by first | rfl | (rw [Bool.eq_iff_iff];simp<;>omega) | (simp_all)),rfl⟩
theorem zgp (c:Int) (w:World) : Calls Tryz.prog 52 #[.int .u8 c] w fun e w'=>e=.returned (.bool (c != 10))/\w'=w:=by
 go_enter Tryz.func52,Tryz.ntmps52;go_wp2
 all_goals
  go_ret;exact ⟨zbt (by first | rfl | (rw [Bool.eq_iff_iff];simp<;>omega) | (simp_all)),rfl⟩
theorem ze9 (c:Int) (w:World) : Calls Tryz.prog 55 #[.int .u8 c] w fun e w'=>e=.returned (.bool (gF c))/\w'=w:=by
 cases h1:zD c<;>cases h2:yA c
 all_goals
  go_enter Tryz.func55,Tryz.ntmps55;go_wp2_with (first | (go_at_call 53;refine (dQ _ _).mono ?_;rintro e w' ⟨rfl,rfl⟩) | (go_at_call 54;refine (dE _ _).mono ?_;rintro e w' ⟨rfl,rfl⟩));go_ret;exact ⟨zbt (by unfold gF;rw [h1,h2];simp),rfl⟩
structure Stops (P:UInt8->Bool) (s:ByteArray) (i j:Nat):Prop where
 le:i<=j
 top:j<=s.size
 all:∀ k (h:k<s.size),i<=k->k<j->P s[k]=true
 stop:j=s.size\/∃ h:j<s.size,P s[j]=false
theorem Stops.run {P:UInt8->Bool} {s:ByteArray} {i j:Nat} (h:Stops P s i j):run P (s.data.toList.drop i)=j - i:=by
 have e:i+(j - i)=j:=by have:=h.le;omega
 exact zzt P s i (j - i) (by have:=h.top;omega) (fun k hk h1 h2=>h.all k hk h1 (by omega)) (by simp only [e];exact h.stop)
set_option maxRecDepth 100000 in
theorem zpe (s:ByteArray) (i:Nat) (hs:s.size<=3000) (hi:i<=s.size) (w:World) : Calls Tryz.prog 33 #[.string s,.int .i64 i,.func (.func 54) #[] #[]] w fun e w'=>∃ j:Nat,e=.returned (.int .i64 j)/\Stops qJ s i j/\w'=w:=by
 go_enter Tryz.func33,Tryz.ntmps33;go_wp2;go_loop [1] (fun t=>∃ j:Nat,i<=j/\j<=s.size/\t=.int .i64 j/\Hid (∀ k (h:k<s.size),i<=k->k<j->qJ s[k]=true)) (fun t=>s.size - (intOf t).toNat)
 case atStart=>exact ⟨i,by omega,hi,rfl,fun k _ h1 h2=>by omega⟩
 case round =>
  obtain ⟨j,hij,hjs,rfl,HN⟩:=hrel;by_cases hq:j<s.size
  ·cases hb:yA (s[j].toNat:Int);·go_wp2_with (go_at_call 54;refine (dE _ _).mono ?_;rintro e w' ⟨rfl,hw⟩;obtain rfl:=hw.symm);go_ret;exact ⟨j,rfl,⟨hij,hjs,HN.out,.inr ⟨hq,by exact hb⟩⟩,rfl⟩
   ·go_wp2_with (go_at_call 54;refine (dE _ _).mono ?_;rintro e w' ⟨rfl,hw⟩;obtain rfl:=hw.symm)
    go_round
    case rel=>exact ⟨j+1,by omega,by omega,by go_num,fun k h h1 h2=>by
     rcases jL k j with h3 | h3
     ·exact HN.out k h h1 h3
     ·have:k=j:=by omega
      subst this
      exact hb⟩
    case measure=>simp [intOf];omega
  ·go_wp2_with (go_at_call 54;refine (dE _ _).mono ?_;rintro e w' ⟨rfl,hw⟩;obtain rfl:=hw.symm);go_ret;exact ⟨j,rfl,⟨hij,hjs,HN.out,.inl (by omega)⟩,rfl⟩
set_option maxRecDepth 100000 in
theorem zo9 (s:ByteArray) (i:Nat) (hs:s.size<=3000) (hi:i<=s.size) (w:World) : Calls Tryz.prog 33 #[.string s,.int .i64 i,.func (.func 55) #[] #[]] w fun e w'=>∃ j:Nat,e=.returned (.int .i64 j)/\Stops qG s i j/\w'=w:=by
 go_enter Tryz.func33,Tryz.ntmps33;go_wp2;go_loop [1] (fun t=>∃ j:Nat,i<=j/\j<=s.size/\t=.int .i64 j/\Hid (∀ k (h:k<s.size),i<=k->k<j->qG s[k]=true)) (fun t=>s.size - (intOf t).toNat)
 case atStart=>exact ⟨i,by omega,hi,rfl,fun k _ h1 h2=>by omega⟩
 case round =>
  obtain ⟨j,hij,hjs,rfl,HN⟩:=hrel;by_cases hq:j<s.size
  ·cases hb:gF (s[j].toNat:Int);·go_wp2_with (go_at_call 55;refine (ze9 _ _).mono ?_;rintro e w' ⟨rfl,hw⟩;obtain rfl:=hw.symm);go_ret;exact ⟨j,rfl,⟨hij,hjs,HN.out,.inr ⟨hq,by exact hb⟩⟩,rfl⟩
   ·go_wp2_with (go_at_call 55;refine (ze9 _ _).mono ?_;rintro e w' ⟨rfl,hw⟩;obtain rfl:=hw.symm)
    go_round
    case rel=>exact ⟨j+1,by omega,by omega,by go_num,fun k h h1 h2=>by
     rcases jL k j with h3 | h3
     ·exact HN.out k h h1 h3
     ·have:k=j:=by omega
      subst this
      exact hb⟩
    case measure=>simp [intOf];omega
  ·go_wp2_with (go_at_call 55;refine (ze9 _ _).mono ?_;rintro e w' ⟨rfl,hw⟩;obtain rfl:=hw.symm);go_ret;exact ⟨j,rfl,⟨hij,hjs,HN.out,.inl (by omega)⟩,rfl⟩
theorem zc9 (b:UInt8):((b.toNat:Int)==32||(b.toNat:Int)==10)=(b==32||b==10):=by rw [uH _ 32 32 rfl,uH _ 10 10 rfl]
theorem zkd (b:UInt8):((b.toNat:Int) != 10)=(b != 10):=by rw [bne,uH _ 10 10 rfl];rfl
set_option maxRecDepth 100000 in
theorem zpk (s:ByteArray) (i:Nat) (hs:s.size<=3000) (hi:i<=s.size) (w:World) : Calls Tryz.prog 33 #[.string s,.int .i64 i,.func (.func 51) #[] #[]] w fun e w'=>∃ j:Nat,e=.returned (.int .i64 j)/\Stops (fun b=>b==32||b==10) s i j/\w'=w:=by
 go_enter Tryz.func33,Tryz.ntmps33;go_wp2;go_loop [1] (fun t=>∃ j:Nat,i<=j/\j<=s.size/\t=.int .i64 j/\Hid (∀ k (h:k<s.size),i<=k->k<j->(fun b=>b==32||b==10) s[k]=true)) (fun t=>s.size - (intOf t).toNat)
 case atStart=>exact ⟨i,by omega,hi,rfl,fun k _ h1 h2=>by omega⟩
 case round =>
  obtain ⟨j,hij,hjs,rfl,HN⟩:=hrel;by_cases hq:j<s.size
  ·cases hb:((s[j].toNat:Int)==32||(s[j].toNat:Int)==10);·go_wp2_with (go_at_call 51;refine (zgy _ _).mono ?_;rintro e w' ⟨rfl,hw⟩;obtain rfl:=hw.symm);go_ret;exact ⟨j,rfl,⟨hij,hjs,HN.out,.inr ⟨hq,by rw [zc9] at hb;exact hb⟩⟩,rfl⟩
   ·go_wp2_with (go_at_call 51;refine (zgy _ _).mono ?_;rintro e w' ⟨rfl,hw⟩;obtain rfl:=hw.symm)
    go_round
    case rel=>exact ⟨j+1,by omega,by omega,by go_num,fun k h h1 h2=>by
     rcases jL k j with h3 | h3
     ·exact HN.out k h h1 h3
     ·have:k=j:=by omega
      subst this
      rw [zc9] at hb;exact hb⟩
    case measure=>simp [intOf];omega
  ·go_wp2_with (go_at_call 51;refine (zgy _ _).mono ?_;rintro e w' ⟨rfl,hw⟩;obtain rfl:=hw.symm);go_ret;exact ⟨j,rfl,⟨hij,hjs,HN.out,.inl (by omega)⟩,rfl⟩
set_option maxRecDepth 100000 in
theorem zpo (s:ByteArray) (i:Nat) (hs:s.size<=3000) (hi:i<=s.size) (w:World) : Calls Tryz.prog 33 #[.string s,.int .i64 i,.func (.func 52) #[] #[]] w fun e w'=>∃ j:Nat,e=.returned (.int .i64 j)/\Stops (fun b=>b != 10) s i j/\w'=w:=by
 go_enter Tryz.func33,Tryz.ntmps33;go_wp2;go_loop [1] (fun t=>∃ j:Nat,i<=j/\j<=s.size/\t=.int .i64 j/\Hid (∀ k (h:k<s.size),i<=k->k<j->(fun b=>b != 10) s[k]=true)) (fun t=>s.size - (intOf t).toNat)
 case atStart=>exact ⟨i,by omega,hi,rfl,fun k _ h1 h2=>by omega⟩
 case round =>
  obtain ⟨j,hij,hjs,rfl,HN⟩:=hrel;by_cases hq:j<s.size
  ·cases hb:((s[j].toNat:Int) != 10);·go_wp2_with (go_at_call 52;refine (zgp _ _).mono ?_;rintro e w' ⟨rfl,hw⟩;obtain rfl:=hw.symm);go_ret;exact ⟨j,rfl,⟨hij,hjs,HN.out,.inr ⟨hq,by rw [zkd] at hb;exact hb⟩⟩,rfl⟩
   ·go_wp2_with (go_at_call 52;refine (zgp _ _).mono ?_;rintro e w' ⟨rfl,hw⟩;obtain rfl:=hw.symm)
    go_round
    case rel=>exact ⟨j+1,by omega,by omega,by go_num,fun k h h1 h2=>by
     rcases jL k j with h3 | h3
     ·exact HN.out k h h1 h3
     ·have:k=j:=by omega
      subst this
      rw [zkd] at hb;exact hb⟩
    case measure=>simp [intOf];omega
  ·go_wp2_with (go_at_call 52;refine (zgp _ _).mono ?_;rintro e w' ⟨rfl,hw⟩;obtain rfl:=hw.symm);go_ret;exact ⟨j,rfl,⟨hij,hjs,HN.out,.inl (by omega)⟩,rfl⟩
/-! ### what is passed by -/
structure Goes (s:ByteArray) (p j:Nat):Prop where
 le:p<=j
 top:j<=s.size
 on:∀ (f:Nat) (acc:List Tok) (R:Res),s.size<=p+f->zC f (s.data.toList.drop p) p acc=R->∃ f',s.size<=j+f'/\zC f' (s.data.toList.drop j) j acc=R
theorem Goes.rfl' {s:ByteArray} {p:Nat} (h:p<=s.size):Goes s p p:=⟨jE _,h,fun f acc R h1 h2=>⟨f,h1,h2⟩⟩
theorem Goes.trans {s:ByteArray} {p j k:Nat} (h1:Goes s p j) (h2:Goes s j k):Goes s p k :=
 ⟨jp h1.le h2.le,h2.top,fun f acc R a b=>by
  obtain ⟨f',a',b'⟩:=h1.on f acc R a b
  exact h2.on f' acc R a' b'⟩
theorem zjn {s:ByteArray} {p n:Nat} (hp:p<s.size) (h:qA (s.data.toList.drop p)=.skip n):Goes s p (p+n)/\0<n:=by
 have h0:=zlt hp (f:=0) (acc:=[]) h rfl;refine ⟨⟨by omega,h0.2.2,fun f acc R a b=>?_⟩,h0.2.1⟩;obtain ⟨f,rfl⟩:∃ f',f=f'+1:=⟨f - 1,by omega⟩
 have hg:=zlt hp h b;exact ⟨f,by omega,hg.1⟩
theorem zpm {s:ByteArray} {p j:Nat} (h:Stops (fun b=>b==32||b==10) s p j):Goes s p j:=by
 obtain ⟨n,rfl⟩:∃ n,j=p+n:=⟨j - p,by have:=h.le;omega⟩
 have H:∀ n,p+n<=s.size->(∀ k (h:k<s.size),p<=k->k<p+n->(s[k]==32||s[k]==10)=true)->Goes s p (p+n):=by
  intro n
  induction n with
  | zero=>intro h1 _;exact Goes.rfl' h1
  | succ n ih =>
   intro h1 h2;have g:=ih (by omega) (fun k hk a b=>h2 k hk a (by omega));have hb:=h2 (p+n) (by omega) (by omega) (by omega);rw [<- zc9,Bool.or_eq_true] at hb;exact g.trans (zjn (by omega) (zu2 (by omega) hb)).1
 exact H n h.top h.all
theorem zri {s:ByteArray} {p j:Nat} (hp:p<s.size) (h3:((s[p].toNat:Int)==35)=true) (h:Stops (fun b=>b != 10) s p j):Goes s p j/\p<j:=by
 have hv:(s[p].toNat:Int)=35:=by simpa using h3
 have hst:=zvm hp (by rw [hv];rfl) (by rw [hv];rfl) h3 h.run;have g:=zjn hp hst;have hl:=h.le;have e:p+(j - p)=j:=by omega
 rw [e] at g;exact ⟨g.1,by omega⟩
set_option maxRecDepth 100000 in
theorem zli (s:ByteArray) (i:Nat) (hs:s.size<=3000) (hi:i<=s.size) (w:World) : Calls Tryz.prog 32 #[.string s,.int .i64 i] w fun e w'=>∃ j:Nat,e=.returned (.int .i64 j)/\Goes s i j/\(∀ h:j<s.size,((s[j].toNat:Int)==32)=false/\((s[j].toNat:Int)==10)=false/\((s[j].toNat:Int)==35)=false)/\w'=w:=by
 go_enter Tryz.func32,Tryz.ntmps32;go_wp2;go_loop [1] (fun t=>∃ j:Nat,j<=s.size/\t=.int .i64 j/\Hid (Goes s i j)) (fun t=>s.size - (intOf t).toNat)
 case atStart=>exact ⟨i,hi,rfl,Goes.rfl' hi⟩
 case round =>
  obtain ⟨j,hjs,rfl,HG⟩:=hrel;go_wp2_with (fail);refine (zpk s j hs hjs _).mono ?_;rintro e w' ⟨k,rfl,hk,hw⟩;obtain rfl:=hw.symm;have HK:Hid (Goes s i k):=HG.out.trans (zpm hk);have hkl:=hk.le;have hkt:=hk.top;have HS:=hk.stop;by_cases hq:k<s.size
  ·have HB:Hid (((s[k].toNat:Int)==32)=false/\((s[k].toNat:Int)==10)=false):=by
    rcases HS with h | ⟨_,h⟩
    ·omega
    ·rw [<- zc9,Bool.or_eq_false_iff] at h;exact h
   clear HS hk;cases h35:((s[k].toNat:Int) != 35)
   case true =>
    go_wp2;go_ret;exact ⟨k,rfl,HK.out,fun _=>⟨HB.out.1,HB.out.2,by simpa [bne] using h35⟩,rfl⟩
   case false =>
    go_wp2_with (fail);refine (zpo s k hs hkt _).mono ?_;rintro e w' ⟨m,rfl,hm,hw⟩;obtain rfl:=hw.symm;have hg:=zri hq (by simpa [bne] using h35) hm;have HM:Hid (Goes s i m):=HK.out.trans hg.1;have hlt:=hg.2;have hmt:=hm.top;clear hm hg;go_wp2
    go_round
    case rel=>exact ⟨m,hmt,rfl,HM.out⟩
    case measure=>simp [intOf];omega
  ·have hke:k=s.size:=by omega
   subst hke;clear HS hk;go_wp2;go_ret;exact ⟨s.size,rfl,HK.out,fun h=>absurd h hq,rfl⟩
theorem zqq (c:Int) (h:(zD c||yA c)=true) (w:World) : Calls Tryz.prog 34 #[.int .u8 c] w fun e w'=>e=.returned (.func (.func 55) #[] #[])/\Below w.heap.size w w':=by
 cases h1:zD c<;>cases h2:yA c
 case false.false=>simp [h1,h2] at h
 all_goals
  go_enter Tryz.func34,Tryz.ntmps34;go_wp2_with (first | (go_at_call 53;refine (dQ _ _).mono ?_;rintro e w' ⟨rfl,hw⟩;obtain rfl:=hw.symm) | (go_at_call 54;refine (dE _ _).mono ?_;rintro e w' ⟨rfl,hw⟩;obtain rfl:=hw.symm));go_ret;exact ⟨rfl,bal _⟩
def zaz (w w':World) (c:Int):Prop:=w'.cell? ⟨w.heap.size+1,0,none⟩=some (.int .i64 1)/\w'.cell? ⟨w.heap.size,0,none⟩=some (.int .u8 c)/\w'.frozen? ⟨w.heap.size+1,0,none⟩=false/\Below w.heap.size w w'
theorem zpn (c:Int) (h1:zD c=false) (h2:yA c=false) (w:World) : Calls Tryz.prog 34 #[.int .u8 c] w fun e w'=>e=.returned (.func (.func 56) #[] #[.pointer (some ⟨w.heap.size+1,0,none⟩),.pointer (some ⟨w.heap.size,0,none⟩)])/\zaz w w' c:=by
 have hmf:∀ (fn:Fn) (first cap:Array Value) (w:World),(Instr.makeFunc fn first cap).run Tryz.prog w=.ok (.func fn first cap) w:=fun _ _ _ _=>rfl
 go_enter Tryz.func34,Tryz.ntmps34;go_wp2_with (first | (go_at_call 53;refine (dQ _ _).mono ?_;rintro e w' ⟨rfl,hw⟩;obtain rfl:=hw.symm) | (go_at_call 54;refine (dE _ _).mono ?_;rintro e w' ⟨rfl,hw⟩;obtain rfl:=hw.symm));go_ret;refine ⟨rfl,?_,?_,?_,?_⟩;·simp
 ·simp
 ·simp
 ·exact (bal _).alloc (by simp) _
theorem zbr (x n c:Int) (a b:Addr) (w:World) (hn:0<=n/\n<=5) (ha:w.cell? a=some (.int .i64 n)) (hb:w.cell? b=some (.int .u8 c)) (hf:w.frozen? a=false) (hab:a≠b) : Calls Tryz.prog 56 #[.int .u8 x,.pointer (some a),.pointer (some b)] w fun e w'=>e=.returned (.bool (n==1&&c==61&&x==61))/\w'=w.setCell a (.int .i64 (n+1)):=by
 have hw:IntKind.i64.wrap (n+1)=n+1:=by rw [IntKind.wrap_i64];omega
 have ha':=jS w a (.int .i64 (n+1)) ha;have hb':=(jD w a b (.int .i64 (n+1)) hab).trans hb;have e:(n+1==2)=(n==1):=by rw [Bool.eq_iff_iff];simp;omega
 cases h1:(n==1)<;>cases h2:(c==61)<;>cases h3:(x==61)
 all_goals
  rw [h1] at e;go_enter Tryz.func56,Tryz.ntmps56;go_wp2;go_ret;exact ⟨rfl,rfl⟩
def more (l:List UInt8) (c:Int):Nat:=if c==61&&l.headD 0==61 then 1 else 0
theorem zw7 (s:ByteArray) (i:Nat) (h:i<s.size):((s.data.toList.drop i).headD 0==61)=((s[i].toNat:Int)==61):=by
 rw [gG s i h,List.headD_cons,uH _ 61 61 rfl]
theorem zk5 (s:ByteArray) (i:Nat) (h:s.size<=i):((s.data.toList.drop i).headD 0==61)=false:=by
 rw [List.drop_eq_nil_of_le (by rw [len_L];exact h)];rfl
set_option maxRecDepth 100000 in
theorem zp7 (s:ByteArray) (i:Nat) (c:Int) (a b:Addr) (hs:s.size<=3000) (hi:i<=s.size) (w:World) (ha:w.cell? a=some (.int .i64 1)) (hb:w.cell? b=some (.int .u8 c)) (hf:w.frozen? a=false) (hab:a≠b) : Calls Tryz.prog 33 #[.string s,.int .i64 i,.func (.func 56) #[] #[.pointer (some a),.pointer (some b)]] w fun e w'=>e=.returned (.int .i64 ((i+more (s.data.toList.drop i) c:Nat):Int))/\Below a.block w w':=by
 have ha':=jS w a (.int .i64 2) ha;have hb':=(jD w a b (.int .i64 2) hab).trans hb;have hf':(w.setCell a (.int .i64 2)).frozen? a=false:=by simp [hf]
 have B0:Below a.block w w:=Below.refl _ _;have B1:Below a.block w (w.setCell a (.int .i64 2)):=B0.setCell (jE _) _;have B2:Below a.block w ((w.setCell a (.int .i64 2)).setCell a (.int .i64 3)):=B1.setCell (jE _) _;go_enter Tryz.func33,Tryz.ntmps33;go_wp2;go_loopw [1] (fun t wr=>(t=.int .i64 i/\wr=w)\/(t=.int .i64 ((i:Int)+1)/\i<s.size/\Hid (more (s.data.toList.drop i) c=1)/\wr=w.setCell a (.int .i64 2))) (fun t _=>i+1 - (intOf t).toNat)
 case atStart=>exact .inl ⟨rfl,rfl⟩
 case round =>
  rcases hrel with ⟨rfl,rfl⟩|⟨rfl,hlt,HM,rfl⟩
  ·by_cases hq:i<s.size
   ·have hh:=zw7 s i hq;cases hg:(c==61&&(s[i].toNat:Int)==61)
    ·have HM:Hid (more (s.data.toList.drop i) c=0):=by show _=_;unfold more;rw [hh,hg];rfl
     clear hh;go_wp2_with (go_at_call 56;refine (zbr _ 1 c a b _ (by omega) ha hb hf hab).mono ?_;rintro e w' ⟨rfl,hw⟩;obtain rfl:=hw.symm);go_ret;exact ⟨by rw [HM.out];rfl,B1⟩
    ·have HM:Hid (more (s.data.toList.drop i) c=1):=by show _=_;unfold more;rw [hh,hg];rfl
     clear hh;go_wp2_with (go_at_call 56;refine (zbr _ 1 c a b _ (by omega) ha hb hf hab).mono ?_;rintro e w' ⟨rfl,hw⟩;obtain rfl:=hw.symm);go_roundw
     case rel=>exact .inr ⟨by go_num,hq,HM.out,by first | rfl | trivial⟩
     case measure=>simp [intOf]<;>omega
   ·have HM:Hid (more (s.data.toList.drop i) c=0):=by show _=_;unfold more;rw [zk5 s i (by omega)];simp
    go_wp2_with (go_at_call 56;refine (zbr _ 1 c a b _ (by omega) ha hb hf hab).mono ?_;rintro e w' ⟨rfl,hw⟩;obtain rfl:=hw.symm);go_ret;exact ⟨by rw [HM.out];rfl,B0⟩
  ·by_cases hq:i+1<s.size;·go_wp2_with (go_at_call 56;refine (zbr _ 2 c a b _ (by omega) ha' hb' hf' hab).mono ?_;rintro e w' ⟨rfl,hw⟩;obtain rfl:=hw.symm);go_ret;exact ⟨by rw [HM.out];rfl,B2⟩
   ·go_wp2_with (go_at_call 56;refine (zbr _ 2 c a b _ (by omega) ha' hb' hf' hab).mono ?_;rintro e w' ⟨rfl,hw⟩;obtain rfl:=hw.symm);go_ret;exact ⟨by rw [HM.out];rfl,B1⟩
theorem zry (x:ByteArray) (h:x.size<=3000) (w:World) : Calls Tryz.prog 36 #[.string x] w fun e w'=>e=.returned (.string x)/\Below w.heap.size w w':=by
 go_enter Tryz.func36,Tryz.ntmps36;go_wp2_with (go_at_call 59;refine (Any.stringslite_Clone Tryz.laysClone x _ (by omega)).mono ?_;rintro e w' ⟨rfl,hb⟩);go_ret;exact ⟨rfl,hb⟩
set_option maxRecDepth 100000 in
theorem zqr (s:ByteArray) (c:Int) (w:World) : Calls Tryz.prog 80 #[.string s,.int .u8 c] w fun e w'=>e=.returned (.int .i64 (Lib.indexByte s.data.toList c.toNat.toUInt8))/\w'=w:=by
 go_enter Tryz.func80,Tryz.ntmps80;go_wp2;rw [run_callFunc_extern Tryz.func100 (by kernel_rfl) (by kernel_rfl) (by kernel_rfl) (e:=Extern.BytealgIndexByte.indexByte) (by kernel_rfl),Lib.run_indexByteString];simp only [Result.andThen];rw [Oper.upon_value];go_wp2;go_ret;exact ⟨rfl,rfl⟩
theorem zjc (s:ByteArray) (c:Int) (w:World) : Calls Tryz.prog 58 #[.string s,.int .u8 c] w fun e w'=>e=.returned (.int .i64 (Lib.indexByte s.data.toList c.toNat.toUInt8))/\w'=w:=by
 go_enter Tryz.func58,Tryz.ntmps58;go_wp2_with (go_at_call 80;refine (zqr _ _ _).mono ?_;rintro e w' ⟨rfl,rfl⟩);go_ret;exact ⟨rfl,rfl⟩
theorem zsg (l:List UInt8) (c:UInt8):decide (Lib.indexByte l c ≥ 0)=l.contains c:=by
 induction l with
 | nil=>simp [Lib.indexByte]
 | cons b l ih =>
  have hg:=Lib.indexByte_ge l c;rw [List.contains_cons,<- ih,Lib.indexByte];by_cases h:b=c;·subst h;simp
  ·have h':¬ (c=b):=fun e=>h e.symm
   simp only [beq_iff_eq,h,if_false];by_cases h1:Lib.indexByte l c = -1;·simp [h1,h']
   ·rw [ju h1,Bool.eq_iff_iff];simp [h'];omega
def qP (w:World):Prop:=∃ ev,w.cell? ⟨Tryz.laysPI_ren.g 16,0,none⟩=some ev/\(ev=.nilIface\/∃ te pe,ev=.iface te pe)
theorem hasErr_below {w w':World} (h:qP w) (hb:Below w.heap.size w w'):qP w':=by
 obtain ⟨ev,h1,h2⟩:=h
 have hlt:Tryz.laysPI_ren.g 16<w.heap.size:=by
  rcases jL (Tryz.laysPI_ren.g 16) w.heap.size with h | h
  ·exact h
  ·exfalso;simp only [World.cell?] at h1;rw [Array.getElem?_eq_none h] at h1;simp at h1
 exact ⟨ev,by rw [hb.cell (p:=⟨Tryz.laysPI_ren.g 16,0,none⟩) hlt];exact h1,h2⟩
theorem parse_ok (x:ByteArray) (hs:x.size<=3000) (h:x.data.toList.all qJ=true) (h0:x.data.toList≠[]) (hv:val x.data.toList<9223372036854775808) (w:World) : Calls Tryz.prog 79 #[.string x,.int .i64 10,.int .i64 64] w fun e w'=>e=.returned (.tuple #[.int .i64 (val x.data.toList:Int),.nilIface])/\Below w.heap.size w w':=by
 refine (Any.strconv_ParseInt_10_at64_ok Tryz.laysPI x (by omega) _ (by rw [zjr _ h h0,jv hv]) w).mono ?_;rintro e w' ⟨rfl,rfl|⟨t,rfl⟩⟩;·exact ⟨rfl,Below.refl _ _⟩
 ·exact ⟨rfl,Lib.bytesWorld_below _ _ _⟩
theorem zhu (x:ByteArray) (hs:x.size<=3000) (h:x.data.toList.all qJ=true) (h0:x.data.toList≠[]) (hv:¬ val x.data.toList<9223372036854775808) (w:World) (he:qP w) : Calls Tryz.prog 79 #[.string x,.int .i64 10,.int .i64 64] w fun e w'=>∃ i T N,e=.returned (.tuple #[.int .i64 i,.iface T (.pointer (some ⟨N,0,none⟩))])/\Below w.heap.size w w':=by
 obtain ⟨ev,h1,h2⟩:=he;refine (Any.strconv_ParseInt_10_at64_range Tryz.laysPI x (by omega) (by rw [zjr _ h h0,ju hv]) ev w h1 h2).mono ?_;rintro e w' ⟨N,rfl,_,_,hb⟩;exact ⟨_,_,N,rfl,hb⟩
theorem zrc {x:ByteArray} {j:Nat} (h:Stops qJ x 0 j) (hj:j=x.size):x.data.toList.all qJ=true:=by
 rw [List.all_eq_true];intro c hc;obtain ⟨k,hk,rfl⟩:=List.mem_iff_getElem.1 hc;rw [len_L] at hk;exact h.all k hk (by omega) (by omega)
theorem zb9 {x:ByteArray} (h:0<x.size):x.data.toList≠[]:=by intro e;have:=len_L x;rw [e] at this;simp at this;omega
set_option maxRecDepth 100000 in
theorem zou (x:ByteArray) (hs:x.size<=3000) (h0:0<x.size) (w:World) (he:qP w) : Calls Tryz.prog 57 #[.string x] w fun e w'=>e=.returned (.int .i64 (qU x.data.toList))/\Below w.heap.size w w':=by
 go_enter Tryz.func57,Tryz.ntmps57;go_wp2_with (fail);refine (zpe x 0 hs (by omega) _).mono ?_;rintro e w' ⟨j,rfl,hj,hw⟩;obtain rfl:=hw.symm;have hjt:=hj.top;by_cases hlt:j<x.size
 ·have HE:Hid (2=qU x.data.toList):=by
   rcases hj.stop with h | ⟨h,hd⟩
   ·omega
   ·exact zxs x j h hd
  clear hj;go_wp2;go_ret;exact ⟨zam HE.out,Below.refl _ _⟩
 ·have hje:j=x.size:=by omega
  have ha:=zrc hj hje;clear hj;subst hje;have hh:=zoj x h0;cases hz:(decide (1<x.data.toList.length)&&x.data.toList.headD 0==48)
  ·have HN:=numE_val _ ha (zb9 h0) hz;rw [len_L,hh,<- uH _ 48 48 rfl] at hz;by_cases hv:val x.data.toList<9223372036854775808
   ·rw [jv hv] at HN;have HN':Hid (qU x.data.toList=0):=HN;have HV:Hid (val x.data.toList<9223372036854775808):=hv;have HA:Hid (x.data.toList.all qJ=true):=ha;clear HN hv ha;by_cases h1:1<x.size
    ·have hb:((x[0].toNat:Int)==48)=false:=by simpa [h1] using hz
     clear hz hh;go_wp2_with (go_at_call 79;refine (parse_ok x hs HA.out (zb9 h0) HV.out _).mono ?_;rintro e w1 ⟨rfl,hb1⟩);go_ret;exact ⟨zam HN'.out.symm,hb1⟩
    ·clear hz hh;go_wp2_with (go_at_call 79;refine (parse_ok x hs HA.out (zb9 h0) HV.out _).mono ?_;rintro e w1 ⟨rfl,hb1⟩);go_ret;exact ⟨zam HN'.out.symm,hb1⟩
   ·rw [ju hv] at HN;have HN':Hid (qU x.data.toList=6):=HN;have HV:Hid (¬ val x.data.toList<9223372036854775808):=hv;have HA:Hid (x.data.toList.all qJ=true):=ha;clear HN hv ha;by_cases h1:1<x.size
    ·have hb:((x[0].toNat:Int)==48)=false:=by simpa [h1] using hz
     clear hz hh;go_wp2_with (go_at_call 79;refine (zhu x hs HA.out (zb9 h0) HV.out _ he).mono ?_;rintro e w1 ⟨i1,T1,N1,rfl,hb1⟩);go_ret;exact ⟨zam HN'.out.symm,hb1⟩
    ·clear hz hh;go_wp2_with (go_at_call 79;refine (zhu x hs HA.out (zb9 h0) HV.out _ he).mono ?_;rintro e w1 ⟨i1,T1,N1,rfl,hb1⟩);go_ret;exact ⟨zam HN'.out.symm,hb1⟩
  ·have HN:Hid (qU x.data.toList=2):=by
    show _=_;rw [qU,ju (by simp [ha]),jv hz]
   rw [len_L,hh,<- uH _ 48 48 rfl,jj] at hz;have h1:1<x.size:=by simpa using hz.1
   have hb:=hz.2;clear hz hh ha;go_wp2;go_ret;exact ⟨zam HN.out.symm,Below.refl _ _⟩
def signs:ByteArray:=⟨#[123,125,40,41,91,93,59,44,46,61,60,43,45,42,47,37,38,124,33]⟩
theorem zhv (b:UInt8):decide (Lib.indexByte signs.data.toList ((b.toNat:Int)).toNat.toUInt8 ≥ 0)=gU.contains b:=by
 have e:((b.toNat:Int)).toNat.toUInt8=b:=by simp
 rw [e,zsg];rfl
theorem zp4 (x:ByteArray) (hs:x.size<=3000) (h0:0<x.size) (w:World) (hl:zD (x[0].toNat:Int)=true) (h16:x.size<=16) : Calls Tryz.prog 35 #[.string x] w fun e w'=>e=.returned (.tuple #[.int .i64 1,.int .i64 0])/\Below w.heap.size w w':=by
 go_enter Tryz.func35,Tryz.ntmps35;go_wp2_with (go_at_call 53;refine (dQ _ _).mono ?_;rintro e w' ⟨rfl,hw⟩;obtain rfl:=hw.symm);exact jT (v:=.tuple #[.int .i64 1,.int .i64 0]) (by simp [results,Tryz.results35,go_sem]) rfl ⟨rfl,Below.refl _ _⟩
theorem zp9 (x:ByteArray) (hs:x.size<=3000) (h0:0<x.size) (w:World) (hl:zD (x[0].toNat:Int)=true) (h16:16<x.size) : Calls Tryz.prog 35 #[.string x] w fun e w'=>e=.returned (.tuple #[.int .i64 0,.int .i64 1])/\Below w.heap.size w w':=by
 go_enter Tryz.func35,Tryz.ntmps35;go_wp2_with (go_at_call 53;refine (dQ _ _).mono ?_;rintro e w' ⟨rfl,hw⟩;obtain rfl:=hw.symm);exact jT (v:=.tuple #[.int .i64 0,.int .i64 1]) (by simp [results,Tryz.results35,go_sem]) rfl ⟨rfl,Below.refl _ _⟩
theorem zrr (x:ByteArray) (hs:x.size<=3000) (h0:0<x.size) (w:World) (he:qP w) (hl:zD (x[0].toNat:Int)=false) (hd:yA (x[0].toNat:Int)=true) : Calls Tryz.prog 35 #[.string x] w fun e w'=>e=.returned (.tuple #[.int .i64 2,.int .i64 (qU x.data.toList)])/\Below w.heap.size w w':=by
 go_enter Tryz.func35,Tryz.ntmps35
 go_wp2_with (first
  | (go_at_call 53;refine (dQ _ _).mono ?_;rintro e w' ⟨rfl,hw⟩;obtain rfl:=hw.symm)
  | (go_at_call 54;refine (dE _ _).mono ?_;rintro e w' ⟨rfl,hw⟩;obtain rfl:=hw.symm)
  | (go_at_call 57;refine (zou x hs h0 _ he).mono ?_;rintro e w1 ⟨rfl,hb1⟩))
 exact jT (v:=.tuple #[.int .i64 2,.int .i64 (qU x.data.toList)]) (by simp [results,Tryz.results35,go_sem]) rfl ⟨rfl,hb1⟩
theorem zqu (x:ByteArray) (hs:x.size<=3000) (h0:0<x.size) (w:World) (hl:zD (x[0].toNat:Int)=false) (hd:yA (x[0].toNat:Int)=false) (hc:gU.contains x[0]=true) : Calls Tryz.prog 35 #[.string x] w fun e w'=>e=.returned (.tuple #[.int .i64 3,.int .i64 0])/\Below w.heap.size w w':=by
 have hi:Lib.indexByte signs.data.toList ((x[0].toNat:Int)).toNat.toUInt8 ≥ 0:=of_decide_eq_true (by rw [zhv,hc]);obtain ⟨I,hI⟩:∃ I,I=Lib.indexByte signs.data.toList ((x[0].toNat:Int)).toNat.toUInt8:=⟨_,rfl⟩
 have hx:=zjc signs (x[0].toNat:Int);rw [<- hI] at hi hx;clear hI hc;go_enter Tryz.func35,Tryz.ntmps35
 go_wp2_with (first
  | (go_at_call 53;refine (dQ _ _).mono ?_;rintro e w' ⟨rfl,hw⟩;obtain rfl:=hw.symm)
  | (go_at_call 54;refine (dE _ _).mono ?_;rintro e w' ⟨rfl,hw⟩;obtain rfl:=hw.symm)
  | (go_at_call 58;refine (hx _).mono ?_;rintro e w' ⟨rfl,hw⟩;obtain rfl:=hw.symm))
 exact jT (v:=.tuple #[.int .i64 3,.int .i64 0]) (by simp [results,Tryz.results35,go_sem]) rfl ⟨rfl,Below.refl _ _⟩
theorem zq0 (x:ByteArray) (hs:x.size<=3000) (h0:0<x.size) (w:World) (hl:zD (x[0].toNat:Int)=false) (hd:yA (x[0].toNat:Int)=false) (hc:gU.contains x[0]=false) : Calls Tryz.prog 35 #[.string x] w fun e w'=>e=.returned (.tuple #[.int .i64 0,.int .i64 2])/\Below w.heap.size w w':=by
 have hi:¬ Lib.indexByte signs.data.toList ((x[0].toNat:Int)).toNat.toUInt8 ≥ 0:=of_decide_eq_false (by rw [zhv,hc]);obtain ⟨I,hI⟩:∃ I,I=Lib.indexByte signs.data.toList ((x[0].toNat:Int)).toNat.toUInt8:=⟨_,rfl⟩
 have hx:=zjc signs (x[0].toNat:Int);rw [<- hI] at hi hx;clear hI hc;go_enter Tryz.func35,Tryz.ntmps35
 go_wp2_with (first
  | (go_at_call 53;refine (dQ _ _).mono ?_;rintro e w' ⟨rfl,hw⟩;obtain rfl:=hw.symm)
  | (go_at_call 54;refine (dE _ _).mono ?_;rintro e w' ⟨rfl,hw⟩;obtain rfl:=hw.symm)
  | (go_at_call 58;refine (hx _).mono ?_;rintro e w' ⟨rfl,hw⟩;obtain rfl:=hw.symm))
 exact jT (v:=.tuple #[.int .i64 0,.int .i64 2]) (by simp [results,Tryz.results35,go_sem]) rfl ⟨rfl,Below.refl _ _⟩
theorem zaa (s:ByteArray) (p n:Nat) (h:p+n<=s.size):(s.extract p (p+n)).size=n:=by
 rw [<- len_L,Lib.extract_data,List.length_take,List.length_drop,len_L];omega
theorem zkv (s:ByteArray) (p n:Nat):(s.extract p (p+n)).data.toList=(s.data.toList.drop p).take n:=by
 rw [Lib.extract_data,Nat.add_sub_cancel_left]
theorem zfe (s:ByteArray) (p n:Nat) (h:p+n<=s.size) (hn:0<n):(s.extract p (p+n))[0]'(by rw [zaa s p n h];exact hn)=s[p]:=by
 have h0:0<(s.extract p (p+n)).size:=by rw [zaa s p n h];exact hn
 have e:=zoj (s.extract p (p+n)) h0;rw [<- e,zkv,gG s p (by omega)]
 cases n with
 | zero=>omega
 | succ n=>rfl
theorem zq3 {P:UInt8->Bool} {s:ByteArray} {p j:Nat} (hp:p<s.size) (h0:P s[p]=true) (h:Stops P s (p+1) j):Stops P s p j :=
 ⟨by have:=h.le;omega,h.top,fun k hk h1 h2=>by
  rcases jL p k with h3 | h3
  ·exact h.all k hk (by omega) h2
  ·have:k=p:=by omega
   subst this
   exact h0,h.stop⟩
theorem sign_one (s:ByteArray) (p:Nat) (hp:p<s.size) (hc:gU.contains s[p]=true):vZ (s.data.toList.drop p)=1+more (s.data.toList.drop (p+1)) (s[p].toNat:Int):=by
 unfold vZ more;rw [gG s p hp,List.headD_cons,List.drop_one,List.tail_cons,uH _ 61 61 rfl];rw [jv hc];split<;>rfl
theorem zrt (s:ByteArray) (p:Nat) (hp:p<s.size) (hc:gU.contains s[p]=false):vZ (s.data.toList.drop p)=0:=by
 unfold vZ;rw [gG s p hp,List.headD_cons,List.drop_one,List.tail_cons,ju,ju (by rw [hc];decide)];intro h;rw [jj,beq_iff_eq] at h;rw [h.1] at hc;exact absurd hc (by decide)
theorem zv3 (s:ByteArray) (p:Nat) (c:Int) (hp:p<s.size):p+(1+more (s.data.toList.drop (p+1)) c)<=s.size:=by
 unfold more;split
 ·rename_i h;rw [jj] at h;rcases jL (p+1) s.size with h1 | h1
  ·omega
  ·have:=zk5 s (p+1) h1;rw [this] at h;exact absurd h.2 (by decide)
 ·omega
def ya5 (s:ByteArray) (p n:Nat) (hp:p<s.size) (K E:Int):Prop :=
 (∀ w,Calls Tryz.prog 34 #[.int .u8 (s[p].toNat:Int)] w fun e w1=>∃ fv,e=.returned fv/\Below w.heap.size w w1 /\
  Calls Tryz.prog 33 #[.string s,.int .i64 ((p:Int)+1),fv] w1 fun e w2=>e=.returned (.int .i64 ((p:Int)+(n:Int)))/\Below w.heap.size w w2) /\
 (∀ w,qP w->Calls Tryz.prog 35 #[.string (s.extract p (p+n))] w fun e w'=>e=.returned (.tuple #[.int .i64 K,.int .i64 E])/\Below w.heap.size w w')
theorem zem (s:ByteArray) (p:Nat) (hs:s.size<=3000) (hp:p<s.size) (h:(zD (s[p].toNat:Int)||yA (s[p].toNat:Int))=true) (w:World) : Calls Tryz.prog 34 #[.int .u8 (s[p].toNat:Int)] w fun e w1=>∃ fv,e=.returned fv/\Below w.heap.size w w1 /\ Calls Tryz.prog 33 #[.string s,.int .i64 ((p:Int)+1),fv] w1 fun e w2=>e=.returned (.int .i64 ((p:Int)+(run qG (s.data.toList.drop p):Int)))/\Below w.heap.size w w2:=by
 refine (zqq _ h w).mono ?_;rintro e w1 ⟨rfl,hb⟩;refine ⟨_,rfl,hb,?_⟩;refine (zo9 s (p+1) hs (by omega) w1).mono ?_;rintro e w2 ⟨j,rfl,hj,rfl⟩
 have hi:qG s[p]=true:=by
  rw [Bool.or_eq_true] at h;rcases h with h | h
  ·exact ze1 h
  ·exact zcv h
 have hr:=(zq3 hp hi hj).run;have hl:=hj.le;refine ⟨?_,hb⟩;rw [hr]
 congr 2
 omega
theorem zh6 (s:ByteArray) (p:Nat) (hs:s.size<=3000) (hp:p<s.size) (hl:zD (s[p].toNat:Int)=false) (hd:yA (s[p].toNat:Int)=false) (w:World) : Calls Tryz.prog 34 #[.int .u8 (s[p].toNat:Int)] w fun e w1=>∃ fv,e=.returned fv/\Below w.heap.size w w1 /\ Calls Tryz.prog 33 #[.string s,.int .i64 ((p:Int)+1),fv] w1 fun e w2=>e=.returned (.int .i64 ((p:Int)+((1+more (s.data.toList.drop (p+1)) (s[p].toNat:Int):Nat):Int)))/\Below w.heap.size w w2:=by
 refine (zpn _ hl hd w).mono ?_;rintro e w1 ⟨rfl,h1,h2,h3,hb⟩;refine ⟨_,rfl,hb,?_⟩;refine (zp7 s (p+1) (s[p].toNat:Int) _ _ hs (by omega) w1 h1 h2 h3 (by simp)).mono ?_;rintro e w2 ⟨rfl,hb2⟩;refine ⟨?_,hb.trans (hb2.mono (by simp))⟩
 congr 2
 omega
theorem zvw (s:ByteArray) (p:Nat) (hs:s.size<=3000) (hp:p<s.size) (h32:((s[p].toNat:Int)==32)=false) (h10:((s[p].toNat:Int)==10)=false) (h35:((s[p].toNat:Int)==35)=false) : ∃ (n:Nat) (K E:Int),0<n/\p+n<=s.size/\((E != 0)=false->qA (s.data.toList.drop p)=.tok K n)/\((E != 0)=true->qA (s.data.toList.drop p)=.fault E)/\ya5 s p n hp K E:=by
 have hrl:=zgo qG (s.data.toList.drop p);rw [List.length_drop,len_L] at hrl;cases hl:zD (s[p].toNat:Int)
 ·cases hd:yA (s[p].toNat:Int)
  ·have hn:0<1+more (s.data.toList.drop (p+1)) (s[p].toNat:Int):=by omega
   have hm:=zv3 s p (s[p].toNat:Int) hp;have hx:=zaa s p _ hm;have hh:=zfe s p _ hm hn;cases hc:gU.contains s[p];·refine ⟨1+more (s.data.toList.drop (p+1)) (s[p].toNat:Int),0,2,hn,hm,fun h=>absurd h (by decide),fun _=>zvv hp h32 h10 h35 hl hd (zrt s p hp hc),fun w=>zh6 s p hs hp hl hd w,fun w _=>?_⟩;exact zq0 _ (by omega) (by omega) w (by rw [hh];exact hl) (by rw [hh];exact hd) (by rw [hh];exact hc)
   ·refine ⟨1+more (s.data.toList.drop (p+1)) (s[p].toNat:Int),3,0,hn,hm,fun _=>zvp hp h32 h10 h35 hl hd (sign_one s p hp hc) (by omega),fun h=>absurd h (by decide),fun w=>zh6 s p hs hp hl hd w,fun w _=>?_⟩;exact zqu _ (by omega) (by omega) w (by rw [hh];exact hl) (by rw [hh];exact hd) (by rw [hh];exact hc)
  ·have hn:0<run qG (s.data.toList.drop p):=zx3 hp hd rfl;have hm:p+run qG (s.data.toList.drop p)<=s.size:=by omega
   have hx:=zaa s p _ hm;have hh:=zfe s p _ hm hn;refine ⟨_,2,qU ((s.data.toList.drop p).take (run qG (s.data.toList.drop p))),hn,hm,fun h=>zzv hp h32 h10 h35 hl hd rfl (by simpa [bne] using h),fun h=>zyq hp h32 h10 h35 hl hd rfl (by simpa [bne] using h),fun w=>zem s p hs hp (by rw [hd,Bool.or_true]) w,fun w he=>?_⟩;have hj:=zrr (s.extract p (p+run qG (s.data.toList.drop p))) (by omega) (by omega) w he (by rw [hh];exact hl) (by rw [hh];exact hd);rw [zkv] at hj;exact hj
 ·have hn:0<run qG (s.data.toList.drop p):=by rw [gG s p hp];exact zbz _ _ _ (ze1 hl)
  have hm:p+run qG (s.data.toList.drop p)<=s.size:=by omega
  have hx:=zaa s p _ hm;have hh:=zfe s p _ hm hn;by_cases h16:run qG (s.data.toList.drop p)<=16;·refine ⟨_,1,0,hn,hm,fun _=>zx8 hp h32 h10 h35 hl rfl h16,fun h=>absurd h (by decide),fun w=>zem s p hs hp (by rw [hl,Bool.true_or]) w,fun w he=>?_⟩;exact zp4 _ (by omega) (by omega) w (by rw [hh];exact hl) (by omega)
  ·refine ⟨_,0,1,hn,hm,fun h=>absurd h (by decide),fun _=>zwm hp h32 h10 h35 hl rfl (by omega),fun w=>zem s p hs hp (by rw [hl,Bool.true_or]) w,fun w he=>?_⟩;exact zp9 _ (by omega) (by omega) w (by rw [hh];exact hl) (by omega)
def zn6 (H:World->Prop) (F:Nat) (s:ByteArray):Prop:=∀ w:World,H w->Calls Tryz.prog F #[.string s] w fun e w'=>∃ v,e=.returned (.tuple #[v,.agg #[.int .i64 (scan s.data.toList).code,.int .i64 (scan s.data.toList).place]]) /\
   w'.ownsRow w.heap.size 89 3 v (scan s.data.toList).toks.length (cellsOf (scan s.data.toList).toks)/\Below w.heap.size w w'
theorem own_shape {w:World} {B:Nat} {e:TypeId} {k n:Nat} {v:Value} {xs:List Value} (h:w.ownsRow B e k v n xs):∃ a c,v=.slice a n c/\n<=9223372036854775807/\(0<n->∃ g,a=some ⟨g,0,none⟩):=by
 rcases h.2 with ⟨rfl,rfl⟩|⟨g,cap,cur,rfl,_,_,h1,h2,_⟩
 ·exact ⟨none,0,rfl,by omega,fun h=>by omega⟩
 ·exact ⟨some ⟨g,0,none⟩,cap,rfl,by unfold maxLen at h2;omega,fun _=>⟨g,rfl⟩⟩
theorem zp0 (l:List Tok) (k:Nat) (hk:k<l.length):(cellsOf l)[k*3]?=some (.int .i64 l[k].kind)/\(cellsOf l)[k*3+1]?=some (.string ⟨l[k].text.toArray⟩)/\(cellsOf l)[k*3+2]?=some (.int .i64 (l[k].at_:Int)):=by
 induction l generalizing k with
 | nil=>simp at hk
 | cons t l ih =>
  cases k with
  | zero=>simp [cellsOf]
  | succ k =>
   have h:=ih k (by simpa using hk);have e:cellsOf (t :: l)=[.int .i64 t.kind,.string ⟨t.text.toArray⟩,.int .i64 (t.at_:Int)]++cellsOf l:=rfl;have e3:(k+1)*3=k*3+3:=by omega
   rw [e,e3];refine ⟨?_,?_,?_⟩;·rw [List.getElem?_append_right (by simp)];simpa using h.1
   ·rw [List.getElem?_append_right (by simp)];simpa using h.2.1
   ·rw [List.getElem?_append_right (by simp)];simpa using h.2.2
theorem tok_cells {w:World} {B:Nat} {e:TypeId} {g n cap:Nat} {l:List Tok} (h:w.ownsRow B e 3 (.slice (some ⟨g,0,none⟩) n cap) n (cellsOf l)) {k:Nat} (hk:k<l.length) : w.cell? ⟨g,k*3,none⟩=some (.int .i64 l[k].kind)/\w.cell? ⟨g,k*3+1,none⟩=some (.string ⟨l[k].text.toArray⟩)/\w.cell? ⟨g,k*3+2,none⟩=some (.int .i64 (l[k].at_:Int)):=by
 have ha:=zp0 l k hk;have hn:n=l.length:=by have:=h.1;rw [zow] at this;omega
 exact ⟨(h.cellAt _ (by omega)).trans ha.1,(h.cellAt _ (by omega)).trans ha.2.1,(h.cellAt _ (by omega)).trans ha.2.2⟩
theorem below_next {w a b:World} {o:Obj} (h:Below w.heap.size w a) (h2:Below (a.alloc o).heap.size (a.alloc o) b):Below w.heap.size w b :=
 (h.alloc h.size o).trans (h2.mono (by have:=h.size;rw [jO];omega))
theorem zbq {w wr w1:World} {o:Obj} {e:TypeId} {k n:Nat} {v:Value} {xs:List Value} (hown:wr.ownsRow (w.heap.size+1) e k v n xs) (hbw:Below (w.heap.size+1) (w.alloc o) wr) (hb:Below wr.heap.size wr w1) : w1.ownsRow (w.heap.size+1) e k v n xs/\Below (w.heap.size+1) (w.alloc o) w1:=by
 have hs:=hbw.size;rw [jO] at hs;exact ⟨zrg hown hb,hbw.trans (hb.mono hs)⟩
theorem zlm {w wr:World} {o:Obj} (he:qP w) (hbw:Below (w.heap.size+1) (w.alloc o) wr):qP wr:=hasErr_below he (zex hbw)
set_option maxRecDepth 100000 in
theorem yay (s:ByteArray) (w:World) (hs:s.size<=3000) (he:qP w) : Calls Tryz.prog 18 #[.string s] w fun e w'=>∃ v,e=.returned (.tuple #[v,.agg #[.int .i64 (scan s.data.toList).code,.int .i64 (scan s.data.toList).place]]) /\ w'.ownsRow w.heap.size 89 3 v (scan s.data.toList).toks.length (cellsOf (scan s.data.toList).toks)/\Below w.heap.size w w':=by
 obtain ⟨i0,hi,hz0,hz1,hz2⟩:=info_parts zx4;have hsz:¬ (3000:Int)<(s.size:Int):=by omega
 obtain ⟨R,hR⟩:∃ R,R=scan s.data.toList:=⟨_,rfl⟩
 rw [<- hR]
 have HR:Hid (zC s.size (s.data.toList.drop 0) 0 []=R):=by
  show _=_;rw [hR,scan,ju (by rw [len_L];omega),len_L];rfl
 have HE:Hid (qP w):=he;clear hR he;go_enter Tryz.func18,Tryz.ntmps18;go_wp2_with (go_at_call 32;refine (zli s 0 hs (by omega) _).mono ?_;rintro e w' ⟨q,rfl,hg,hq,hw⟩;obtain rfl:=hw.symm);obtain ⟨f0,hf0,HR0⟩:=hg.on s.size [] R (by omega) HR.out;have hqs:=hg.top
 go_loopw [4,5] (fun v i wr=>∃ (p f:Nat) (acc:List Tok),p<=s.size/\i=.int .i64 p/\s.size<=p+f/\Hid (∀ h:p<s.size,((s[p].toNat:Int)==32)=false/\((s[p].toNat:Int)==10)=false/\((s[p].toNat:Int)==35)=false)/\Hid (zC f (s.data.toList.drop p) p acc=R)/\wr.ownsRow (w.heap.size+1) 89 3 v acc.length (cellsOf acc)/\acc.length<=p/\Below (w.heap.size+1) (w.alloc (.cells #[.int .i64 0,.int .i64 0] 28)) wr)
  (fun _ i _=>s.size - (intOf i).toNat)
 case atStart =>
  exact ⟨q,f0,[],hqs,rfl,hf0,hq,HR0,World.ownsRow_nil _ _ _ _,by simp,Below.refl _ _⟩
 case round =>
  obtain ⟨p,f,acc,hp,rfl,hf,HB,HS,hown,hal,hbw⟩:=hrel;obtain ⟨hc0,hc1,hz0',hz1',hB⟩:=zg6 hbw;have hB':w.heap.size<wr.heap.size:=hB;by_cases hlt:p<s.size
  ·obtain ⟨f,rfl⟩:∃ f',f=f'+1:=⟨f - 1,by omega⟩
   obtain ⟨n,K,E,hn,hm,H1,H2,HBR,HJ⟩:=zvw s p hs hlt (HB.out hlt).1 (HB.out hlt).2.1 (HB.out hlt).2.2;have hsl:=ztb 9 Tryz.underlying9 s p n hm;have hx:=zaa s p n hm;cases hE:(E != 0)
   ·have hst:Hid (qA (s.data.toList.drop p)=.tok K n):=H1 hE;clear H1 H2
    have hsk:∀ w,Calls Tryz.prog 32 #[.string s,.int .i64 ((p:Int)+(n:Int))] w fun e w'=>∃ j:Nat,e=.returned (.int .i64 j)/\Goes s (p+n) j/\(∀ h:j<s.size,((s[j].toNat:Int)==32)=false/\((s[j].toNat:Int)==10)=false/\((s[j].toNat:Int)==35)=false)/\w'=w:=by
     intro w;have h:=zli s (p+n) hs hm w;rw [Int.natCast_add] at h;exact h
    go_wp2_with (first
     | (go_at_call 34;refine (HBR _).mono ?_;rintro e w1 ⟨fv,rfl,hb1,hreach⟩)
     | (go_at_call 33;refine hreach.mono ?_;rintro e w2 ⟨rfl,hb2⟩;obtain ⟨hown2,hbw2⟩:=zbq hown hbw hb2)
     | (go_at_call 35;refine (HJ _ (zlm HE.out hbw2)).mono ?_;rintro e w3 ⟨rfl,hb3⟩;obtain ⟨hown3,hbw3⟩:=zbq hown2 hbw2 hb3; clear hown2 hbw2 hb2 hb3)
     | (go_at_call 36;refine (zry _ (by omega) _).mono ?_;rintro e w4 ⟨rfl,hb4⟩;obtain ⟨hown4,hbw4⟩:=zbq hown3 hbw3 hb4;obtain ⟨_,_,_,_,hB4⟩:=zg6 hbw4;clear hown3 hbw3 hb4)
     | (at_builtin;refine wpList_append_own _ rfl (.tmp 40) (.tmp 49) 65 rfl (w.heap.size+1) 89 i0 (.agg #[.int .i64 0,.string ⟨#[]⟩,.int .i64 0]) 3 32 Tryz.underlying65 hi hz0 hz1 hz2 rfl (by decide) _ _ _ rfl (hown4.alloc _) ⟨w4.heap.size,0,none⟩ 1 1 [.int .i64 K,.string (s.extract p (p+n)),.int .i64 (p:Int)] rfl rfl (zox _ _ _ _ _ _ (by simp)) (zrp _ _ _) (by unfold maxLen;omega) (by omega) (by simp<;>omega) ?_;intro v' w5 hown' hgrow hne;have X:Hid (w5.ownsRow (w.heap.size+1) 89 3 v' (acc.length+1) (cellsOf acc++[.int .i64 K,.string (s.extract p (p+n)),.int .i64 (p:Int)])/\Below (w.heap.size+1) (w.alloc (.cells #[.int .i64 0,.int .i64 0] 28)) w5):=⟨hown',zvn (hbw4.alloc (by omega) _) (by simp<;>omega) (hown4.alloc _) hgrow⟩;clear hown' hgrow hne)
     | (go_at_call 32;refine (hsk _).mono ?_;rintro e w' ⟨j,rfl,hg2,hq2,hw⟩;obtain rfl:=hw.symm))
    have hT:=zy5 hlt hst.out HS.out;obtain ⟨f',hf',HR'⟩:=hg2.on f _ R (by omega) hT.1;have hjt:=hg2.top;have hjl:=hg2.le;go_roundw
    case rel=>exact ⟨j,f',_,hjt,rfl,hf',hq2,HR',zxq X.out.1,by rw [jb];simp;omega,X.out.2⟩
    case measure=>simp [intOf];omega
   ·have hst:Hid (qA (s.data.toList.drop p)=.fault E):=H2 hE;clear H1 H2;have hend:=zth hlt hst.out HS.out;subst hend
    go_wp2_with (first
     | (go_at_call 34;refine (HBR _).mono ?_;rintro e w1 ⟨fv,rfl,hb1,hreach⟩)
     | (go_at_call 33;refine hreach.mono ?_;rintro e w2 ⟨rfl,hb2⟩;obtain ⟨hown2,hbw2⟩:=zbq hown hbw hb2)
     | (go_at_call 35;refine (HJ _ (zlm HE.out hbw2)).mono ?_;rintro e w3 ⟨rfl,hb3⟩;obtain ⟨hown3,hbw3⟩:=zbq hown2 hbw2 hb3;obtain ⟨c0,c1,e0,e1,hB3⟩:=zg6 hbw3;clear hown2 hbw2 hb2 hb3))
    refine jT (v:=.tuple #[.slice none 0 0,.agg #[.int .i64 E,.int .i64 p]]) (by simp [results,Tryz.results18,go_sem,c0,c1]) rfl ⟨_,rfl,World.ownsRow_nil _ _ _ _,?_⟩;exact ((zex hbw3).setCell (jE _) _).setCell (jE _) _
  ·have hend:=zyz (by omega) HS.out;subst hend;go_wp2;refine jT (v:=.tuple #[u4,.agg #[.int .i64 0,.int .i64 0]]) (by simp [results,Tryz.results18,go_sem,hc0,hc1]) rfl ⟨u4,rfl,?_,?_⟩;·exact ownsRow_le (ownsRow_setCell_below (ownsRow_setCell_below hown (by simp) _) (by simp) _) (by omega)
   ·exact ((zex hbw).setCell (jE _) _).setCell (jE _) _
theorem zq8 (s:ByteArray) (w:World) (hs:3000<s.size) : Calls Tryz.prog 18 #[.string s] w fun e w'=>∃ v,e=.returned (.tuple #[v,.agg #[.int .i64 (scan s.data.toList).code,.int .i64 (scan s.data.toList).place]]) /\ w'.ownsRow w.heap.size 89 3 v (scan s.data.toList).toks.length (cellsOf (scan s.data.toList).toks)/\Below w.heap.size w w':=by
 have hsz:(3000:Int)<(s.size:Int):=by omega
 have hR:scan s.data.toList=.err 1 0:=by rw [scan,jv (by rw [len_L];omega)]
 rw [hR];clear hR;go_enter Tryz.func18,Tryz.ntmps18;go_wp2;refine jT (v:=.tuple #[.slice none 0 0,.agg #[.int .i64 1,.int .i64 0]]) (by simp [results,Tryz.results18,go_sem]) rfl ⟨_,rfl,World.ownsRow_nil _ _ _ _,?_⟩;exact bal _
theorem scan_own (s:ByteArray):zn6 qP 18 s:=by
 intro w he;rcases jL 3000 s.size with h | h
 ·exact zq8 s w h
 ·exact yay s w h he
end Go.Proofs.YtaadmdlbkhcfnaaGreatDoor.lexs
namespace Go.Proofs.YtaadmdlbkhcfnaaGreatDoor.syn
open Go
theorem zpc {P:Program} (w:World) (base:Nat) (t ty e:TypeId) (i:TypeInfo) (z:Value) (size bytes:Nat) (ht:P.underlying t=some (.slice e)) (hi:P.info? e=some i) (hz:i.zero=some z) (hsize:i.size=size) (hby:i.bytes=bytes) (v:Value) (n:Nat) (xs:List Value) (hown:w.ownsRow base e size v n xs) (a:Addr) (m c:Nat) (news:List Value) (hl:news.length=m*size) (hnews:∀ j u,news[j]?=some u->w.cell? (a.add j)=some u) (h1:∀ u∈news,u.oneCell'=true) (h63:n+m<=maxLen) (hbytes:(n+m)*bytes<=140737488355328) (hm:0<m) {v':Value} {w':World} (hr:(Builtin.append_ #[t,t] ty #[v,.slice (some a) m c]).run P w=.ok v' w'):v'.ownBlock=v.ownBlock\/v'.ownBlock=some w.heap.size:=by
 subst hsize;subst hby;have hsmall:n+m<=9223372036854775807:=by simp only [maxLen] at h63;omega
 rcases hown.2 with ⟨rfl,rfl⟩|⟨g,cap,cur,rfl,hbg,hg,hnc,hcm,hcs,htake⟩
 ·have hx:=run_append_nil (P:=P) w t ty e i z ht hi hz a m c news hl hnews (by omega) (by omega) (by simp only [Nat.zero_add] at hbytes;omega);rw [hr] at hx;injection hx with hv _;rw [hv];exact .inr rfl
 ·by_cases hroom:n+m<=cap
  ·have hfit:n*i.size+news.length<=cur.size:=by rw [hl,hcs,<- Nat.add_mul];exact Nat.mul_le_mul_right _ hroom
   have hx:=run_append_room (P:=P) w t ty e i ht hi g n cap cur hg a m c news hl hnews h1 hroom hfit;rw [hr] at hx;injection hx with hv _;rw [hv];exact .inl rfl
  ·have holds:∀ j u,xs[j]?=some u->w.cell? ((⟨g,0,none⟩:Addr).add j)=some u:=hown.cells (g:=g) rfl;have hx:=run_append_grow (P:=P) w t ty e i z ht hi hz ⟨g,0,none⟩ n cap xs hown.1 holds a m c news hl hnews (by omega) (by omega) (growslice_fits (by omega) hbytes);rw [hr] at hx;injection hx with hv _;rw [hv];exact .inr rfl
theorem zha {P:Program} {w:World} {ops:Array Oper} {rest:List Oper} {o:Oper} {a:Act} {Q:Exit->Act->World->Prop} (hgd:o.guard=none) (s x:Operand) (t:TypeId) (ho:o.op=.call { callee:=.builtin .append,args:=#[s,x],argTypes:=#[t,t] }) (base:Nat) (e:TypeId) (i:TypeInfo) (z:Value) (size bytes:Nat) (ht:P.underlying t=some (.slice e)) (hi:P.info? e=some i) (hz:i.zero=some z) (hsize:i.size=size) (hby:i.bytes=bytes) (hzs:z.cells.size=size) (hsz:0<size) (v:Value) (n:Nat) (xs:List Value) (hs:a.eval s=v) (hown:w.ownsRow base e size v n xs) (ad:Addr) (m c:Nat) (news:List Value) (hx:a.eval x=.slice (some ad) m c) (hl:news.length=m*size) (hnews:∀ j u,news[j]?=some u->w.cell? (ad.add j)=some u) (h1:∀ u∈news,u.oneCell'=true) (h63:n+m<=maxLen) (hbytes:(n+m)*bytes<=140737488355328) (hbase:base<=w.heap.size) (hm:0<m) (h:∀ v' w',w'.ownsRow base e size v' (n+m) (xs++news)->w.grownBy w' v.ownBlock->(v'.ownBlock=v.ownBlock\/v'.ownBlock=some w.heap.size)->wpList P ops Q rest (a.put o.dst v') w'):wpList P ops Q (o :: rest) a w:=by
 refine wpList_plain hgd fun K hK=>?_
 obtain ⟨v',w',hr,h2,h3,_⟩:=run_append_own (P:=P) w base t o.type e i z size bytes ht hi hz hsize hby hzs hsz v n xs hown ad m c news hl hnews h1 h63 hbytes hbase;have h4:=zpc w base t o.type e i z size bytes ht hi hz hsize hby v n xs hown ad m c news hl hnews h1 h63 hbytes hm hr;unfold Oper.wp execOp;simp only [ho,resolve,invoke,builtin,Sem.run_bind,Sem.run_pure,Result.andThen_ok,List.map_toArray,List.map_cons,List.map_nil,hs,hx,hr];exact hK _ _ (h v' w' h2 h3 h4)
end Go.Proofs.YtaadmdlbkhcfnaaGreatDoor.syn
namespace Go.Proofs.YtaadmdlbkhcfnaaGreatDoor.syn
open Go.RowKit
def cell4 (w:World) (g o:Nat) (v:Value):Prop:=∃ x0 x1 x2 x3,v=.agg #[x0,x1,x2,x3]/\w.cell? ⟨g,o,none⟩=some x0/\w.cell? ⟨g,o+1,none⟩=some x1/\w.cell? ⟨g,o+2,none⟩=some x2/\w.cell? ⟨g,o+3,none⟩=some x3
mutual
def kC (P:Nat->Prop) (w:World):Tree->Value->Prop
 | .node k x m ks,v=>∃ a c,v=.agg #[.int .i64 k,.string x,.int .i64 m,.slice a ks.length c]/\(ks.length<=4611686018427387904/\ks.length<=c)/\(ks≠[]->∃ g o,a=some ⟨g,o,none⟩/\P g/\kY P w ks g o)
def kY (P:Nat->Prop) (w:World):List Tree->Nat->Nat->Prop
 | [],_,_=>True
 | t :: r,g,o=>(∃ v,cell4 w g o v/\kC P w t v)/\kY P w r g (o+4)
end
mutual
theorem kC.to {P Q:Nat->Prop} {w w':World} (hPQ:∀ b,P b->Q b) (hw:∀ b,P b->∀ o,w'.cell? ⟨b,o,none⟩=w.cell? ⟨b,o,none⟩):∀ {t:Tree} {v:Value},kC P w t v->kC Q w' t v
 | .node k x m ks,v,h=>by
  unfold kC at h |-;obtain ⟨a,c,e,hl,hk⟩:=h;refine ⟨a,c,e,hl,fun hne=>?_⟩;obtain ⟨g,o,e2,hp,hat⟩:=hk hne;exact ⟨g,o,e2,hPQ _ hp,kY.to hPQ hw hp hat⟩
theorem kY.to {P Q:Nat->Prop} {w w':World} (hPQ:∀ b,P b->Q b) (hw:∀ b,P b->∀ o,w'.cell? ⟨b,o,none⟩=w.cell? ⟨b,o,none⟩):∀ {ks:List Tree} {g o:Nat},P g->kY P w ks g o->kY Q w' ks g o
 | [],g,o,hp,h=>by unfold kY;trivial
 | t :: r,g,o,hp,h=>by
  unfold kY at h |-;obtain ⟨⟨v,⟨x0,x1,x2,x3,e,c0,c1,c2,c3⟩,hl⟩,hr⟩:=h;refine ⟨⟨v,⟨x0,x1,x2,x3,e,?_,?_,?_,?_⟩,kC.to hPQ hw hl⟩,kY.to hPQ hw hp hr⟩;·rw [hw _ hp];exact c0
  ·rw [hw _ hp];exact c1
  ·rw [hw _ hp];exact c2
  ·rw [hw _ hp];exact c3
end
theorem kY.get {P:Nat->Prop} {w:World}:∀ {ks:List Tree} {g o:Nat},kY P w ks g o->∀ (i:Nat) (hi:i<ks.length),∃ v,cell4 w g (o+i*4) v/\kC P w ks[i] v
 | [],g,o,h,i,hi=>by simp at hi
 | t :: r,g,o,h,i,hi=>by
  unfold kY at h
  cases i with
  | zero=>simpa using h.1
  | succ i =>
   have:=kY.get h.2 i (by simpa using hi);have e:o+(i+1)*4=o+4+i*4:=by omega
   rw [e];exact this
theorem kC.below {w w':World} {t:Tree} {v:Value} (h:kC (·<w.heap.size) w t v) (hb:Below w.heap.size w w'):kC (·<w'.heap.size) w' t v :=
 h.to (fun b hb'=>jo hb' hb.size) (fun b hb' o=>hb.cell (p:=⟨b,o,none⟩) hb')
theorem kY.below {w w':World} {ks:List Tree} {g o:Nat} (hg:g<w.heap.size) (h:kY (·<w.heap.size) w ks g o) (hb:Below w.heap.size w w'):kY (·<w'.heap.size) w' ks g o :=
 h.to (fun b hb'=>jo hb' hb.size) (fun b hb' o=>hb.cell (p:=⟨b,o,none⟩) hb') hg
theorem zdt {k:Int} {x:ByteArray} {m:Int} {ks:List Tree} {i:Nat} (hi:i<ks.length):SizeOf.sizeOf ks[i]<SizeOf.sizeOf (Tree.node k x m ks):=by
 have h1:=List.sizeOf_lt_of_mem (jH hi);simp;omega
end Go.Proofs.YtaadmdlbkhcfnaaGreatDoor.syn
namespace Go.Proofs.YtaadmdlbkhcfnaaGreatDoor.syn
open Go.RowKit
open lexs (Tok cellsOf tok_cells own_shape qU)
abbrev Fr (r:Nat) (w w':World):Prop:=w.grownBy w' (some r)
theorem Fr.refl (r:Nat) (w:World):Fr r w w:=World.grownBy.refl _ _
theorem Fr.drewN {r:Nat} {w w':World} (h:Fr r w w') (n:Nat):Fr r w (w'.drewN n):=⟨h.os,h.tape,h.output,h.size,h.block⟩
theorem Fr.trans {r:Nat} {a b c:World} (h:Fr r a b) (k:Fr r b c):Fr r a c :=
 ⟨k.os.trans h.os,k.tape.trans h.tape,k.output.trans h.output,jp h.size k.size,fun j hj hn=>(k.block j (jo hj h.size) hn).trans (h.block j hj hn)⟩
theorem Fr.set {r:Nat} {w w':World} (h:Fr r w w') (o:Nat) (v:Value):Fr r w (w'.setCell ⟨r,o,none⟩ v) :=
 ⟨h.os,h.tape,h.output,by rw [jQ];exact h.size,fun j hj hn=>(jP _ _ _ _ (fun e=>hn (by rw [e]))).trans (h.block j hj hn)⟩
end Go.Proofs.YtaadmdlbkhcfnaaGreatDoor.syn
namespace Go.Proofs.YtaadmdlbkhcfnaaGreatDoor.syn
open Go.RowKit
open lexs (Tok zD gF)
section
variable {w:World} {r:Nat} {L:Value} {ts:List Tok} {s:St}
theorem Fr.below {w':World} (hb:Below w.heap.size w w'):Fr r w w':=⟨hb.os,hb.tape,hb.output,hb.size,fun j hj _=>hb.block j hj⟩
end
theorem zwk {x y:ByteArray} (h:x=y):Ending.returned (.string x)=.returned (.string y):=by rw [h]
theorem name_size (ts:List Tok) (s:St):(name ts s).1.size<=16:=by
 unfold name;cases he:kK (txt ts s);·exact jz _
 ·simp only [if_true];rcases jL 16 (txt ts s).size with h | h
  ·rw [zd9 (by omega)] at he;exact absurd he (by decide)
  ·exact h
end Go.Proofs.YtaadmdlbkhcfnaaGreatDoor.syn
namespace Go.Proofs.YtaadmdlbkhcfnaaGreatDoor.syn
open Go.RowKit
open lexs (Tok zD gF qJ val qU tok_cells own_shape)
section
variable {w:World} {r:Nat} {L:Value} {ts:List Tok} {s:St}
theorem Fr.alloc {w':World} (h:Fr r w w') (o:Obj):Fr r w (w'.alloc o):=h.trans (Fr.below (bal o))
theorem kC.leaf (P:Nat->Prop) (w:World) (k:Int) (x:ByteArray) (m:Int):kC P w (.node k x m []) (.agg #[.int .i64 k,.string x,.int .i64 m,.slice none 0 0]):=by
 unfold kC;exact ⟨none,0,rfl,⟨by simp,by simp⟩,fun h=>absurd rfl h⟩
structure Box4 (w:World) (N:Nat) (x0 x1 x2 x3:Value):Prop where
 c0:w.cell? ⟨N,0,none⟩=some x0
 c1:w.cell? ⟨N,1,none⟩=some x1
 c2:w.cell? ⟨N,2,none⟩=some x2
 c3:w.cell? ⟨N,3,none⟩=some x3
 f0:w.frozen? ⟨N,0,none⟩=false
 f1:w.frozen? ⟨N,1,none⟩=false
 f2:w.frozen? ⟨N,2,none⟩=false
 f3:w.frozen? ⟨N,3,none⟩=false
theorem Box4.new (w:World) (x0 x1 x2 x3:Value) (T:TypeId):Box4 (w.alloc (.cells #[x0,x1,x2,x3] T)) w.heap.size x0 x1 x2 x3:=by
 constructor<;>simp
theorem Box4.lt {N:Nat} {x0 x1 x2 x3:Value} (h:Box4 w N x0 x1 x2 x3):N<w.heap.size:=jR w ⟨N,0,none⟩ h.c0
theorem Box4.fr {w':World} {N:Nat} {x0 x1 x2 x3:Value} (h:Box4 w N x0 x1 x2 x3) (hF:Fr r w w') (hN:N≠r):Box4 w' N x0 x1 x2 x3:=by
 have hb:=hF.block N h.lt (by simpa using hN)
 exact ⟨(jM (a:=⟨N,0,none⟩) hb).trans h.c0,(jM (a:=⟨N,1,none⟩) hb).trans h.c1,(jM (a:=⟨N,2,none⟩) hb).trans h.c2,(jM (a:=⟨N,3,none⟩) hb).trans h.c3,
  (jN (a:=⟨N,0,none⟩) hb).trans h.f0,(jN (a:=⟨N,1,none⟩) hb).trans h.f1,(jN (a:=⟨N,2,none⟩) hb).trans h.f2,(jN (a:=⟨N,3,none⟩) hb).trans h.f3⟩
theorem Box4.alloc {N:Nat} {x0 x1 x2 x3:Value} (h:Box4 w N x0 x1 x2 x3) (o:Obj):Box4 (w.alloc o) N x0 x1 x2 x3 :=
 h.fr (r:=w.heap.size) (Fr.below (bal o)) (by have:=h.lt;omega)
theorem Box4.drewN {N:Nat} {x0 x1 x2 x3:Value} (h:Box4 w N x0 x1 x2 x3) (n:Nat):Box4 (w.drewN n) N x0 x1 x2 x3:=⟨h.c0,h.c1,h.c2,h.c3,h.f0,h.f1,h.f2,h.f3⟩
theorem Box4.other {N M o:Nat} {x0 x1 x2 x3:Value} (h:Box4 w N x0 x1 x2 x3) (hM:M≠N) (v:Value):Box4 (w.setCell ⟨M,o,none⟩ v) N x0 x1 x2 x3 :=
 h.fr (r:=M) ((Fr.refl _ _).set o v) (by omega)
theorem Box4.set2 {N:Nat} {x0 x1 x2 x3:Value} (h:Box4 w N x0 x1 x2 x3) (v:Value):Box4 (w.setCell ⟨N,2,none⟩ v) N x0 x1 v x3 :=
 ⟨by rw [jD _ _ _ _ (by simp)];exact h.c0,by rw [jD _ _ _ _ (by simp)];exact h.c1,jS _ _ _ h.c2,by rw [jD _ _ _ _ (by simp)];exact h.c3,by simp [h.f0],by simp [h.f1],by simp [h.f2],by simp [h.f3]⟩
theorem Box4.set3 {N:Nat} {x0 x1 x2 x3:Value} (h:Box4 w N x0 x1 x2 x3) (v:Value):Box4 (w.setCell ⟨N,3,none⟩ v) N x0 x1 x2 v :=
 ⟨by rw [jD _ _ _ _ (by simp)];exact h.c0,by rw [jD _ _ _ _ (by simp)];exact h.c1,by rw [jD _ _ _ _ (by simp)];exact h.c2,jS _ _ _ h.c3,by simp [h.f0],by simp [h.f1],by simp [h.f2],by simp [h.f3]⟩
theorem Fr.setNew {w':World} (h:Fr r w w') {N o:Nat} (hN:w.heap.size<=N) (v:Value):Fr r w (w'.setCell ⟨N,o,none⟩ v) :=
 ⟨h.os,h.tape,h.output,by rw [jQ];exact h.size,fun j hj hn=>(jP _ _ _ _ (by simp;omega)).trans (h.block j hj hn)⟩
theorem Fr.put4 {w':World} (h:Fr r w w') {N:Nat} (hN:w.heap.size<=N) (x0 x1 x2 x3:Value):Fr r w ((((w'.setCell ⟨N,0,none⟩ x0).setCell ⟨N,1,none⟩ x1).setCell ⟨N,2,none⟩ x2).setCell ⟨N,3,none⟩ x3) :=
 (((h.setNew hN x0).setNew hN x1).setNew hN x2).setNew hN x3
end
end Go.Proofs.YtaadmdlbkhcfnaaGreatDoor.syn
namespace Go.Proofs.YtaadmdlbkhcfnaaGreatDoor.syn
open Go.RowKit
open lexs (Tok tok_cells own_shape)
section
variable {w:World} {r:Nat} {L:Value} {ts:List Tok} {s:St}
theorem kC.shape {P:Nat->Prop} {t:Tree} {v:Value} (h:kC P w t v):∃ k x m sl,v=.agg #[.int .i64 k,.string x,.int .i64 m,sl]/\∃ a n c,sl=.slice a n c:=by
 cases t with
 | node k x m ks =>
  unfold kC at h;obtain ⟨a,c,rfl,_⟩:=h;exact ⟨k,x,m,_,rfl,a,ks.length,c,rfl⟩
theorem kC.fr {B:Nat} {w1 w2:World} {t:Tree} {v:Value} (h:kC (fun b=>B<=b/\b<w1.heap.size) w1 t v) (hr:r<B) (hF:Fr r w1 w2):kC (fun b=>B<=b/\b<w2.heap.size) w2 t v :=
 h.to (fun b hb=>⟨hb.1,jo hb.2 hF.size⟩) (fun b hb o=>jM (a:=⟨b,o,none⟩) (hF.block b hb.2 (by simp;omega)))
theorem kC.low {B B':Nat} {t:Tree} {v:Value} (h:kC (fun b=>B<=b/\b<w.heap.size) w t v) (hB:B'<=B):kC (fun b=>B'<=b/\b<w.heap.size) w t v :=
 h.to (fun b hb=>⟨jp hB hb.1,hb.2⟩) (fun _ _ _=>rfl)
theorem Fr.put (w:World) (N:Nat) (x0 x1 x2 x3:Value):Fr N w ((((w.setCell ⟨N,0,none⟩ x0).setCell ⟨N,1,none⟩ x1).setCell ⟨N,2,none⟩ x2).setCell ⟨N,3,none⟩ x3) :=
 ((((Fr.refl _ _).set _ _).set _ _).set _ _).set _ _
theorem Fr.al (w:World) (o:Obj):Fr r w (w.alloc o):=(Fr.refl _ _).alloc o
theorem zso (w:World) {y0 y1 y2 y3:Value} {T:TypeId} {M:Nat} (hM:M=w.heap.size):cell4 (w.alloc (.cells #[y0,y1,y2,y3] T)) M 0 (.agg #[y0,y1,y2,y3]):=by
 subst hM;exact ⟨y0,y1,y2,y3,rfl,by simp,by simp,by simp,by simp⟩
theorem kC.one {P:Nat->Prop} {M:Nat} {t:Tree} {v:Value} {k m:Int} {x:ByteArray} {c:Nat} (hP:P M) (h4:cell4 w M 0 v) (hL:kC P w t v) (hc:1<=c:=by omega):kC P w (.node k x m [t]) (.agg #[.int .i64 k,.string x,.int .i64 m,.slice (some ⟨M,0,none⟩) 1 c]):=by
 unfold kC;refine ⟨some ⟨M,0,none⟩,c,rfl,⟨by simp,by simpa using hc⟩,fun _=>⟨M,0,rfl,hP,?_⟩⟩;unfold kY;exact ⟨⟨v,h4,hL⟩,by unfold kY;trivial⟩
end
section
variable {w:World} {r:Nat} {L:Value} {ts:List Tok} {s:St}
theorem kC.frP {P Q:Nat->Prop} {x:Nat} {w1 w2:World} {t:Tree} {v:Value} (h:kC P w1 t v) (hF:Fr x w1 w2) (hP:∀ b,P b->b<w1.heap.size/\b≠x) (hQ:∀ b,P b->Q b):kC Q w2 t v :=
 h.to hQ (fun b hb o=>jM (a:=⟨b,o,none⟩) (hF.block b (hP b hb).1 (by have:=(hP b hb).2;simpa using this)))
theorem kC.two {P:Nat->Prop} {M:Nat} {t t':Tree} {v v':Value} {k m:Int} {x:ByteArray} {c:Nat} (hP:P M) (h4:cell4 w M 0 v) (h4':cell4 w M 4 v') (hL:kC P w t v) (hL':kC P w t' v') (hc:2<=c:=by omega):kC P w (.node k x m [t,t']) (.agg #[.int .i64 k,.string x,.int .i64 m,.slice (some ⟨M,0,none⟩) 2 c]):=by
 unfold kC;refine ⟨some ⟨M,0,none⟩,c,rfl,⟨by simp,by simpa using hc⟩,fun _=>⟨M,0,rfl,hP,?_⟩⟩;unfold kY;refine ⟨⟨v,h4,hL⟩,?_⟩;unfold kY;exact ⟨⟨v',h4',hL'⟩,by unfold kY;trivial⟩
theorem zs3 (w:World) {y0 y1 y2 y3 z0 z1 z2 z3:Value} {T:TypeId} {M:Nat} (hM:M=w.heap.size):cell4 (w.alloc (.cells #[y0,y1,y2,y3,z0,z1,z2,z3] T)) M 0 (.agg #[y0,y1,y2,y3])/\cell4 (w.alloc (.cells #[y0,y1,y2,y3,z0,z1,z2,z3] T)) M 4 (.agg #[z0,z1,z2,z3]):=by
 subst hM;exact ⟨⟨y0,y1,y2,y3,rfl,by simp,by simp,by simp,by simp⟩,⟨z0,z1,z2,z3,rfl,by simp,by simp,by simp,by simp⟩⟩
theorem Box4.put {N:Nat} {x0 x1 x2 x3 y0 y1 y2 y3:Value} (h:Box4 w N x0 x1 x2 x3):Box4 ((((w.setCell ⟨N,0,none⟩ y0).setCell ⟨N,1,none⟩ y1).setCell ⟨N,2,none⟩ y2).setCell ⟨N,3,none⟩ y3) N y0 y1 y2 y3:=by
 have h0:∀ o,(World.setCell w ⟨N,0,none⟩ y0).frozen? ⟨N,o,none⟩=w.frozen? ⟨N,o,none⟩:=fun o=>by simp
 refine ⟨?_,?_,?_,?_,by simp [h.f0],by simp [h.f1],by simp [h.f2],by simp [h.f3]⟩;·rw [jD _ _ _ _ (by simp),jD _ _ _ _ (by simp),jD _ _ _ _ (by simp)];exact jS _ _ _ h.c0
 ·rw [jD _ _ _ _ (by simp),jD _ _ _ _ (by simp)];exact jS _ _ _ (u:=x1) (by rw [jD _ _ _ _ (by simp)];exact h.c1)
 ·rw [jD _ _ _ _ (by simp)];exact jS _ _ _ (u:=x2) (by rw [jD _ _ _ _ (by simp),jD _ _ _ _ (by simp)];exact h.c2)
 ·exact jS _ _ _ (u:=x3) (by rw [jD _ _ _ _ (by simp),jD _ _ _ _ (by simp),jD _ _ _ _ (by simp)];exact h.c3)
end
end Go.Proofs.YtaadmdlbkhcfnaaGreatDoor.syn
namespace Go.Proofs.YtaadmdlbkhcfnaaGreatDoor.syn
open Go.RowKit
open lexs (Tok own_shape)
theorem bW:(Tryz.prog.info? 25).map (fun i=>(i.zero,i.size,i.bytes))=some (some (.agg #[.int .i64 0,.string ⟨#[]⟩,.int .i64 0,.slice none 0 0]),4,56):=by kernel_rfl
abbrev Q4:=Value × Value × Value × Value
def Q4.v (q:Q4):Value:=.agg #[q.1,q.2.1,q.2.2.1,q.2.2.2]
def uK (vs:List Q4):List Value:=vs.flatMap fun q=>[q.1,q.2.1,q.2.2.1,q.2.2.2]
theorem zis (vs:List Q4) (q:Q4):uK (vs++[q])=uK vs++[q.1,q.2.1,q.2.2.1,q.2.2.2]:=by simp [uK]
def zR (P:Nat->Prop) (w:World):List Tree->List Q4->Prop
 | [],[]=>True
 | t :: r,q :: vs=>kC P w t q.v/\zR P w r vs
 | _,_=>False
theorem zR.length {P:Nat->Prop} {w:World}:∀ {ks:List Tree} {vs:List Q4},zR P w ks vs->ks.length=vs.length
 | [],[],_=>rfl
 | t :: r,q :: vs,h=>by simp [zR.length h.2]
 | [],_ :: _,h=>by simp [zR] at h
 | _ :: _,[],h=>by simp [zR] at h
theorem zR.to {P Q:Nat->Prop} {w w':World} (hPQ:∀ b,P b->Q b) (hw:∀ b,P b->∀ o,w'.cell? ⟨b,o,none⟩=w.cell? ⟨b,o,none⟩):∀ {ks:List Tree} {vs:List Q4},zR P w ks vs->zR Q w' ks vs
 | [],[],_=>trivial
 | t :: r,q :: vs,h=>⟨h.1.to hPQ hw,zR.to hPQ hw h.2⟩
 | [],_ :: _,h=>by simp [zR] at h
 | _ :: _,[],h=>by simp [zR] at h
theorem zR.snoc {P:Nat->Prop} {w:World} {t:Tree} {q:Q4} (hq:kC P w t q.v):∀ {ks:List Tree} {vs:List Q4},zR P w ks vs->zR P w (ks++[t]) (vs++[q])
 | [],[],_=>⟨hq,trivial⟩
 | t' :: r,q' :: vs,h=>⟨h.1,zR.snoc hq h.2⟩
 | [],_ :: _,h=>by simp [zR] at h
 | _ :: _,[],h=>by simp [zR] at h
theorem zR.at {P:Nat->Prop} {w:World} {g:Nat}:∀ {ks:List Tree} {vs:List Q4} {o:Nat},zR P w ks vs->(∀ j,j<vs.length*4->w.cell? ⟨g,o+j,none⟩=(uK vs)[j]?)->kY P w ks g o
 | [],[],o,_,_=>by unfold kY;trivial
 | t :: r,q :: vs,o,h,hc=>by
  unfold kY;have e:uK (q :: vs)=[q.1,q.2.1,q.2.2.1,q.2.2.2]++uK vs:=rfl;refine ⟨⟨q.v,⟨q.1,q.2.1,q.2.2.1,q.2.2.2,rfl,?_,?_,?_,?_⟩,h.1⟩,zR.at h.2 ?_⟩;·have:=hc 0 (by simp<;>omega);rw [e] at this;simpa using this
  ·have:=hc 1 (by simp<;>omega);rw [e] at this;simpa using this
  ·have:=hc 2 (by simp<;>omega);rw [e] at this;simpa using this
  ·have:=hc 3 (by simp<;>omega);rw [e] at this;simpa using this
  ·intro j hj;have:=hc (4+j) (by simp;omega);rw [e,List.getElem?_append_right (by simp),<- Nat.add_assoc] at this
   simpa using this
 | [],_ :: _,_,h,_=>by simp [zR] at h
 | _ :: _,[],_,h,_=>by simp [zR] at h
def Kids (B:Nat) (P:Nat->Prop) (w:World) (kv:Value) (ks:List Tree):Prop:=∃ vs,w.ownsRow B 25 4 kv ks.length (uK vs)/\zR P w ks vs
theorem Kids.nil (B:Nat) (P:Nat->Prop) (w:World):Kids B P w (.slice none 0 0) []:=⟨[],World.ownsRow_nil _ _ _ _,trivial⟩
theorem Kids.lies {B:Nat} {P Q:Nat->Prop} {w:World} {kv:Value} {ks:List Tree} {k m:Int} {x:ByteArray} (h:Kids B P w kv ks) (hPQ:∀ b,P b->Q b) (hg:∀ g,kv.ownBlock=some g->Q g) (hl:ks.length<=4611686018427387904):kC Q w (.node k x m ks) (.agg #[.int .i64 k,.string x,.int .i64 m,kv]):=by
 obtain ⟨vs,ho,ha⟩:=h;have hlen:=ha.length;obtain ⟨a,c,rfl,_,hs⟩:=own_shape ho
 have hcap:ks.length<=c:=by
  rcases ho.2 with ⟨e,hn⟩|⟨g,cap,cur,e,h3,h4,h5,h6,_⟩
  ·omega
  ·injection e with _ _ e2;omega
 unfold kC;refine ⟨a,c,rfl,⟨hl,hcap⟩,fun hne=>?_⟩;have h0:0<ks.length:=by cases ks with | nil=>exact absurd rfl hne | cons _ _=>simp
 obtain ⟨g,rfl⟩:=hs h0;refine ⟨g,0,rfl,hg g rfl,(ha.to hPQ (fun _ _ _=>rfl)).at ?_⟩;intro j hj;rw [Nat.zero_add];exact ho.cellAt j (by omega)
theorem cM (w:World) (a b c d:Value) (t:TypeId) (g:Nat) (hg:g=w.heap.size):∀ j u,[a,b,c,d][j]?=some u->(w.alloc (.cells #[a,b,c,d] t)).cell? ((⟨g,0,none⟩:Addr).add j)=some u:=by
 subst hg;intro j u hj
 match j,hj with
 | 0,hj=>simp at hj;subst hj;simp [Addr.add]
 | 1,hj=>simp at hj;subst hj;simp [Addr.add]
 | 2,hj=>simp at hj;subst hj;simp [Addr.add]
 | 3,hj=>simp at hj;subst hj;simp [Addr.add]
theorem zci {a b c:World} {row:Option Nat} (h:a.grownBy b row) (k:b.grownBy c row):a.grownBy c row :=
 ⟨k.os.trans h.os,k.tape.trans h.tape,k.output.trans h.output,jp h.size k.size,fun j hj hn=>(k.block j (jo hj h.size) hn).trans (h.block j hj hn)⟩
theorem Box4.grown {w w':World} {row:Option Nat} {N:Nat} {x0 x1 x2 x3:Value} (h:Box4 w N x0 x1 x2 x3) (hF:w.grownBy w' row) (hN:row≠some N):Box4 w' N x0 x1 x2 x3:=by
 have hb:=hF.block N h.lt (fun e=>hN e.symm)
 exact ⟨(jM (a:=⟨N,0,none⟩) hb).trans h.c0,(jM (a:=⟨N,1,none⟩) hb).trans h.c1,(jM (a:=⟨N,2,none⟩) hb).trans h.c2,(jM (a:=⟨N,3,none⟩) hb).trans h.c3,
  (jN (a:=⟨N,0,none⟩) hb).trans h.f0,(jN (a:=⟨N,1,none⟩) hb).trans h.f1,(jN (a:=⟨N,2,none⟩) hb).trans h.f2,(jN (a:=⟨N,3,none⟩) hb).trans h.f3⟩
section
variable {w:World} {r:Nat} {L:Value} {ts:List Tok} {s:St}
theorem Kids.shape {B:Nat} {P:Nat->Prop} {kv:Value} {ks:List Tree} (h:Kids B P w kv ks):∃ a c,kv=.slice a ks.length c:=by
 obtain ⟨vs,ho,_⟩:=h;obtain ⟨a,c,e,_⟩:=own_shape ho;exact ⟨a,c,e⟩
theorem Kids.blk {B:Nat} {P:Nat->Prop} {kv:Value} {ks:List Tree} (h:Kids B P w kv ks) {g:Nat} (hg:kv.ownBlock=some g):B<=g/\g<w.heap.size:=by
 obtain ⟨vs,ho,_⟩:=h;exact ho.lt g hg
theorem Kids.grown {B:Nat} {P Q:Nat->Prop} {w':World} {row:Option Nat} {kv:Value} {ks:List Tree} (h:Kids B P w kv ks) (hg:w.grownBy w' row) (hk:kv.ownBlock=none\/kv.ownBlock≠row) (hP:∀ b,P b->b<w.heap.size/\some b≠row) (hQ:∀ b,P b->Q b):Kids B Q w' kv ks:=by
 obtain ⟨vs,ho,ha⟩:=h;exact ⟨vs,ho.kept hg hk,ha.to hQ (fun b hb o=>jM (a:=⟨b,o,none⟩) (hg.block b (hP b hb).1 (hP b hb).2))⟩
end
section
variable {w:World} {r:Nat} {L:Value} {ts:List Tok} {s:St}
theorem zc7 (ts:List Tok) (s:St):0<=(label ts s).1/\(label ts s).1<=1:=by
 unfold label;split<;>simp
end
end Go.Proofs.YtaadmdlbkhcfnaaGreatDoor.syn
namespace Go.Proofs.YtaadmdlbkhcfnaaGreatDoor.syn
open Go.RowKit
def gR (w:World):Prop:=∃ cs t fr,w.heap[5]?=some (.cells cs t fr)/\cs.size=20/\∀ k,k<10->cs[k*2]?=some (.string (opAt k))/\cs[k*2+1]?=some (.int .i64 (kZ k))
end Go.Proofs.YtaadmdlbkhcfnaaGreatDoor.syn
namespace Go.Proofs.YtaadmdlbkhcfnaaGreatDoor.syn
open Go.RowKit
open lexs (Tok Fine)
structure Ld (w:World) (r G:Nat) (ts:List Tok) (s:St):Prop where
 c0:∃ a c,w.cell? ⟨r,0,none⟩=some (.slice a (ts.length - s.i) c)/\ts.length - s.i<=c/\(s.i<ts.length->a=some ⟨G,s.i*3,none⟩)
 f0:w.frozen? ⟨r,0,none⟩=false
 tok:∀ (k:Nat) (h:k<ts.length),w.cell? ⟨G,k*3,none⟩=some (.int .i64 ts[k].kind)/\w.cell? ⟨G,k*3+1,none⟩=some (.string (raw ts[k]))/\w.cell? ⟨G,k*3+2,none⟩=some (.int .i64 (ts[k].at_:Int))
 old:G<r
 len:ts.length<=3000
 le:s.i<=ts.length
 good:∀ t∈ts,Fine t
 ok:s.bad=false
 ops:gR w
 low:5<r
section
variable {w w':World} {r G:Nat} {ts:List Tok} {s:St}
theorem Ld.lt (h:Ld w r G ts s):r<w.heap.size:=by obtain ⟨a,c,h0,_⟩:=h.c0;exact jR w ⟨r,0,none⟩ h0
theorem Ld.gt (h:Ld w r G ts s) (hk:0<ts.length):G<w.heap.size:=jR w ⟨G,0*3,none⟩ (h.tok 0 hk).1
theorem Ld.keep (h:Ld w r G ts s) {row:Option Nat} (hF:w.grownBy w' row) (hr:∀ k,row=some k->r<k):Ld w' r G ts s:=by
 have hb:=hF.block r h.lt (fun e=>by have:=hr r e.symm;omega);refine ⟨?_,(jN (a:=⟨r,0,none⟩) hb).trans h.f0,?_,h.old,h.len,h.le,h.good,h.ok,?_,h.low⟩;·obtain ⟨a,c,h0,h1,h2⟩:=h.c0;exact ⟨a,c,(jM (a:=⟨r,0,none⟩) hb).trans h0,h1,h2⟩
 ·intro k hk;have hG:=hF.block G (h.gt (by omega)) (fun e=>by have h1:=hr G e.symm;have h2:=h.old;omega);rw [jM (a:=⟨G,k*3,none⟩) hG,jM (a:=⟨G,k*3+1,none⟩) hG,jM (a:=⟨G,k*3+2,none⟩) hG];exact h.tok k hk
 ·obtain ⟨cs,t,fr,h1,h2,h3⟩:=h.ops;have hl:=h.low;have hlt:=h.lt;exact ⟨cs,t,fr,by rw [hF.block _ (by omega) (fun e=>by have:=hr _ e.symm;omega)];exact h1,h2,h3⟩
theorem Ld.alloc (h:Ld w r G ts s) (o:Obj):Ld (w.alloc o) r G ts s:=h.keep (World.grownBy_alloc w o none) (by simp)
theorem Ld.drewN (h:Ld w r G ts s) (n:Nat):Ld (w.drewN n) r G ts s:=⟨h.c0,h.f0,h.tok,h.old,h.len,h.le,h.good,h.ok,h.ops,h.low⟩
theorem Ld.set (h:Ld w r G ts s) {N:Nat} (hN:r<N) (o:Nat) (v:Value):Ld (w.setCell ⟨N,o,none⟩ v) r G ts s :=
 h.keep ((Fr.refl N w).set o v) (fun k e=>by
  obtain rfl:N=k:=by simpa using e
  exact hN)
def yP (ts:List Tok) (s:St) (ws:List ByteArray):Bool:=ws.any fun y=>eqS (txt ts s) y
theorem zjm (ht:¬ s.i<ts.length) {ws:List ByteArray} (hw:ws.all vQ=true):yP ts s ws=false:=by
 unfold yP;rw [List.any_eq_false];intro y hy;rw [List.all_eq_true] at hw;rw [zvs (by simp;omega) (hw y hy)];simp
theorem zur (hL:Ld w r G ts s) (ht:s.i<ts.length) {ws:List ByteArray} (hw:ws.all vQ=true):yP ts s ws=ws.any fun y=>eqS (raw ts[s.i]) y:=by
 unfold yP;rw [List.all_eq_true] at hw;have h:∀ y∈ws,eqS (txt ts s) y=eqS (raw ts[s.i]) y:=fun y hy=>zca (hL.good _ (jH ht)) hL.ok (by simp [ht]) (hw y hy)
 clear hw
 induction ws with
 | nil=>rfl
 | cons a l ih =>
  rw [List.any_cons,List.any_cons,h a (by simp),ih (fun y hy=>h y (by simp [hy]))]
def lost (ts:List Tok) (s:St):Value:=match ts[s.i]? with
 | some t=>.iface 101 (.agg #[.int .i64 (t.at_:Int)])
 | none=>.iface 102 (.agg #[])
def Pan (ts:List Tok) (s:St):List PanicEntry:=[{ v:=lost ts s,recovered:=false }]
def yE (w:World) (g:Nat) (ws:List ByteArray):Prop:=∀ (k:Nat) (h:k<ws.length),w.cell? ⟨g,k,none⟩=some (.string ws[k])
theorem zr6 {x:ByteArray} {ws:List ByteArray} {k:Nat} (hk:k<ws.length) (h:eqS x ws[k]=true):(ws.any fun y=>eqS x y)=true:=by
 rw [List.any_eq_true];exact ⟨ws[k],jH _,h⟩
theorem zw6 {x:ByteArray} {ws:List ByteArray} (h:∀ j (hj:j<ws.length),eqS x ws[j]=false):(ws.any fun y=>eqS x y)=false:=by
 rw [List.any_eq_false];intro y hy;obtain ⟨k,hk,rfl⟩:=List.mem_iff_getElem.1 hy;simp [h k hk]
theorem zzz (x:ByteArray) (ws:List ByteArray) (g c:Nat) (hl:ws.length<=100) (hc:yE w g ws) : Calls Tryz.prog 118 #[.slice (some ⟨g,0,none⟩) ws.length c,.string x] w fun e w'=>∃ i:Int,e=.returned (.int .i64 i)/\decide (0<=i)=(ws.any fun y=>eqS x y)/\w'=w:=by
 go_enter Tryz.func118,Tryz.ntmps118;go_wp2;go_loop [8] (fun t=>∃ k:Nat,k<=ws.length/\t=.int .i64 k/\Hid (∀ j (hj:j<ws.length),j<k->eqS x ws[j]=false)) (fun t=>ws.length - (intOf t).toNat)
 case atStart=>exact ⟨0,jz _,rfl,fun j _ hj=>by omega⟩
 case round =>
  obtain ⟨k,hk,rfl,HN⟩:=hrel;by_cases hlt:k<ws.length
  ·have hcell:=hc k hlt;have HC:Hid (yE w g ws):=hc;clear hc;have HK:Hid (eqS x ws[k]=eqS x ws[k]):=rfl;cases he:eqS x ws[k]
   ·have HE:Hid (eqS x ws[k]=false):=he;unfold eqS at he;go_wp2
    go_round
    case rel=>exact ⟨k+1,by omega,by go_num,fun j hj h1=>by
     rcases jL j k with h | h
     ·exact HN.out j hj h
     ·have:j=k:=by omega
      subst this
      exact HE.out⟩
    case measure=>simp [intOf];omega
   ·have HE:Hid ((ws.any fun y=>eqS x y)=true):=zr6 hlt he;unfold eqS at he;go_wp2;go_ret;exact ⟨(k:Int),rfl,by rw [HE.out];simp,rfl⟩
  ·have HE:Hid ((ws.any fun y=>eqS x y)=false):=zw6 (fun j hj=>HN.out j hj (by omega));clear HN;go_wp2;go_ret;exact ⟨-1,rfl,by rw [HE.out];rfl,rfl⟩
theorem zs2 (x:ByteArray) (ws:List ByteArray) (g c:Nat) (hl:ws.length<=100) (hc:yE w g ws) : Calls Tryz.prog 101 #[.slice (some ⟨g,0,none⟩) ws.length c,.string x] w fun e w'=>e=.returned (.bool (ws.any fun y=>eqS x y))/\w'=w:=by
 have h:=zzz x ws g c hl hc;generalize (ws.any fun y=>eqS x y)=V at *;go_enter Tryz.func101,Tryz.ntmps101;go_wp2_with (fail);refine h.mono ?_;rintro e w1 ⟨i,rfl,hi,hw⟩;obtain rfl:=hw.symm;go_wp2;go_ret;exact ⟨by rw [<- hi];rfl,rfl⟩
end
section
variable {w w':World} {r G:Nat} {ts:List Tok} {s:St}
theorem dO (hL:Ld w r G ts s) (ws:List ByteArray) (g c:Nat) (hl:ws.length<=100) (hw:ws.all vQ=true) (hc:yE w g ws) : Calls Tryz.prog 81 #[.pointer (some ⟨r,0,none⟩),.slice (some ⟨g,0,none⟩) ws.length c] w fun e w'=>e=.returned (.bool (yP ts s ws))/\w'=w:=by
 have c29:=kc89;have hlen:=hL.len;obtain ⟨a,cp,h0,h1,h2⟩:=hL.c0;by_cases hlt:s.i<ts.length
 ·obtain rfl:=h2 hlt;rw [zur hL hlt hw];obtain ⟨y0,y1,y2⟩:=hL.tok s.i hlt;have hC:=zs2 (w:=w) (raw ts[s.i]) ws g c hl hc;generalize (ws.any fun y=>eqS (raw ts[s.i]) y)=V at *;generalize raw ts[s.i]=x at *;have hn:0<ts.length - s.i:=by omega
  have hn':ts.length - s.i<=3000:=by omega
  generalize ts.length - s.i=n at *;go_enter Tryz.func81,Tryz.ntmps81;go_wp2_with (fail);refine hC.mono ?_;rintro e w1 ⟨rfl,hw1⟩;obtain rfl:=hw1.symm;go_wp2;go_ret;exact ⟨rfl,rfl⟩
 ·rw [zjm hlt hw];have hn:ts.length - s.i=0:=by omega
  rw [hn] at h0;go_enter Tryz.func81,Tryz.ntmps81;go_wp2;go_ret;exact ⟨rfl,rfl⟩
theorem zb2 (hL:Ld w r G ts s) : Calls Tryz.prog 82 #[.pointer (some ⟨r,0,none⟩)] w fun e w'=>e=.panicked (Pan ts s)/\w'=w:=by
 have c29:=kc89;have hlen:=hL.len;obtain ⟨a,cp,h0,h1,h2⟩:=hL.c0;unfold Pan lost;by_cases hlt:s.i<ts.length
 ·obtain rfl:=h2 hlt;rw [List.getElem?_eq_getElem hlt];obtain ⟨y0,y1,y2⟩:=hL.tok s.i hlt;have hn:0<ts.length - s.i:=by omega
  have hn':ts.length - s.i<=3000:=by omega
  generalize ts.length - s.i=n at *;dsimp only;go_enter Tryz.func82,Tryz.ntmps82;go_wp2;exact ⟨rfl,rfl,rfl⟩
 ·rw [List.getElem?_eq_none (by omega)];have hn:ts.length - s.i=0:=by omega
  rw [hn] at h0;dsimp only;go_enter Tryz.func82,Tryz.ntmps82;go_wp2;exact ⟨rfl,rfl,rfl⟩
theorem zax (hL:Ld w r G ts s) (hlt:s.i<ts.length) : Calls Tryz.prog 83 #[.pointer (some ⟨r,0,none⟩)] w fun e w'=>e=.returned (.string (raw ts[s.i]))/\Ld w' r G ts s.next/\Fr r w w':=by
 have c29:=kc89;have hlen:=hL.len;obtain ⟨a,cp,h0,h1,h2⟩:=hL.c0;obtain rfl:=h2 hlt;obtain ⟨y0,y1,y2⟩:=hL.tok s.i hlt;have hf:=hL.f0;have hn:0<ts.length - s.i:=by omega
 have hn':ts.length - s.i<=3000:=by omega
 have hN:ts.length - s.next.i=ts.length - s.i - 1:=by unfold St.next;dsimp only;omega
 have key:∀ (a':Option Addr) (c':Nat),ts.length - s.i - 1<=c'->(1<ts.length - s.i->a'=some ⟨G,s.i*3+3,none⟩)->Ld (w.setCell ⟨r,0,none⟩ (.slice a' (ts.length - s.i - 1) c')) r G ts s.next:=by
  intro a' c' hc' ha';refine ⟨⟨a',c',?_,by omega,fun h=>?_⟩,by simp [hf],?_,hL.old,hL.len,hlt,hL.good,hL.ok,?_,hL.low⟩;·rw [jS _ _ _ h0,hN]
  ·rw [ha' (by unfold St.next at h;dsimp only at h;omega)];unfold St.next;simp only [jh,Addr.mk.injEq,true_and,and_true];omega
  ·intro k hk;have hG:=hL.old;rw [jD _ _ _ _ (by simp<;>omega),jD _ _ _ _ (by simp<;>omega),jD _ _ _ _ (by simp<;>omega)];exact hL.tok k hk
  ·obtain ⟨cs,t,fr,g1,g2,g3⟩:=hL.ops;have hl:=hL.low;exact ⟨cs,t,fr,by rw [jP _ _ _ _ (by simp<;>omega)];exact g1,g2,g3⟩
 have HK:Hid (∀ (a':Option Addr) (c':Nat),ts.length - s.i - 1<=c'->(1<ts.length - s.i->a'=some ⟨G,s.i*3+3,none⟩)->Ld (w.setCell ⟨r,0,none⟩ (.slice a' (ts.length - s.i - 1) c')) r G ts s.next):=key;clear key;generalize ts.length - s.i=n at *;by_cases hcp:cp=1
 ·subst hcp;have hn1:n=1:=by omega
  subst hn1;go_enter Tryz.func83,Tryz.ntmps83;go_wp2;go_ret;exact ⟨rfl,HK.out (some ⟨G,s.i*3,none⟩) 0 (by omega) (fun h=>by omega),(Fr.refl _ _).set _ _⟩
 ·go_enter Tryz.func83,Tryz.ntmps83;go_wp2;go_ret;exact ⟨rfl,HK.out _ _ (by omega) (fun h=>rfl),(Fr.refl _ _).set _ _⟩
theorem dT {ws:List ByteArray} (hw:ws.all vQ=true) (h:yP ts s ws=true):s.i<ts.length:=by
 rcases jL s.i ts.length with h1 | h1
 ·exact h1
 ·rw [zjm (by omega) hw] at h;simp at h
theorem zrs (hL:Ld w r G ts s) (ws:List ByteArray) (g c:Nat) (hl:ws.length<=100) (hw:ws.all vQ=true) (hc:yE w g ws) (h:yP ts s ws=true) : Calls Tryz.prog 62 #[.pointer (some ⟨r,0,none⟩),.slice (some ⟨g,0,none⟩) ws.length c] w fun e w'=>e=.returned (.bool true)/\Ld w' r G ts s.next/\Fr r w w':=by
 have hH:=dO hL ws g c hl hw hc;rw [h] at hH;have hN:=zax hL (dT hw h);go_enter Tryz.func62,Tryz.ntmps62;go_wp2_with (fail);refine hH.mono ?_;rintro e w1 ⟨rfl,hw1⟩;obtain rfl:=hw1.symm;go_wp2_with (fail);refine hN.mono ?_;rintro e w2 ⟨rfl,hL2,hF2⟩;go_wp2;go_ret;exact ⟨rfl,hL2,hF2⟩
theorem ztv (hL:Ld w r G ts s) (ws:List ByteArray) (g c:Nat) (hl:ws.length<=100) (hw:ws.all vQ=true) (hc:yE w g ws) (h:yP ts s ws=false) : Calls Tryz.prog 62 #[.pointer (some ⟨r,0,none⟩),.slice (some ⟨g,0,none⟩) ws.length c] w fun e w'=>e=.returned (.bool false)/\w'=w:=by
 have hH:=dO hL ws g c hl hw hc;rw [h] at hH;go_enter Tryz.func62,Tryz.ntmps62;go_wp2_with (fail);refine hH.mono ?_;rintro e w1 ⟨rfl,hw1⟩;obtain rfl:=hw1.symm;go_wp2;go_ret;exact ⟨rfl,rfl⟩
theorem zbg (hL:Ld w r G ts s) (ws:List ByteArray) (g c:Nat) (hl:ws.length<=100) (hw:ws.all vQ=true) (hc:yE w g ws) (h:yP ts s ws=true) : Calls Tryz.prog 60 #[.pointer (some ⟨r,0,none⟩),.slice (some ⟨g,0,none⟩) ws.length c] w fun e w'=>e=.returned (.string (raw (ts[s.i]'(dT hw h))))/\Ld w' r G ts s.next/\Fr r w w':=by
 have hH:=dO hL ws g c hl hw hc;rw [h] at hH;have hN:=zax hL (dT hw h);generalize raw (ts[s.i]'(dT hw h))=x at *;go_enter Tryz.func60,Tryz.ntmps60;go_wp2_with (fail);refine hH.mono ?_;rintro e w1 ⟨rfl,hw1⟩;obtain rfl:=hw1.symm;go_wp2_with (fail);refine hN.mono ?_;rintro e w2 ⟨rfl,hL2,hF2⟩;go_wp2;go_ret;exact ⟨rfl,hL2,hF2⟩
theorem zfh (hL:Ld w r G ts s) (ws:List ByteArray) (g c:Nat) (hl:ws.length<=100) (hw:ws.all vQ=true) (hc:yE w g ws) (h:yP ts s ws=false) : Calls Tryz.prog 60 #[.pointer (some ⟨r,0,none⟩),.slice (some ⟨g,0,none⟩) ws.length c] w fun e w'=>e=.panicked (Pan ts s)/\w'=w:=by
 have hH:=dO hL ws g c hl hw hc;rw [h] at hH;have hN:=zb2 hL;go_enter Tryz.func60,Tryz.ntmps60;go_wp2_with (fail);refine hH.mono ?_;rintro e w1 ⟨rfl,hw1⟩;obtain rfl:=hw1.symm;go_wp2_with (fail);refine hN.mono ?_;rintro e w2 ⟨rfl,hw2⟩;obtain rfl:=hw2.symm;go_wp2;exact ⟨rfl,rfl,rfl⟩
end
theorem eqS_comm (x y:ByteArray):eqS x y=eqS y x:=by unfold eqS;rw [Bool.eq_iff_iff];simp only [beq_iff_eq];exact eq_comm
section
variable {w w':World} {r G:Nat} {ts:List Tok} {s:St}
theorem Ld.below (h:Ld w r G ts s) (hb:Below w.heap.size w w'):Ld w' r G ts s:=h.keep (row:=none) ⟨hb.os,hb.tape,hb.output,hb.size,fun j hj _=>hb.block j hj⟩ (by simp)
theorem reserved_any (x:ByteArray):(vS.any fun y=>eqS y x)=((x.toList==[100,111])||(x.toList==[101,108,115,101])||(x.toList==[103,105,118,101,115])||(x.toList==[104,105,103,104])||(x.toList==[105,102])||(x.toList==[105,109,112,111,114,116])||(x.toList==[105,110])||(x.toList==[108,111,119])||(x.toList==[109,111,100,117,108,101])||(x.toList==[111,117,116])||(x.toList==[112,114,111,99])||(x.toList==[112,117,98])||(x.toList==[114,101,116,117,114,110])||(x.toList==[119,104,105,108,101])):=by
 have h:(vS.any fun y=>eqS y x)=(vS.any fun y=>eqS x y):=by
  rw [Bool.eq_iff_iff,List.any_eq_true,List.any_eq_true];constructor;·rintro ⟨y,h1,h2⟩;exact ⟨y,h1,by rw [eqS_comm];exact h2⟩
  ·rintro ⟨y,h1,h2⟩;exact ⟨y,h1,by rw [eqS_comm];exact h2⟩
 rw [h];unfold vS;simp only [List.any_cons,List.any_nil,Bool.or_false];rw [show eqS x ⟨#[100,111]⟩=(x.toList==[100,111]) from eqS_lit x [100,111],show eqS x ⟨#[101,108,115,101]⟩=(x.toList==[101,108,115,101]) from eqS_lit x [101,108,115,101],show eqS x ⟨#[103,105,118,101,115]⟩=(x.toList==[103,105,118,101,115]) from eqS_lit x [103,105,118,101,115],show eqS x ⟨#[104,105,103,104]⟩=(x.toList==[104,105,103,104]) from eqS_lit x [104,105,103,104],show eqS x ⟨#[105,102]⟩=(x.toList==[105,102]) from eqS_lit x [105,102],show eqS x ⟨#[105,109,112,111,114,116]⟩=(x.toList==[105,109,112,111,114,116]) from eqS_lit x [105,109,112,111,114,116],show eqS x ⟨#[105,110]⟩=(x.toList==[105,110]) from eqS_lit x [105,110],show eqS x ⟨#[108,111,119]⟩=(x.toList==[108,111,119]) from eqS_lit x [108,111,119],show eqS x ⟨#[109,111,100,117,108,101]⟩=(x.toList==[109,111,100,117,108,101]) from eqS_lit x [109,111,100,117,108,101],show eqS x ⟨#[111,117,116]⟩=(x.toList==[111,117,116]) from eqS_lit x [111,117,116],show eqS x ⟨#[112,114,111,99]⟩=(x.toList==[112,114,111,99]) from eqS_lit x [112,114,111,99],show eqS x ⟨#[112,117,98]⟩=(x.toList==[112,117,98]) from eqS_lit x [112,117,98],show eqS x ⟨#[114,101,116,117,114,110]⟩=(x.toList==[114,101,116,117,114,110]) from eqS_lit x [114,101,116,117,114,110],show eqS x ⟨#[119,104,105,108,101]⟩=(x.toList==[119,104,105,108,101]) from eqS_lit x [119,104,105,108,101]];simp only [Bool.or_assoc]
theorem oisName (k a:Int) (x:ByteArray) (w:World) : Calls Tryz.prog 28 #[.agg #[.int .i64 k,.string x,.int .i64 a]] w fun e w'=>e=.returned (.bool (!(vS.any fun y=>eqS y x)&&k==1))/\Below w.heap.size w w':=by
 have c29:=kc89;rw [reserved_any];cases h0:(x.toList==[100,111])
 case true =>
  simp only [Bool.true_or,Bool.or_true,Bool.false_or,Bool.not_true,Bool.false_and];go_enter Tryz.func28,Tryz.ntmps28;go_wp2;go_ret;exact ⟨rfl,bal _⟩
 cases h1:(x.toList==[101,108,115,101])
 case true =>
  simp only [Bool.true_or,Bool.or_true,Bool.false_or,Bool.not_true,Bool.false_and];go_enter Tryz.func28,Tryz.ntmps28;go_wp2;go_ret;exact ⟨rfl,bal _⟩
 cases h2:(x.toList==[103,105,118,101,115])
 case true =>
  simp only [Bool.true_or,Bool.or_true,Bool.false_or,Bool.not_true,Bool.false_and];go_enter Tryz.func28,Tryz.ntmps28;go_wp2;go_ret;exact ⟨rfl,bal _⟩
 cases h3:(x.toList==[104,105,103,104])
 case true =>
  simp only [Bool.true_or,Bool.or_true,Bool.false_or,Bool.not_true,Bool.false_and];go_enter Tryz.func28,Tryz.ntmps28;go_wp2;go_ret;exact ⟨rfl,bal _⟩
 cases h4:(x.toList==[105,102])
 case true =>
  simp only [Bool.true_or,Bool.or_true,Bool.false_or,Bool.not_true,Bool.false_and];go_enter Tryz.func28,Tryz.ntmps28;go_wp2;go_ret;exact ⟨rfl,bal _⟩
 cases h5:(x.toList==[105,109,112,111,114,116])
 case true =>
  simp only [Bool.true_or,Bool.or_true,Bool.false_or,Bool.not_true,Bool.false_and];go_enter Tryz.func28,Tryz.ntmps28;go_wp2;go_ret;exact ⟨rfl,bal _⟩
 cases h6:(x.toList==[105,110])
 case true =>
  simp only [Bool.true_or,Bool.or_true,Bool.false_or,Bool.not_true,Bool.false_and];go_enter Tryz.func28,Tryz.ntmps28;go_wp2;go_ret;exact ⟨rfl,bal _⟩
 cases h7:(x.toList==[108,111,119])
 case true =>
  simp only [Bool.true_or,Bool.or_true,Bool.false_or,Bool.not_true,Bool.false_and];go_enter Tryz.func28,Tryz.ntmps28;go_wp2;go_ret;exact ⟨rfl,bal _⟩
 cases h8:(x.toList==[109,111,100,117,108,101])
 case true =>
  simp only [Bool.true_or,Bool.or_true,Bool.false_or,Bool.not_true,Bool.false_and];go_enter Tryz.func28,Tryz.ntmps28;go_wp2;go_ret;exact ⟨rfl,bal _⟩
 cases h9:(x.toList==[111,117,116])
 case true =>
  simp only [Bool.true_or,Bool.or_true,Bool.false_or,Bool.not_true,Bool.false_and];go_enter Tryz.func28,Tryz.ntmps28;go_wp2;go_ret;exact ⟨rfl,bal _⟩
 cases h10:(x.toList==[112,114,111,99])
 case true =>
  simp only [Bool.true_or,Bool.or_true,Bool.false_or,Bool.not_true,Bool.false_and];go_enter Tryz.func28,Tryz.ntmps28;go_wp2;go_ret;exact ⟨rfl,bal _⟩
 cases h11:(x.toList==[112,117,98])
 case true =>
  simp only [Bool.true_or,Bool.or_true,Bool.false_or,Bool.not_true,Bool.false_and];go_enter Tryz.func28,Tryz.ntmps28;go_wp2;go_ret;exact ⟨rfl,bal _⟩
 cases h12:(x.toList==[114,101,116,117,114,110])
 case true =>
  simp only [Bool.true_or,Bool.or_true,Bool.false_or,Bool.not_true,Bool.false_and];go_enter Tryz.func28,Tryz.ntmps28;go_wp2;go_ret;exact ⟨rfl,bal _⟩
 cases h13:(x.toList==[119,104,105,108,101])
 case true =>
  simp only [Bool.true_or,Bool.or_true,Bool.false_or,Bool.not_true,Bool.false_and];go_enter Tryz.func28,Tryz.ntmps28;go_wp2;go_ret;exact ⟨rfl,bal _⟩
 simp only [Bool.or_false,Bool.not_false,Bool.true_and];go_enter Tryz.func28,Tryz.ntmps28;go_wp2;go_ret;exact ⟨rfl,bal _⟩
def dP (w:World) (r G:Nat) (ts:List Tok) (v:Value) (s':St) (e:Ending) (w':World):Prop :=
 (s'.bad=true/\e=.panicked (Pan ts s')/\Fr r w w')\/(s'.bad=false/\e=.returned v/\Ld w' r G ts s'/\Fr r w w')
theorem dG (hlt:s.i<ts.length):ts[s.i]?=some ts[s.i]:=List.getElem?_eq_getElem hlt
theorem fR (hL:Ld w r G ts s):Calls Tryz.prog 61 #[.pointer (some ⟨r,0,none⟩)] w (dP w r G ts (.string (name ts s).1) (name ts s).2):=by
 have c29:=kc89;have hlen:=hL.len;have hr:=hL.lt;obtain ⟨a,cp,h0,h1,h2⟩:=hL.c0;unfold name;by_cases hlt:s.i<ts.length
 ·obtain rfl:=h2 hlt;obtain ⟨y0,y1,y2⟩:=hL.tok s.i hlt;have hn:0<ts.length - s.i:=by omega
  have hn':ts.length - s.i<=3000:=by omega
  have hI:=fun w=>oisName ts[s.i].kind (ts[s.i].at_:Int) (raw ts[s.i]) w
  have hNR:=ztl (hL.good _ (jH hlt)) hL.ok (dG hlt);rw [hNR]
  have hX:ownName ts[s.i]=true->txt ts s=raw ts[s.i]:=by
   intro h;unfold ownName at h;simp only [jj,beq_iff_eq] at h;unfold txt;rw [zal hL.ok,dG hlt];simp only;rw [h.2,ju (by decide)];rfl
  have hI2:∀ w:World,Calls Tryz.prog 28 #[.agg #[.int .i64 ts[s.i].kind,.string (raw ts[s.i]),.int .i64 (ts[s.i].at_:Int)]] w fun e w'=>e=.returned (.bool (ownName ts[s.i]))/\Below w.heap.size w w':=hI
  clear hI hNR;cases hO:ownName ts[s.i]
  ·rw [hO] at hI2;simp only [jr,if_false];have hg:∀ w',Fr r w w'->Ld w' r G ts s->Calls Tryz.prog 82 #[.pointer (some ⟨r,0,none⟩)] w' fun e w''=>e=.panicked (Pan ts s)/\w''=w':=fun w' _ h=>zb2 h
   have HL:Hid (Ld w r G ts s):=hL;clear hX hL;generalize ts[s.i].kind=tk at *;generalize raw ts[s.i]=tx at *;generalize ts[s.i].at_=ta at *;generalize ts.length - s.i=n at *;go_enter Tryz.func61,Tryz.ntmps61;go_wp2_with (fail);refine (hI2 _).mono ?_;rintro e w1 ⟨rfl,hb1⟩;have hF1:Fr r w w1:=Fr.below hb1;have hL1:Ld w1 r G ts s:=HL.out.below hb1;go_wp2_with (fail);refine (hg _ hF1 hL1).mono ?_;rintro e w2 ⟨rfl,hw2⟩;obtain rfl:=hw2.symm;go_wp2;exact ⟨rfl,.inl ⟨rfl,rfl,hF1⟩⟩
  ·rw [hO] at hI2;simp only [if_true];rw [hX hO];have hg:∀ w',Ld w' r G ts s->Calls Tryz.prog 83 #[.pointer (some ⟨r,0,none⟩)] w' fun e w''=>e=.returned (.string (raw ts[s.i]))/\Ld w'' r G ts s.next/\Fr r w' w'':=fun w' h=>zax h hlt
   have HL:Hid (Ld w r G ts s):=hL;have hok:s.next.bad=false:=hL.ok;clear hX hL;generalize ts[s.i].kind=tk at *;generalize raw ts[s.i]=tx at *;generalize ts[s.i].at_=ta at *;generalize ts.length - s.i=n at *;go_enter Tryz.func61,Tryz.ntmps61;go_wp2_with (fail);refine (hI2 _).mono ?_;rintro e w1 ⟨rfl,hb1⟩;have hF1:Fr r w w1:=Fr.below hb1;have hL1:Ld w1 r G ts s:=HL.out.below hb1;go_wp2_with (fail);refine (hg _ hL1).mono ?_;rintro e w2 ⟨rfl,hL2,hF2⟩;go_wp2;go_ret;exact .inr ⟨hok,rfl,hL2,hF1.trans hF2⟩
 ·have hn:ts.length - s.i=0:=by omega
  rw [hn] at h0;rw [zrq (List.getElem?_eq_none (by omega))];simp only [jr,if_false];have hg:=zb2 hL;go_enter Tryz.func61,Tryz.ntmps61;go_wp2_with (fail);refine hg.mono ?_;rintro e w2 ⟨rfl,hw2⟩;obtain rfl:=hw2.symm;go_wp2;exact ⟨rfl,.inl ⟨rfl,rfl,Fr.refl _ _⟩⟩
end
end Go.Proofs.YtaadmdlbkhcfnaaGreatDoor.syn
