/- What the program's enclosed and place answer, once expr does: contracts. -/
import Derived.Test.YtbjppepjmcfkaaaGreatDoorTQr
import Derived.Shelf.Strconv.ErrVarParseInt
import Derived.WalkLawsBesides
import Derived.Test.YtbjppepjmcfkaaaGreatDoorTQ00
import Derived.BigQuiet
import Derived.Lib.Bytealg
import Derived.Deep.LoopGhost
set_option maxHeartbeats 4000000
set_option linter.unusedVariables false
set_option maxRecDepth 100000
set_option linter.unusedSimpArgs false
namespace Go.Proofs.YtbjppepjmcfkaaaGreatDoor
theorem zco {a:Prop} (c:a:=by
 rw[h];exact e):a:=c
theorem zq1 {m:Prop} (b:m:=by
 go_wp2_with (fail);refine h.mono ?_;rintro f q ⟨rfl,p⟩;obtain rfl:=p.symm;go_wp2_with (fail);refine l.mono ?_;rintro f t ⟨rfl,o,n⟩;go_wp2;go_ret
 exact⟨rfl,o,n⟩):m:=b
theorem uF {c:Prop} (f:c:=by
 simp only[Bool.true_or,Bool.or_true,Bool.false_or,Bool.not_true,Bool.false_and];go_enter Tryz.func69,Tryz.ntmps69;go_wp2;go_ret
 exact⟨rfl,bal _⟩):c:=f
theorem zqz {g:Prop} (k:g:=by
 have p:s.next.bad=false:=b.ok;generalize raw (ts[s.i]'c)=v at *;go_enter Tryz.func155,Tryz.ntmps155;go_wp2_with (fail);refine(h _ rfl).mono ?_;rintro m u ⟨rfl,o,n⟩;go_wp2;go_ret
 exact .inr ⟨p,rfl,o,(Fr.al _ _).trans n⟩):g:=k
theorem zoj {g:Prop} (k:g:=by
 rw[<- eqS_lit,<- zev (b.good _ (jH c)) b.ok (cK c) oD]
 exact l):g:=k
theorem zog {n:Prop} (p:n:=by
 go_enter Tryz.func156,Tryz.ntmps156;go_wp2_with (fail);refine l.mono ?_;rintro f o ⟨rfl,K⟩;obtain rfl:=K.symm;go_wp2
 exact⟨rfl,.inl ⟨rfl,rfl,Fr.al _ _⟩⟩):n:=p
theorem zok {a2:Prop} (af:a2:=by
 exact⟨rfl,kG.lost (kY oD n) n (((Fr.al _ _).trans a).trans b)⟩):a2:=af
theorem zoi {c:Prop} (d:c:=by
 go_wp2
 all_goals
  go_ret
  exact⟨zd6 (by first | rfl | (rw[Bool.eq_iff_iff];simp<;>omega) | (simp_all)),rfl⟩):c:=d
theorem zq0 {q:Prop} (h:q:=by
 go_round
 case rel=>exact⟨a+1,oA,oA,oM,fun b h k p=>by
  rcases jM b a with l | l
  ·exact i.out b h k l
  ·have:b=a:=oA;subst this
   exact g⟩
 case measure=>simp[intOf];omega):q:=h
theorem zee {q:Prop} (h:q:=by
 go_ret
 exact⟨a,rfl,⟨m,n,i.out,.inl oA⟩,rfl⟩):q:=h
theorem zof {i:Prop} (f:i:=by
 go_wp2_with (go_at_call 149;refine(ztf a q m.out (zh5 k) o.out _ x).mono ?_;rintro j z ⟨G,C,B,rfl,p⟩);go_ret
 exact⟨zer n.out.symm,p⟩):i:=f
theorem zoh {i:Prop} (f:i:=by
 go_wp2_with (go_at_call 149;refine(parse_ok a q m.out (zh5 k) o.out _).mono ?_;rintro j z ⟨rfl,p⟩);go_ret
 exact⟨zer n.out.symm,p⟩):i:=f
end Go.Proofs.YtbjppepjmcfkaaaGreatDoor
namespace Go.Proofs
open Go.Shelf
def Tryz.laysPI_ren : Go.Shelf.Ren := ⟨fun | 174 => 149 | 247 => 174 | 245 => 175 | 287 => 191 | 279 => 192 | 280 => 193 | 281 => 194 | 282 => 195 | 321 => 209 | 322 => 210 | 316 => 121 | 171 => 212 | 205 => 211 | 243 => 226 | 246 => 231 | 283 => 235 | 284 => 236 | 285 => 237 | 286 => 238 | 129 => 241 | 317 => 240 | 318 => 242 | 319 => 243 | 320 => 244 | 337 => 246 | 338 => 247 | n => n, fun | 9 => 9 | 3 => 3 | 2 => 2 | 75 => 207 | 85 => 208 | 4 => 4 | 167 => 238 | 5 => 5 | 53 => 239 | 175 => 240 | 46 => 242 | 168 => 243 | 37 => 210 | 0 => 0 | 210 => 257 | 21 => 21 | 127 => 211 | 145 => 274 | 143 => 272 | 171 => 280 | 173 => 283 | 212 => 289 | 51 => 269 | 20 => 20 | 213 => 290 | 232 => 293 | 233 => 294 | 80 => 107 | n => n, fun | 15 => 1 | 16 => 2 | 17 => 4 | 18 => 5 | 19 => 6 | n => n⟩
theorem Tryz.laysPI : Go.Proofs.LaysC.n174 Tryz.prog Tryz.laysPI_ren := {
  mixed := by kernel_rfl
  f129 := Tryz.func241.trans (congrArg some (by kernel_rfl))
  f171 := Tryz.func212.trans (congrArg some (by kernel_rfl))
  f174 := Tryz.func149.trans (congrArg some (by kernel_rfl))
  f205 := Tryz.func211.trans (congrArg some (by kernel_rfl))
  f243 := Tryz.func226.trans (congrArg some (by kernel_rfl))
  f245 := Tryz.func175.trans (congrArg some (by kernel_rfl))
  f246 := Tryz.func231.trans (congrArg some (by kernel_rfl))
  f247 := Tryz.func174.trans (congrArg some (by kernel_rfl))
  f279 := Tryz.func192.trans (congrArg some (by kernel_rfl))
  f280 := Tryz.func193.trans (congrArg some (by kernel_rfl))
  f281 := Tryz.func194.trans (congrArg some (by kernel_rfl))
  f282 := Tryz.func195.trans (congrArg some (by kernel_rfl))
  f283 := Tryz.func235.trans (congrArg some (by kernel_rfl))
  f284 := Tryz.func236.trans (congrArg some (by kernel_rfl))
  f285 := Tryz.func237.trans (congrArg some (by kernel_rfl))
  f286 := Tryz.func238.trans (congrArg some (by kernel_rfl))
  f287 := Tryz.func191.trans (congrArg some (by kernel_rfl))
  f316 := Tryz.func121.trans (congrArg some (by kernel_rfl))
  f317 := Tryz.func240.trans (congrArg some (by kernel_rfl))
  f318 := Tryz.func242.trans (congrArg some (by kernel_rfl))
  f319 := Tryz.func243.trans (congrArg some (by kernel_rfl))
  f320 := Tryz.func244.trans (congrArg some (by kernel_rfl))
  f321 := Tryz.func209.trans (congrArg some (by kernel_rfl))
  f322 := Tryz.func210.trans (congrArg some (by kernel_rfl))
  f337 := Tryz.func246.trans (congrArg some (by kernel_rfl))
  f338 := Tryz.func247.trans (congrArg some (by kernel_rfl))
  t0 := Tryz.underlying0
  a0 := Tryz.isAgg0
  z0 := Tryz.sizeOf0
  v0 := Tryz.zeroValue0
  t2 := Tryz.underlying2
  a2 := Tryz.isAgg2
  z2 := Tryz.sizeOf2
  v2 := Tryz.zeroValue2
  t3 := Tryz.underlying3
  a3 := Tryz.isAgg3
  z3 := Tryz.sizeOf3
  v3 := Tryz.zeroValue3
  t4 := Tryz.underlying4
  a4 := Tryz.isAgg4
  z4 := Tryz.sizeOf4
  v4 := Tryz.zeroValue4
  t5 := Tryz.underlying5
  a5 := Tryz.isAgg5
  z5 := Tryz.sizeOf5
  v5 := Tryz.zeroValue5
  t9 := Tryz.underlying9
  a9 := Tryz.isAgg9
  z9 := Tryz.sizeOf9
  v9 := Tryz.zeroValue9
  t20 := Tryz.underlying20
  a20 := Tryz.isAgg20
  z20 := Tryz.sizeOf20
  v20 := Tryz.zeroValue20
  t21 := Tryz.underlying21
  a21 := Tryz.isAgg21
  z21 := Tryz.sizeOf21
  v21 := Tryz.zeroValue21
  t37 := Tryz.underlying210
  a37 := Tryz.isAgg210
  z37 := Tryz.sizeOf210
  v37 := Tryz.zeroValue210
  t46 := Tryz.underlying242
  a46 := Tryz.isAgg242
  z46 := Tryz.sizeOf242
  v46 := Tryz.zeroValue242
  t51 := Tryz.underlying269
  a51 := Tryz.isAgg269
  z51 := Tryz.sizeOf269
  v51 := Tryz.zeroValue269
  t53 := Tryz.underlying239
  a53 := Tryz.isAgg239
  z53 := Tryz.sizeOf239
  v53 := Tryz.zeroValue239
  t75 := Tryz.underlying207
  a75 := Tryz.isAgg207
  z75 := Tryz.sizeOf207
  v75 := Tryz.zeroValue207
  t85 := Tryz.underlying208
  a85 := Tryz.isAgg208
  z85 := Tryz.sizeOf208
  v85 := Tryz.zeroValue208
  t127 := Tryz.underlying211
  a127 := Tryz.isAgg211
  z127 := Tryz.sizeOf211
  v127 := Tryz.zeroValue211
  t143 := Tryz.underlying272
  a143 := Tryz.isAgg272
  z143 := Tryz.sizeOf272
  v143 := Tryz.zeroValue272
  t145 := Tryz.underlying274
  a145 := Tryz.isAgg274
  z145 := Tryz.sizeOf274
  v145 := Tryz.zeroValue274
  t167 := Tryz.underlying238
  a167 := Tryz.isAgg238
  z167 := Tryz.sizeOf238
  v167 := Tryz.zeroValue238
  t168 := Tryz.underlying243
  a168 := Tryz.isAgg243
  z168 := Tryz.sizeOf243
  v168 := Tryz.zeroValue243
  t171 := Tryz.underlying280
  a171 := Tryz.isAgg280
  z171 := Tryz.sizeOf280
  v171 := Tryz.zeroValue280
  t173 := Tryz.underlying283
  a173 := Tryz.isAgg283
  z173 := Tryz.sizeOf283
  v173 := Tryz.zeroValue283
  t175 := Tryz.underlying240
  a175 := Tryz.isAgg240
  z175 := Tryz.sizeOf240
  v175 := Tryz.zeroValue240
  t210 := Tryz.underlying257
  a210 := Tryz.isAgg257
  z210 := Tryz.sizeOf257
  v210 := Tryz.zeroValue257
  t212 := Tryz.underlying289
  a212 := Tryz.isAgg289
  z212 := Tryz.sizeOf289
  v212 := Tryz.zeroValue289
  t213 := Tryz.underlying290
  a213 := Tryz.isAgg290
  z213 := Tryz.sizeOf290
  t232 := Tryz.underlying293
  a232 := Tryz.isAgg293
  z232 := Tryz.sizeOf293
  v232 := Tryz.zeroValue293
  t233 := Tryz.underlying294
  a233 := Tryz.isAgg294
  z233 := Tryz.sizeOf294
  v233 := Tryz.zeroValue294
  g15 := by kernel_rfl
  g16 := by kernel_rfl
  g17 := by kernel_rfl
  g18 := by kernel_rfl
  g19 := by kernel_rfl
  t80 := Tryz.underlying107
  a80 := Tryz.isAgg107
  z80 := Tryz.sizeOf107
  v80 := Tryz.zeroValue107
  i0 := by kernel_rfl
  i2 := by kernel_rfl
  i3 := by kernel_rfl
  i4 := by kernel_rfl
  i5 := by kernel_rfl
  i9 := by kernel_rfl
  i20 := by kernel_rfl
  i21 := by kernel_rfl
  i37 := by kernel_rfl
  i46 := by kernel_rfl
  i51 := by kernel_rfl
  i53 := by kernel_rfl
  i75 := by kernel_rfl
  i80 := by kernel_rfl
  i85 := by kernel_rfl
  i127 := by kernel_rfl
  i143 := by kernel_rfl
  i145 := by kernel_rfl
  i167 := by kernel_rfl
  i168 := by kernel_rfl
  i171 := by kernel_rfl
  i173 := by kernel_rfl
  i175 := by kernel_rfl
  i210 := by kernel_rfl
  i212 := by kernel_rfl
  i232 := by kernel_rfl
  i233 := by kernel_rfl
  m15 := by kernel_rfl
  m16 := by kernel_rfl
  m17 := by kernel_rfl
  m18 := by kernel_rfl
  m19 := by kernel_rfl
  c0 := by kernel_rfl
  c2 := by kernel_rfl
  c3 := by kernel_rfl
  c4 := by kernel_rfl
  c5 := by kernel_rfl
  c9 := by kernel_rfl
  c20 := by kernel_rfl
  c21 := by kernel_rfl
  c37 := by kernel_rfl
  c46 := by kernel_rfl
  c51 := by kernel_rfl
  c53 := by kernel_rfl
  c75 := by kernel_rfl
  c80 := by kernel_rfl
  c85 := by kernel_rfl
  c127 := by kernel_rfl
  c143 := by kernel_rfl
  c145 := by kernel_rfl
  c167 := by kernel_rfl
  c168 := by kernel_rfl
  c171 := by kernel_rfl
  c173 := by kernel_rfl
  c175 := by kernel_rfl
  c210 := by kernel_rfl
  c212 := by kernel_rfl
  c213 := by kernel_rfl
  c232 := by kernel_rfl
  c233 := by kernel_rfl }
def Tryz.laysClone_ren : Go.Shelf.Ren := ⟨fun | 316 => 121 | n => n, fun | 9 => 9 | 3 => 3 | 4 => 4 | 37 => 210 | 0 => 0 | 127 => 211 | 5 => 5 | n => n, fun | n => n⟩
theorem Tryz.laysClone : Go.Proofs.LaysM.n316 Tryz.prog Tryz.laysClone_ren := {
  mixed := by kernel_rfl
  f316 := Tryz.func121.trans (congrArg some (by kernel_rfl))
  t0 := Tryz.underlying0
  a0 := Tryz.isAgg0
  z0 := Tryz.sizeOf0
  v0 := Tryz.zeroValue0
  t3 := Tryz.underlying3
  a3 := Tryz.isAgg3
  z3 := Tryz.sizeOf3
  v3 := Tryz.zeroValue3
  t4 := Tryz.underlying4
  a4 := Tryz.isAgg4
  z4 := Tryz.sizeOf4
  v4 := Tryz.zeroValue4
  t9 := Tryz.underlying9
  a9 := Tryz.isAgg9
  z9 := Tryz.sizeOf9
  v9 := Tryz.zeroValue9
  t37 := Tryz.underlying210
  a37 := Tryz.isAgg210
  z37 := Tryz.sizeOf210
  v37 := Tryz.zeroValue210
  t127 := Tryz.underlying211
  a127 := Tryz.isAgg211
  z127 := Tryz.sizeOf211
  v127 := Tryz.zeroValue211
  t5 := Tryz.underlying5
  a5 := Tryz.isAgg5
  z5 := Tryz.sizeOf5
  v5 := Tryz.zeroValue5
  i0 := by kernel_rfl
  i3 := by kernel_rfl
  i4 := by kernel_rfl
  i5 := by kernel_rfl
  i9 := by kernel_rfl
  i37 := by kernel_rfl
  i127 := by kernel_rfl }
end Go.Proofs
namespace Go.Proofs.YtbjppepjmcfkaaaGreatDoor.lexs
open Go.RowKit
variable {a b d m:Nat} {o:List Value} {t:Obj}
theorem zd6 {a b:Bool} (c:a=b):Ending.returned (.bool a)=.returned (.bool b):=by rw[c]
theorem zer {a b:Int} (c:a=b):Ending.returned (.int .i64 a)=.returned (.int .i64 b):=by rw[c]
/-! ### numeral's ways -/
theorem zr5 (s:ByteArray) (a:Nat) (b:a<s.size):s.data.toList[a]'(by simpa using b)=s[a]:=rfl
theorem ydr (s:ByteArray):s.data.toList.length=s.size:=oC
theorem zzt (s:ByteArray) (a:Nat) (b:a<s.size) (c:yJ (s[a].toNat:Int)=false):2=zC s.data.toList:=by
 have:s.data.toList.all qU=false:=by
  rw[List.all_eq_false];exact⟨s[a],by rw[<- zr5 s a b];exact jH _,by unfold qU;simp[c]⟩
 unfold zC;rw[jv this]
theorem zrn (s:ByteArray) (b:0<s.size):s.data.toList.headD 0=s[0]:=by
 rw[<- zr5 s 0 b];have:s.data.toList≠[]:=by intro a;have:=ydr s;rw[a]at this;simp at this;omega
 obtain⟨c,r,a⟩:=List.exists_cons_of_ne_nil this;simp only[a,List.headD_cons,jI]
theorem zyp (c:TypeId) (d:Tryz.prog.underlying c=some .string) (s:ByteArray) (a b:Nat) (e:a+b<=s.size) (w:World) : (Instr.slice c (.string s) (some (.int .i64 (a:Int))) (some (.int .i64 ((a:Int)+(b:Int)))) none).run Tryz.prog w=.ok (.string (s.extract a (a+b))) w:=by
 have:=run_slice_string (P:=Tryz.prog) (w:=w) c s .i64 .i64 (a:Int) ((a:Int)+(b:Int)) d oA oA oA;rw[this];simp only[Int.toNat_natCast]
 congr 4
theorem ya3:(Tryz.prog.info? 110).map (fun a=>(a.zero,a.size,a.bytes))=some (some (.agg #[.int .i64 0,.string ⟨#[]⟩,.int .i64 0]),3,32):=oB
theorem boxes {w wr:World} {b c:Value} {d:TypeId} (a:Below (w.heap.size+1) (w.alloc (.cells #[b,c] d)) wr) : wr.cell? ⟨w.heap.size,0,none⟩=some b/\wr.cell? ⟨w.heap.size,1,none⟩=some c/\wr.frozen? ⟨w.heap.size,0,none⟩=false/\wr.frozen? ⟨w.heap.size,1,none⟩=false/\w.heap.size+1<=wr.heap.size:=by
 refine⟨?_,?_,?_,?_,?_⟩;·rw[a.cell (p:=⟨w.heap.size,0,none⟩) oC];simp
 ·rw[a.cell (p:=⟨w.heap.size,1,none⟩) oC];simp
 ·rw[a.frozen (p:=⟨w.heap.size,0,none⟩) oC];simp
 ·rw[a.frozen (p:=⟨w.heap.size,1,none⟩) oC];simp
 ·have:=a.size;simpa using this
theorem zsh (w:World) (d e f:Value) (i:TypeId) (g:Nat) (h:g=w.heap.size):∀b c,[d,e,f][b]?=some c->(w.alloc (.cells #[d,e,f] i)).cell? ((⟨g,0,none⟩:Addr).add b)=some c:=by
 subst h;intro b c a
 match b,a with
 | 0,a=>simp at a;subst a;simp[Addr.add]
 | 1,a=>simp at a;subst a;simp[Addr.add]
 | 2,a=>simp at a;subst a;simp[Addr.add]
theorem zwa (c d:Int) (e:ByteArray):∀b∈[Value.int .i64 c,.string e,.int .i64 d],b.oneCell'=true:=by
 intro b a;simp at a;rcases a with rfl | rfl | rfl<;>rfl
theorem yak {e c f:World} {g:TypeId} {v:Value} (i:Below (a+1) e c) (h:a+1<=c.heap.size) (l:c.ownsRow (a+1) g b v d o) (j:c.grownBy f v.ownBlock):Below (a+1) e f :=
 i.grown j h fun m k=>(l.lt _ k).1
theorem zfx {w wr:World} (a:Below (w.heap.size+1) (w.alloc t) wr):Below w.heap.size w wr :=
 (bal t).trans (a.mono oA)
theorem ownsRow_le {w:World} {b c size e:Nat} {d:TypeId} {v:Value} (i:w.ownsRow b d size v e o) (m:c<=b):w.ownsRow c d size v e o:=by
 obtain⟨j,a⟩:=i;refine⟨j,?_⟩;rcases a with a | ⟨h,f,g,l,n,k,r⟩
 ·exact Or.inl a
 ·exact Or.inr ⟨h,f,g,l,oA,k,r⟩
theorem yab {w:World} {f:TypeId} {v:Value} {c:List Tok} {s:ByteArray} {e:Int} (g:w.ownsRow a f 3 v (c.length+1) (cellsOf c++[.int .i64 e,.string (s.extract b (b+d)),.int .i64 (b:Int)])) : w.ownsRow a f 3 v (c++[(⟨e,(s.data.toList.drop b).take d,b⟩:Tok)]).length (cellsOf (c++[⟨e,(s.data.toList.drop b).take d,b⟩])):=by
 rw[zss,<- ztt,jb];exact g
theorem zy8 {s:ByteArray} (d:a<s.size) (c:yJ (s[a].toNat:Int)=true) (e:run qD (s.data.toList.drop a)=b):0<b:=by
 rw[<- e,drop_cons s a d];exact zcs _ _ _ (zf4 c)
theorem own_below {e:TypeId} {v:Value} {w w':World} (f:w.ownsRow a e b v d o) (c:Below w.heap.size w w'):w'.ownsRow a e b v d o :=
 f.kept (row:=none) ⟨c.os,c.tape,c.output,c.size,fun h g _=>c.block h g⟩ (by cases i:v.ownBlock<;>simp)
theorem cG (a:Int) (w:World) : Calls Tryz.prog 115 #[.int .u8 a] w fun b w'=>b=.returned (.bool (qV a))/\w'=w:=by
 go_enter Tryz.func115,Tryz.ntmps115;go_wp2
 all_goals
  go_ret;exact⟨zd6 (by rw[Bool.eq_iff_iff];simp[qV]<;>omega),rfl⟩
theorem dK (a:Int) (w:World) : Calls Tryz.prog 116 #[.int .u8 a] w fun b w'=>b=.returned (.bool (yJ a))/\w'=w:=by
 go_enter Tryz.func116,Tryz.ntmps116;go_wp2
 all_goals
  go_ret;exact⟨zd6 (by rw[Bool.eq_iff_iff];simp[yJ]<;>omega),rfl⟩
theorem zh8 (a:Int) (w:World) : Calls Tryz.prog 113 #[.int .u8 a] w fun b w'=>b=.returned (.bool (a==32||a==10))/\w'=w:=by
 go_enter Tryz.func113,Tryz.ntmps113;exact zoi
theorem zh9 (a:Int) (w:World) : Calls Tryz.prog 114 #[.int .u8 a] w fun b w'=>b=.returned (.bool (a != 10))/\w'=w:=by
 go_enter Tryz.func114,Tryz.ntmps114;exact zoi
theorem zgq (a:Int) (w:World) : Calls Tryz.prog 117 #[.int .u8 a] w fun b w'=>b=.returned (.bool (uZ a))/\w'=w:=by
 cases c:qV a<;>cases d:yJ a
 all_goals
  go_enter Tryz.func117,Tryz.ntmps117;go_wp2_with (first | (go_at_call 115;refine(cG _ _).mono ?_;rintro b w' ⟨rfl,rfl⟩) | (go_at_call 116;refine(dK _ _).mono ?_;rintro b w' ⟨rfl,rfl⟩));go_ret;exact⟨zd6 (by unfold uZ;rw[c,d];simp),rfl⟩
structure Stops (P:UInt8->Bool) (s:ByteArray) (i j:Nat):Prop where
 le:i<=j
 top:j<=s.size
 all:∀k (h:k<s.size),i<=k->k<j->P s[k]=true
 stop:j=s.size\/∃h:j<s.size,P s[j]=false
theorem Stops.run {d:UInt8->Bool} {s:ByteArray} (c:Stops d s a b):run d (s.data.toList.drop a)=b - a:=by
 have e:a+(b - a)=b:=by have:=c.le;omega
 exact yb7 d s a (b - a) (by have:=c.top;omega) (fun h g f i=>c.all h g f oA) (by simp only[e];exact c.stop)
set_option maxRecDepth 100000 in
theorem zth (s:ByteArray) (c:Nat) (r:s.size<=3000) (hi:c<=s.size) (w:World) : Calls Tryz.prog 74 #[.string s,.int .i64 c,.func (.func 116) #[] #[]] w fun e w'=>∃a:Nat,e=.returned (.int .i64 a)/\Stops qU s c a/\w'=w:=by
 go_enter Tryz.func74,Tryz.ntmps74;go_wp2;go_loop [1] (fun f=>∃a:Nat,c<=a/\a<=s.size/\f=.int .i64 a/\Hid (∀b (h:b<s.size),c<=b->b<a->qU s[b]=true)) (fun f=>s.size - (intOf f).toNat)
 case atStart=>exact⟨c,oA,hi,rfl,fun b _ k p=>oA⟩
 case round =>
  obtain⟨a,m,n,rfl,i⟩:=hrel;by_cases o:a<s.size
  ·cases g:yJ (s[a].toNat:Int);·go_wp2_with (go_at_call 116;refine(dK _ _).mono ?_;rintro e w' ⟨rfl,d⟩;obtain rfl:=d.symm);go_ret;exact⟨a,rfl,⟨m,n,i.out,.inr ⟨o,by exact g⟩⟩,rfl⟩
   ·go_wp2_with (go_at_call 116;refine(dK _ _).mono ?_;rintro e w' ⟨rfl,d⟩;obtain rfl:=d.symm);exact zq0
  ·go_wp2_with (go_at_call 116;refine(dK _ _).mono ?_;rintro e w' ⟨rfl,d⟩;obtain rfl:=d.symm);exact zee
set_option maxRecDepth 100000 in
theorem zsy (s:ByteArray) (c:Nat) (r:s.size<=3000) (hi:c<=s.size) (w:World) : Calls Tryz.prog 74 #[.string s,.int .i64 c,.func (.func 117) #[] #[]] w fun e w'=>∃a:Nat,e=.returned (.int .i64 a)/\Stops qD s c a/\w'=w:=by
 go_enter Tryz.func74,Tryz.ntmps74;go_wp2;go_loop [1] (fun f=>∃a:Nat,c<=a/\a<=s.size/\f=.int .i64 a/\Hid (∀b (h:b<s.size),c<=b->b<a->qD s[b]=true)) (fun f=>s.size - (intOf f).toNat)
 case atStart=>exact⟨c,oA,hi,rfl,fun b _ k p=>oA⟩
 case round =>
  obtain⟨a,m,n,rfl,i⟩:=hrel;by_cases o:a<s.size
  ·cases g:uZ (s[a].toNat:Int);·go_wp2_with (go_at_call 117;refine(zgq _ _).mono ?_;rintro e w' ⟨rfl,d⟩;obtain rfl:=d.symm);go_ret;exact⟨a,rfl,⟨m,n,i.out,.inr ⟨o,by exact g⟩⟩,rfl⟩
   ·go_wp2_with (go_at_call 117;refine(zgq _ _).mono ?_;rintro e w' ⟨rfl,d⟩;obtain rfl:=d.symm);exact zq0
  ·go_wp2_with (go_at_call 117;refine(zgq _ _).mono ?_;rintro e w' ⟨rfl,d⟩;obtain rfl:=d.symm);exact zee
theorem zdi (a:UInt8):((a.toNat:Int)==32||(a.toNat:Int)==10)=(a==32||a==10):=by rw[vP _ 32 32 rfl,vP _ 10 10 rfl]
theorem zl0 (a:UInt8):((a.toNat:Int) != 10)=(a != 10):=by rw[bne,vP _ 10 10 rfl];rfl
set_option maxRecDepth 100000 in
theorem ztg (s:ByteArray) (c:Nat) (r:s.size<=3000) (hi:c<=s.size) (w:World) : Calls Tryz.prog 74 #[.string s,.int .i64 c,.func (.func 113) #[] #[]] w fun e w'=>∃a:Nat,e=.returned (.int .i64 a)/\Stops (fun j=>j==32||j==10) s c a/\w'=w:=by
 go_enter Tryz.func74,Tryz.ntmps74;go_wp2;go_loop [1] (fun f=>∃a:Nat,c<=a/\a<=s.size/\f=.int .i64 a/\Hid (∀b (h:b<s.size),c<=b->b<a->(fun j=>j==32||j==10) s[b]=true)) (fun f=>s.size - (intOf f).toNat)
 case atStart=>exact⟨c,oA,hi,rfl,fun b _ k p=>oA⟩
 case round =>
  obtain⟨a,m,n,rfl,i⟩:=hrel;by_cases o:a<s.size
  ·cases g:((s[a].toNat:Int)==32||(s[a].toNat:Int)==10);·go_wp2_with (go_at_call 113;refine(zh8 _ _).mono ?_;rintro e w' ⟨rfl,d⟩;obtain rfl:=d.symm);go_ret;exact⟨a,rfl,⟨m,n,i.out,.inr ⟨o,by rw[zdi]at g;exact g⟩⟩,rfl⟩
   ·go_wp2_with (go_at_call 113;refine(zh8 _ _).mono ?_;rintro e w' ⟨rfl,d⟩;obtain rfl:=d.symm)
    go_round
    case rel=>exact⟨a+1,oA,oA,oM,fun b h k p=>by
     rcases jM b a with l | l
     ·exact i.out b h k l
     ·have:b=a:=oA;subst this
      rw[zdi]at g;exact g⟩
    case measure=>simp[intOf];omega
  ·go_wp2_with (go_at_call 113;refine(zh8 _ _).mono ?_;rintro e w' ⟨rfl,d⟩;obtain rfl:=d.symm);exact zee
set_option maxRecDepth 100000 in
theorem zti (s:ByteArray) (c:Nat) (r:s.size<=3000) (hi:c<=s.size) (w:World) : Calls Tryz.prog 74 #[.string s,.int .i64 c,.func (.func 114) #[] #[]] w fun e w'=>∃a:Nat,e=.returned (.int .i64 a)/\Stops (fun j=>j != 10) s c a/\w'=w:=by
 go_enter Tryz.func74,Tryz.ntmps74;go_wp2;go_loop [1] (fun f=>∃a:Nat,c<=a/\a<=s.size/\f=.int .i64 a/\Hid (∀b (h:b<s.size),c<=b->b<a->(fun j=>j != 10) s[b]=true)) (fun f=>s.size - (intOf f).toNat)
 case atStart=>exact⟨c,oA,hi,rfl,fun b _ k p=>oA⟩
 case round =>
  obtain⟨a,m,n,rfl,i⟩:=hrel;by_cases o:a<s.size
  ·cases g:((s[a].toNat:Int) != 10);·go_wp2_with (go_at_call 114;refine(zh9 _ _).mono ?_;rintro e w' ⟨rfl,d⟩;obtain rfl:=d.symm);go_ret;exact⟨a,rfl,⟨m,n,i.out,.inr ⟨o,by rw[zl0]at g;exact g⟩⟩,rfl⟩
   ·go_wp2_with (go_at_call 114;refine(zh9 _ _).mono ?_;rintro e w' ⟨rfl,d⟩;obtain rfl:=d.symm)
    go_round
    case rel=>exact⟨a+1,oA,oA,oM,fun b h k p=>by
     rcases jM b a with l | l
     ·exact i.out b h k l
     ·have:b=a:=oA;subst this
      rw[zl0]at g;exact g⟩
    case measure=>simp[intOf];omega
  ·go_wp2_with (go_at_call 114;refine(zh9 _ _).mono ?_;rintro e w' ⟨rfl,d⟩;obtain rfl:=d.symm);exact zee
/-! ### what is passed by -/
structure Goes (s:ByteArray) (p j:Nat):Prop where
 le:p<=j
 top:j<=s.size
 on:∀(f:Nat) (acc:List Tok) (R:Res),s.size<=p+f->qT f (s.data.toList.drop p) p acc=R->∃f',s.size<=j+f'/\qT f' (s.data.toList.drop j) j acc=R
theorem Goes.rfl' {s:ByteArray} (c:a<=s.size):Goes s a a:=⟨jE _,c,fun b g f d e=>⟨b,d,e⟩⟩
theorem Goes.trans {s:ByteArray} (g:Goes s a b) (c:Goes s b d):Goes s a d :=
 ⟨jp g.le c.le,c.top,fun l f e h j=>by
  obtain⟨m,i,k⟩:=g.on l f e h j
  exact c.on m f e i k⟩
theorem zkc {s:ByteArray} (f:a<s.size) (d:qH (s.data.toList.drop a)=.skip b):Goes s a (a+b)/\0<b:=by
 have e:=go_skip f (f:=0) (acc:=[]) d rfl;refine⟨⟨oA,e.2.2,fun c g k l h=>?_⟩,e.2.1⟩;obtain⟨c,rfl⟩:∃i,c=i+1:=⟨c - 1,oA⟩
 have j:=go_skip f d h;exact⟨c,oA,j.1⟩
theorem zs7 {s:ByteArray} (e:Stops (fun f=>f==32||f==10) s a b):Goes s a b:=by
 obtain⟨c,rfl⟩:∃c,b=a+c:=⟨b - a,by have:=e.le;omega⟩
 have j:∀c,a+c<=s.size->(∀d (e:d<s.size),a<=d->d<a+c->(s[d]==32||s[d]==10)=true)->Goes s a (a+c):=by
  intro c
  induction c with
  | zero=>intro g _;exact Goes.rfl' g
  | succ c ih =>
   intro g h;have l:=ih oA (fun d m k f=>h d m k oA);have i:=h (a+c) oA oA oA;rw[<- zdi,Bool.or_eq_true]at i;exact l.trans (zkc oA (zyq oA i)).1
 exact j c e.top e.all
theorem zvf {s:ByteArray} (f:a<s.size) (e:((s[a].toNat:Int)==35)=true) (d:Stops (fun h=>h != 10) s a b):Goes s a b/\a<b:=by
 have g:(s[a].toNat:Int)=35:=by simpa using e
 have j:=yaw f (by rw[g];rfl) (by rw[g];rfl) e d.run;have c:=zkc f j;have k:=d.le;have i:a+(b - a)=b:=oA;rw[i]at c;exact⟨c.1,oA⟩
set_option maxRecDepth 100000 in
theorem zng (s:ByteArray) (c:Nat) (o:s.size<=3000) (hi:c<=s.size) (w:World) : Calls Tryz.prog 73 #[.string s,.int .i64 c] w fun g w'=>∃a:Nat,g=.returned (.int .i64 a)/\Goes s c a/\(∀d:a<s.size,((s[a].toNat:Int)==32)=false/\((s[a].toNat:Int)==10)=false/\((s[a].toNat:Int)==35)=false)/\w'=w:=by
 go_enter Tryz.func73,Tryz.ntmps73;go_wp2;go_loop [1] (fun k=>∃a:Nat,a<=s.size/\k=.int .i64 a/\Hid (Goes s c a)) (fun k=>s.size - (intOf k).toNat)
 case atStart=>exact⟨c,hi,rfl,Goes.rfl' hi⟩
 case round =>
  obtain⟨a,t,rfl,q⟩:=hrel;go_wp2_with (fail);refine(ztg s a o t _).mono ?_;rintro g w' ⟨b,rfl,e,j⟩;obtain rfl:=j.symm;have f:Hid (Goes s c b):=q.out.trans (zs7 e);have y:=e.le;have v:=e.top;have HS:=e.stop;by_cases n:b<s.size
  ·have l:Hid (((s[b].toNat:Int)==32)=false/\((s[b].toNat:Int)==10)=false):=by
    rcases HS with d | ⟨_,d⟩
    ·omega
    ·rw[<- zdi,Bool.or_eq_false_iff]at d;exact d
   clear HS e;cases m:((s[b].toNat:Int) != 35)
   case true =>
    go_wp2;go_ret;exact⟨b,rfl,f.out,fun _=>⟨l.out.1,l.out.2,by simpa[bne] using m⟩,rfl⟩
   case false =>
    go_wp2_with (fail);refine(zti s b o v _).mono ?_;rintro g w' ⟨p,rfl,i,j⟩;obtain rfl:=j.symm;have h:=zvf n (by simpa[bne] using m) i;have r:Hid (Goes s c p):=f.out.trans h.1;have z:=h.2;have x:=i.top;clear i h;go_wp2
    go_round
    case rel=>exact⟨p,x,rfl,r.out⟩
    case measure=>simp[intOf];omega
  ·have u:b=s.size:=oA;subst u;clear HS e;go_wp2;go_ret;exact⟨s.size,rfl,f.out,fun d=>absurd d n,rfl⟩
theorem ztm (a:Int) (d:(qV a||yJ a)=true) (w:World) : Calls Tryz.prog 75 #[.int .u8 a] w fun b w'=>b=.returned (.func (.func 117) #[] #[])/\Below w.heap.size w w':=by
 cases e:qV a<;>cases f:yJ a
 case false.false=>simp[e,f]at d
 all_goals
  go_enter Tryz.func75,Tryz.ntmps75;go_wp2_with (first | (go_at_call 115;refine(cG _ _).mono ?_;rintro b w' ⟨rfl,c⟩;obtain rfl:=c.symm) | (go_at_call 116;refine(dK _ _).mono ?_;rintro b w' ⟨rfl,c⟩;obtain rfl:=c.symm));go_ret;exact⟨rfl,bal _⟩
def Boxed (w w':World) (c:Int):Prop:=w'.cell? ⟨w.heap.size+1,0,none⟩=some (.int .i64 1)/\w'.cell? ⟨w.heap.size,0,none⟩=some (.int .u8 c)/\w'.frozen? ⟨w.heap.size+1,0,none⟩=false/\Below w.heap.size w w'
theorem zs0 (a:Int) (f:qV a=false) (g:yJ a=false) (w:World) : Calls Tryz.prog 75 #[.int .u8 a] w fun b w'=>b=.returned (.func (.func 118) #[] #[.pointer (some ⟨w.heap.size+1,0,none⟩),.pointer (some ⟨w.heap.size,0,none⟩)])/\Boxed w w' a:=by
 have h:∀(e:Fn) (first d:Array Value) (w:World),(Instr.makeFunc e first d).run Tryz.prog w=.ok (.func e first d) w:=fun _ _ _ _=>rfl
 go_enter Tryz.func75,Tryz.ntmps75;go_wp2_with (first | (go_at_call 115;refine(cG _ _).mono ?_;rintro b w' ⟨rfl,c⟩;obtain rfl:=c.symm) | (go_at_call 116;refine(dK _ _).mono ?_;rintro b w' ⟨rfl,c⟩;obtain rfl:=c.symm));go_ret;refine⟨rfl,?_,?_,?_,?_⟩;·simp
 ·simp
 ·simp
 ·exact(bal _).alloc oC _
theorem zca (f a d:Int) (b c:Addr) (w:World) (p:0<=a/\a<=5) (h:w.cell? b=some (.int .i64 a)) (j:w.cell? c=some (.int .u8 d)) (o:w.frozen? b=false) (i:b≠c) : Calls Tryz.prog 118 #[.int .u8 f,.pointer (some b),.pointer (some c)] w fun e w'=>e=.returned (.bool (a==1&&d==61&&f==61))/\w'=w.setCell b (.int .i64 (a+1)):=by
 have q:IntKind.i64.wrap (a+1)=a+1:=by rw[IntKind.wrap_i64];omega
 have m:=jT w b (.int .i64 (a+1)) h;have n:=(jD w b c (.int .i64 (a+1)) i).trans j;have e:(a+1==2)=(a==1):=by rw[Bool.eq_iff_iff];simp;omega
 cases g:(a==1)<;>cases k:(d==61)<;>cases l:(f==61)
 all_goals
  rw[g]at e;go_enter Tryz.func118,Tryz.ntmps118;go_wp2;go_ret;exact⟨rfl,rfl⟩
def more (l:List UInt8) (c:Int):Nat:=if c==61&&l.headD 0==61 then 1 else 0
theorem zzi (s:ByteArray) (a:Nat) (b:a<s.size):((s.data.toList.drop a).headD 0==61)=((s[a].toNat:Int)==61):=by
 rw[drop_cons s a b,List.headD_cons,vP _ 61 61 rfl]
theorem zlp (s:ByteArray) (a:Nat) (b:s.size<=a):((s.data.toList.drop a).headD 0==61)=false:=by
 rw[List.drop_eq_nil_of_le (by rw[len_L];exact b)];rfl
set_option maxRecDepth 100000 in
theorem zuk (s:ByteArray) (b:Nat) (c:Int) (a d:Addr) (y:s.size<=3000) (hi:b<=s.size) (w:World) (i:w.cell? a=some (.int .i64 1)) (j:w.cell? d=some (.int .u8 c)) (k:w.frozen? a=false) (h:a≠d) : Calls Tryz.prog 74 #[.string s,.int .i64 b,.func (.func 118) #[] #[.pointer (some a),.pointer (some d)]] w fun g w'=>g=.returned (.int .i64 ((b+more (s.data.toList.drop b) c:Nat):Int))/\Below a.block w w':=by
 have q:=jT w a (.int .i64 2) i;have r:=(jD w a d (.int .i64 2) h).trans j;have t:(w.setCell a (.int .i64 2)).frozen? a=false:=by simp[k]
 have p:Below a.block w w:=Below.refl _ _;have n:Below a.block w (w.setCell a (.int .i64 2)):=p.setCell (jE _) _;have v:Below a.block w ((w.setCell a (.int .i64 2)).setCell a (.int .i64 3)):=n.setCell (jE _) _;go_enter Tryz.func74,Tryz.ntmps74;go_wp2;go_loopw [1] (fun m wr=>(m=.int .i64 b/\wr=w)\/(m=.int .i64 ((b:Int)+1)/\b<s.size/\Hid (more (s.data.toList.drop b) c=1)/\wr=w.setCell a (.int .i64 2))) (fun m _=>b+1 - (intOf m).toNat)
 case atStart=>exact .inl ⟨rfl,rfl⟩
 case round =>
  rcases hrel with⟨rfl,rfl⟩|⟨rfl,x,f,rfl⟩
  ·by_cases o:b<s.size
   ·have l:=zzi s b o;cases u:(c==61&&(s[b].toNat:Int)==61)
    ·have f:Hid (more (s.data.toList.drop b) c=0):=by show _=_;unfold more;rw[l,u];rfl
     clear l;go_wp2_with (go_at_call 118;refine(zca _ 1 c a d _ oA i j k h).mono ?_;rintro g w' ⟨rfl,e⟩;obtain rfl:=e.symm);go_ret;exact⟨by rw[f.out];rfl,n⟩
    ·have f:Hid (more (s.data.toList.drop b) c=1):=by show _=_;unfold more;rw[l,u];rfl
     clear l;go_wp2_with (go_at_call 118;refine(zca _ 1 c a d _ oA i j k h).mono ?_;rintro g w' ⟨rfl,e⟩;obtain rfl:=e.symm);go_roundw
     case rel=>exact .inr ⟨oM,o,f.out,oW⟩
     case measure=>simp[intOf]<;>omega
   ·have f:Hid (more (s.data.toList.drop b) c=0):=by show _=_;unfold more;rw[zlp s b oA];simp
    go_wp2_with (go_at_call 118;refine(zca _ 1 c a d _ oA i j k h).mono ?_;rintro g w' ⟨rfl,e⟩;obtain rfl:=e.symm);go_ret;exact⟨by rw[f.out];rfl,p⟩
  ·by_cases o:b+1<s.size;·go_wp2_with (go_at_call 118;refine(zca _ 2 c a d _ oA q r t h).mono ?_;rintro g w' ⟨rfl,e⟩;obtain rfl:=e.symm);go_ret;exact⟨by rw[f.out];rfl,v⟩
   ·go_wp2_with (go_at_call 118;refine(zca _ 2 c a d _ oA q r t h).mono ?_;rintro g w' ⟨rfl,e⟩;obtain rfl:=e.symm);go_ret;exact⟨by rw[f.out];rfl,n⟩
theorem clone_any (a:ByteArray) (d:a.size<=3000) (w:World) : Calls Tryz.prog 77 #[.string a] w fun b w'=>b=.returned (.string a)/\Below w.heap.size w w':=by
 go_enter Tryz.func77,Tryz.ntmps77;go_wp2_with (go_at_call 121;refine(Any.stringslite_Clone Tryz.laysClone a _ oA).mono ?_;rintro b w' ⟨rfl,c⟩);go_ret;exact⟨rfl,c⟩
set_option maxRecDepth 100000 in
theorem zty (s:ByteArray) (a:Int) (w:World) : Calls Tryz.prog 150 #[.string s,.int .u8 a] w fun b w'=>b=.returned (.int .i64 (Lib.indexByte s.data.toList a.toNat.toUInt8))/\w'=w:=by
 go_enter Tryz.func150,Tryz.ntmps150;go_wp2;rw[run_callFunc_extern Tryz.func176 oB oB oB (e:=Extern.BytealgIndexByte.indexByte) oB,Lib.run_indexByteString];simp only[Result.andThen];rw[Oper.upon_value];go_wp2;go_ret;exact⟨rfl,rfl⟩
theorem zkf (s:ByteArray) (a:Int) (w:World) : Calls Tryz.prog 120 #[.string s,.int .u8 a] w fun b w'=>b=.returned (.int .i64 (Lib.indexByte s.data.toList a.toNat.toUInt8))/\w'=w:=by
 go_enter Tryz.func120,Tryz.ntmps120;go_wp2_with (go_at_call 150;refine(zty _ _ _).mono ?_;rintro b w' ⟨rfl,rfl⟩);go_ret;exact⟨rfl,rfl⟩
theorem zvh (b:List UInt8) (a:UInt8):decide (Lib.indexByte b a ≥ 0)=b.contains a:=by
 induction b with
 | nil=>simp[Lib.indexByte]
 | cons d b ih =>
  have h:=Lib.indexByte_ge b a;rw[List.contains_cons,<- ih,Lib.indexByte];by_cases c:d=a;·subst c;simp
  ·have e:¬(a=d):=fun g=>c g.symm
   simp only[beq_iff_eq,c,if_false];by_cases f:Lib.indexByte b a = -1;·simp[f,e]
   ·rw[ju f,Bool.eq_iff_iff];simp[e];omega
def qS (w:World):Prop:=∃a,w.cell? ⟨Tryz.laysPI_ren.g 16,0,none⟩=some a/\(a=.nilIface\/∃c b,a=.iface c b)
theorem hasErr_below {w w':World} (a:qS w) (e:Below w.heap.size w w'):qS w':=by
 obtain⟨c,b,d⟩:=a
 have f:Tryz.laysPI_ren.g 16<w.heap.size:=by
  rcases jM (Tryz.laysPI_ren.g 16) w.heap.size with a | a
  ·exact a
  ·exfalso;simp only[World.cell?]at b;rw[Array.getElem?_eq_none a]at b;simp at b
 exact⟨c,by rw[e.cell (p:=⟨Tryz.laysPI_ren.g 16,0,none⟩) f];exact b,d⟩
theorem parse_ok (a:ByteArray) (f:a.size<=3000) (c:a.data.toList.all qU=true) (d:a.data.toList≠[]) (e:val a.data.toList<9223372036854775808) (w:World) : Calls Tryz.prog 149 #[.string a,.int .i64 10,.int .i64 64] w fun b w'=>b=.returned (.tuple #[.int .i64 (val a.data.toList:Int),.nilIface])/\Below w.heap.size w w':=by
 refine(Any.strconv_ParseInt_10_at64_ok Tryz.laysPI a oA _ (by rw[zkr _ c d,jv e]) w).mono ?_;rintro b w' ⟨rfl,rfl|⟨g,rfl⟩⟩;·exact⟨rfl,Below.refl _ _⟩
 ·exact⟨rfl,Lib.bytesWorld_below _ _ _⟩
theorem ztf (a:ByteArray) (n:a.size<=3000) (f:a.data.toList.all qU=true) (g:a.data.toList≠[]) (l:¬val a.data.toList<9223372036854775808) (w:World) (k:qS w) : Calls Tryz.prog 149 #[.string a,.int .i64 10,.int .i64 64] w fun c w'=>∃m d b,c=.returned (.tuple #[.int .i64 m,.iface d (.pointer (some ⟨b,0,none⟩))])/\Below w.heap.size w w':=by
 obtain⟨e,h,i⟩:=k;refine(Any.strconv_ParseInt_10_at64_range Tryz.laysPI a oA (by rw[zkr _ f g,ju l]) e w h i).mono ?_;rintro c w' ⟨b,rfl,_,_,j⟩;exact⟨_,_,b,rfl,j⟩
theorem zwo {b:ByteArray} (d:Stops qU b 0 a) (h:a=b.size):b.data.toList.all qU=true:=by
 rw[List.all_eq_true];intro g e;obtain⟨f,c,rfl⟩:=List.mem_iff_getElem.1 e;rw[len_L]at c;exact d.all f c oA oA
theorem zh5 {a:ByteArray} (c:0<a.size):a.data.toList≠[]:=by intro b;have:=len_L a;rw[b]at this;simp at this;omega
set_option maxRecDepth 100000 in
theorem zsg (a:ByteArray) (q:a.size<=3000) (k:0<a.size) (w:World) (x:qS w) : Calls Tryz.prog 119 #[.string a] w fun j w'=>j=.returned (.int .i64 (zC a.data.toList))/\Below w.heap.size w w':=by
 go_enter Tryz.func119,Tryz.ntmps119;go_wp2_with (fail);refine(zth a 0 q oA _).mono ?_;rintro j w' ⟨r,rfl,h,y⟩;obtain rfl:=y.symm;have D:=h.top;by_cases E:r<a.size
 ·have u:Hid (2=zC a.data.toList):=by
   rcases h.stop with f | ⟨f,v⟩
   ·omega
   ·exact zzt a r f v
  clear h;go_wp2;go_ret;exact⟨zer u.out,Below.refl _ _⟩
 ·have t:r=a.size:=oA;have d:=zwo h t;clear h;subst t;have e:=zrn a k;cases b:(decide (1<a.data.toList.length)&&a.data.toList.headD 0==48)
  ·have c:=numE_val _ d (zh5 k) b;rw[len_L,e,<- vP _ 48 48 rfl]at b;by_cases g:val a.data.toList<9223372036854775808
   ·rw[jv g]at c;have n:Hid (zC a.data.toList=0):=c;have o:Hid (val a.data.toList<9223372036854775808):=g;have m:Hid (a.data.toList.all qU=true):=d;clear c g d;by_cases l:1<a.size
    ·have s:((a[0].toNat:Int)==48)=false:=by simpa[l] using b
     clear b e;exact zoh
    ·clear b e;exact zoh
   ·rw[ju g]at c;have n:Hid (zC a.data.toList=6):=c;have o:Hid (¬val a.data.toList<9223372036854775808):=g;have m:Hid (a.data.toList.all qU=true):=d;clear c g d;by_cases l:1<a.size
    ·have s:((a[0].toNat:Int)==48)=false:=by simpa[l] using b
     clear b e;exact zof
    ·clear b e;exact zof
  ·have c:Hid (zC a.data.toList=2):=by
    show _=_;rw[zC,ju (by simp[d]),jv b]
   rw[len_L,e,<- vP _ 48 48 rfl,jj]at b;have l:1<a.size:=by simpa using b.1
   have s:=b.2;clear b e d;go_wp2;go_ret;exact⟨zer c.out.symm,Below.refl _ _⟩
def signs:ByteArray:=⟨#[123,125,40,41,91,93,59,44,46,61,60,43,45,42,47,37,38,124,33]⟩
theorem zja (a:UInt8):decide (Lib.indexByte signs.data.toList ((a.toNat:Int)).toNat.toUInt8 ≥ 0)=cV.contains a:=by
 have b:((a.toNat:Int)).toNat.toUInt8=a:=oC;rw[b,zvh];rfl
theorem zt2 (a:ByteArray) (g:a.size<=3000) (d:0<a.size) (w:World) (f:qV (a[0].toNat:Int)=true) (e:a.size<=16) : Calls Tryz.prog 76 #[.string a] w fun b w'=>b=.returned (.tuple #[.int .i64 1,.int .i64 0])/\Below w.heap.size w w':=by
 go_enter Tryz.func76,Tryz.ntmps76;go_wp2_with (go_at_call 115;refine(cG _ _).mono ?_;rintro b w' ⟨rfl,c⟩;obtain rfl:=c.symm);exact jU (v:=.tuple #[.int .i64 1,.int .i64 0]) (by simp[results,Tryz.results76,go_sem]) rfl ⟨rfl,Below.refl _ _⟩
theorem ztz (a:ByteArray) (g:a.size<=3000) (d:0<a.size) (w:World) (f:qV (a[0].toNat:Int)=true) (e:16<a.size) : Calls Tryz.prog 76 #[.string a] w fun b w'=>b=.returned (.tuple #[.int .i64 0,.int .i64 1])/\Below w.heap.size w w':=by
 go_enter Tryz.func76,Tryz.ntmps76;go_wp2_with (go_at_call 115;refine(cG _ _).mono ?_;rintro b w' ⟨rfl,c⟩;obtain rfl:=c.symm);exact jU (v:=.tuple #[.int .i64 0,.int .i64 1]) (by simp[results,Tryz.results76,go_sem]) rfl ⟨rfl,Below.refl _ _⟩
theorem zvm (a:ByteArray) (g:a.size<=3000) (d:0<a.size) (w:World) (f:qS w) (i:qV (a[0].toNat:Int)=false) (h:yJ (a[0].toNat:Int)=true) : Calls Tryz.prog 76 #[.string a] w fun b w'=>b=.returned (.tuple #[.int .i64 2,.int .i64 (zC a.data.toList)])/\Below w.heap.size w w':=by
 go_enter Tryz.func76,Tryz.ntmps76
 go_wp2_with (first
  | (go_at_call 115;refine(cG _ _).mono ?_;rintro b w' ⟨rfl,c⟩;obtain rfl:=c.symm)
  | (go_at_call 116;refine(dK _ _).mono ?_;rintro b w' ⟨rfl,c⟩;obtain rfl:=c.symm)
  | (go_at_call 119;refine(zsg a g d _ f).mono ?_;rintro b j ⟨rfl,e⟩))
 exact jU (v:=.tuple #[.int .i64 2,.int .i64 (zC a.data.toList)]) (by simp[results,Tryz.results76,go_sem]) rfl ⟨rfl,e⟩
theorem zt1 (a:ByteArray) (k:a.size<=3000) (h:0<a.size) (w:World) (j:qV (a[0].toNat:Int)=false) (i:yJ (a[0].toNat:Int)=false) (f:cV.contains a[0]=true) : Calls Tryz.prog 76 #[.string a] w fun c w'=>c=.returned (.tuple #[.int .i64 3,.int .i64 0])/\Below w.heap.size w w':=by
 have hi:Lib.indexByte signs.data.toList ((a[0].toNat:Int)).toNat.toUInt8 ≥ 0:=of_decide_eq_true (by rw[zja,f]);obtain⟨d,e⟩:∃d,d=Lib.indexByte signs.data.toList ((a[0].toNat:Int)).toNat.toUInt8:=⟨_,rfl⟩
 have g:=zkf signs (a[0].toNat:Int);rw[<- e]at hi g;clear e f;go_enter Tryz.func76,Tryz.ntmps76
 go_wp2_with (first
  | (go_at_call 115;refine(cG _ _).mono ?_;rintro c w' ⟨rfl,b⟩;obtain rfl:=b.symm)
  | (go_at_call 116;refine(dK _ _).mono ?_;rintro c w' ⟨rfl,b⟩;obtain rfl:=b.symm)
  | (go_at_call 120;refine(g _).mono ?_;rintro c w' ⟨rfl,b⟩;obtain rfl:=b.symm))
 exact jU (v:=.tuple #[.int .i64 3,.int .i64 0]) (by simp[results,Tryz.results76,go_sem]) rfl ⟨rfl,Below.refl _ _⟩
theorem zt0 (a:ByteArray) (k:a.size<=3000) (h:0<a.size) (w:World) (j:qV (a[0].toNat:Int)=false) (i:yJ (a[0].toNat:Int)=false) (f:cV.contains a[0]=false) : Calls Tryz.prog 76 #[.string a] w fun c w'=>c=.returned (.tuple #[.int .i64 0,.int .i64 2])/\Below w.heap.size w w':=by
 have hi:¬Lib.indexByte signs.data.toList ((a[0].toNat:Int)).toNat.toUInt8 ≥ 0:=of_decide_eq_false (by rw[zja,f]);obtain⟨d,e⟩:∃d,d=Lib.indexByte signs.data.toList ((a[0].toNat:Int)).toNat.toUInt8:=⟨_,rfl⟩
 have g:=zkf signs (a[0].toNat:Int);rw[<- e]at hi g;clear e f;go_enter Tryz.func76,Tryz.ntmps76
 go_wp2_with (first
  | (go_at_call 115;refine(cG _ _).mono ?_;rintro c w' ⟨rfl,b⟩;obtain rfl:=b.symm)
  | (go_at_call 116;refine(dK _ _).mono ?_;rintro c w' ⟨rfl,b⟩;obtain rfl:=b.symm)
  | (go_at_call 120;refine(g _).mono ?_;rintro c w' ⟨rfl,b⟩;obtain rfl:=b.symm))
 exact jU (v:=.tuple #[.int .i64 0,.int .i64 2]) (by simp[results,Tryz.results76,go_sem]) rfl ⟨rfl,Below.refl _ _⟩
theorem ext_size (s:ByteArray) (b a:Nat) (c:b+a<=s.size):(s.extract b (b+a)).size=a:=by
 rw[<- len_L,Lib.extract_data,List.length_take,List.length_drop,len_L];omega
theorem zll (s:ByteArray) (a b:Nat):(s.extract a (a+b)).data.toList=(s.data.toList.drop a).take b:=by
 rw[Lib.extract_data,Nat.add_sub_cancel_left]
theorem zgm (s:ByteArray) (a b:Nat) (c:a+b<=s.size) (d:0<b):(s.extract a (a+b))[0]'(by rw[ext_size s a b c];exact d)=s[a]:=by
 have f:0<(s.extract a (a+b)).size:=by rw[ext_size s a b c];exact d
 have e:=zrn (s.extract a (a+b)) f;rw[<- e,zll,drop_cons s a oA]
 cases b with
 | zero=>omega
 | succ b=>rfl
theorem zur {d:UInt8->Bool} {s:ByteArray} (k:a<s.size) (f:d s[a]=true) (c:Stops d s (a+1) b):Stops d s a b :=
 ⟨by have:=c.le;omega,c.top,fun e i j g=>by
  rcases jM a e with h | h
  ·exact c.all e i oA g
  ·have:e=a:=oA;subst this
   exact f,c.stop⟩
theorem zyn (s:ByteArray) (a:Nat) (c:a<s.size) (b:cV.contains s[a]=true):uT (s.data.toList.drop a)=1+more (s.data.toList.drop (a+1)) (s[a].toNat:Int):=by
 unfold uT more;rw[drop_cons s a c,List.headD_cons,List.drop_one,List.tail_cons,vP _ 61 61 rfl];rw[jv b];split<;>rfl
theorem zwn (s:ByteArray) (a:Nat) (d:a<s.size) (b:cV.contains s[a]=false):uT (s.data.toList.drop a)=0:=by
 unfold uT;rw[drop_cons s a d,List.headD_cons,List.drop_one,List.tail_cons,ju,ju (by rw[b];decide)];intro c;rw[jj,beq_iff_eq]at c;rw[c.1]at b;exact absurd b oD
theorem zzr (s:ByteArray) (a:Nat) (d:Int) (e:a<s.size):a+(1+more (s.data.toList.drop (a+1)) d)<=s.size:=by
 unfold more;split
 ·rename_i b;rw[jj]at b;rcases jM (a+1) s.size with c | c
  ·omega
  ·have:=zlp s (a+1) c;rw[this]at b;exact absurd b.2 oD
 ·omega
def yck (s:ByteArray) (p n:Nat) (f:p<s.size) (c E:Int):Prop :=
 (∀w,Calls Tryz.prog 75 #[.int .u8 (s[p].toNat:Int)] w fun e b=>∃a,e=.returned a/\Below w.heap.size w b /\
  Calls Tryz.prog 74 #[.string s,.int .i64 ((p:Int)+1),a] b fun e d=>e=.returned (.int .i64 ((p:Int)+(n:Int)))/\Below w.heap.size w d) /\
 (∀w,qS w->Calls Tryz.prog 76 #[.string (s.extract p (p+n))] w fun e w'=>e=.returned (.tuple #[.int .i64 c,.int .i64 E])/\Below w.heap.size w w')
theorem zfw (s:ByteArray) (a:Nat) (k:s.size<=3000) (i:a<s.size) (b:(qV (s[a].toNat:Int)||yJ (s[a].toNat:Int))=true) (w:World) : Calls Tryz.prog 75 #[.int .u8 (s[a].toNat:Int)] w fun c d=>∃e,c=.returned e/\Below w.heap.size w d /\ Calls Tryz.prog 74 #[.string s,.int .i64 ((a:Int)+1),e] d fun c h=>c=.returned (.int .i64 ((a:Int)+(run qD (s.data.toList.drop a):Int)))/\Below w.heap.size w h:=by
 refine(ztm _ b w).mono ?_;rintro c d ⟨rfl,f⟩;refine⟨_,rfl,f,?_⟩;refine(zsy s (a+1) k oA d).mono ?_;rintro c h ⟨m,rfl,g,rfl⟩
 have hi:qD s[a]=true:=by
  rw[Bool.or_eq_true]at b;rcases b with b | b
  ·exact zf7 b
  ·exact zf4 b
 have j:=(zur i hi g).run;have l:=g.le;refine⟨?_,f⟩;rw[j]
 congr 2
 omega
theorem zjj (s:ByteArray) (a:Nat) (m:s.size<=3000) (n:a<s.size) (l:qV (s[a].toNat:Int)=false) (k:yJ (s[a].toNat:Int)=false) (w:World) : Calls Tryz.prog 75 #[.int .u8 (s[a].toNat:Int)] w fun b c=>∃d,b=.returned d/\Below w.heap.size w c /\ Calls Tryz.prog 74 #[.string s,.int .i64 ((a:Int)+1),d] c fun b f=>b=.returned (.int .i64 ((a:Int)+((1+more (s.data.toList.drop (a+1)) (s[a].toNat:Int):Nat):Int)))/\Below w.heap.size w f:=by
 refine(zs0 _ l k w).mono ?_;rintro b c ⟨rfl,g,h,i,e⟩;refine⟨_,rfl,e,?_⟩;refine(zuk s (a+1) (s[a].toNat:Int) _ _ m oA c g h i oC).mono ?_;rintro b f ⟨rfl,j⟩;refine⟨?_,e.trans (j.mono oC)⟩
 congr 2
 omega
theorem yam (s:ByteArray) (a:Nat) (l:s.size<=3000) (b:a<s.size) (j:((s[a].toNat:Int)==32)=false) (i:((s[a].toNat:Int)==10)=false) (k:((s[a].toNat:Int)==35)=false) : ∃(o:Nat) (q m:Int),0<o/\a+o<=s.size/\((m != 0)=false->qH (s.data.toList.drop a)=.tok q o)/\((m != 0)=true->qH (s.data.toList.drop a)=.fault m)/\yck s a o b q m:=by
 have v:=zid qD (s.data.toList.drop a);rw[List.length_drop,len_L]at v;cases e:qV (s[a].toNat:Int)
 ·cases f:yJ (s[a].toNat:Int)
  ·have g:0<1+more (s.data.toList.drop (a+1)) (s[a].toNat:Int):=oA;have d:=zzr s a (s[a].toNat:Int) b;have t:=ext_size s a _ d;have h:=zgm s a _ d g;cases n:cV.contains s[a];·refine⟨1+more (s.data.toList.drop (a+1)) (s[a].toNat:Int),0,2,g,d,fun c=>absurd c oD,fun _=>yav b j i k e f (zwn s a b n),fun w=>zjj s a l b e f w,fun w _=>?_⟩;exact zt0 _ oA oA w zco (by rw[h];exact f) (by rw[h];exact n)
   ·refine⟨1+more (s.data.toList.drop (a+1)) (s[a].toNat:Int),3,0,g,d,fun _=>yax b j i k e f (zyn s a b n) oA,fun c=>absurd c oD,fun w=>zjj s a l b e f w,fun w _=>?_⟩;exact zt1 _ oA oA w zco (by rw[h];exact f) (by rw[h];exact n)
  ·have g:0<run qD (s.data.toList.drop a):=zy8 b f rfl;have d:a+run qD (s.data.toList.drop a)<=s.size:=oA;have t:=ext_size s a _ d;have h:=zgm s a _ d g;refine⟨_,2,zC ((s.data.toList.drop a).take (run qD (s.data.toList.drop a))),g,d,fun c=>ycc b j i k e f rfl (by simpa[bne] using c),fun c=>yca b j i k e f rfl (by simpa[bne] using c),fun w=>zfw s a l b (by rw[f,Bool.or_true]) w,fun w p=>?_⟩;have r:=zvm (s.extract a (a+run qD (s.data.toList.drop a))) oA oA w p zco (by rw[h];exact f);rw[zll]at r;exact r
 ·have g:0<run qD (s.data.toList.drop a):=by rw[drop_cons s a b];exact zcs _ _ _ (zf7 e)
  have d:a+run qD (s.data.toList.drop a)<=s.size:=oA;have t:=ext_size s a _ d;have h:=zgm s a _ d g;by_cases u:run qD (s.data.toList.drop a)<=16;·refine⟨_,1,0,g,d,fun _=>yay b j i k e rfl u,fun c=>absurd c oD,fun w=>zfw s a l b (by rw[e,Bool.true_or]) w,fun w p=>?_⟩;exact zt2 _ oA oA w zco oA
  ·refine⟨_,0,1,g,d,fun c=>absurd c oD,fun _=>yau b j i k e rfl oA,fun w=>zfw s a l b (by rw[e,Bool.true_or]) w,fun w p=>?_⟩;exact ztz _ oA oA w zco oA
def zrg (H:World->Prop) (F:Nat) (s:ByteArray):Prop:=∀w:World,H w->Calls Tryz.prog F #[.string s] w fun e w'=>∃v,e=.returned (.tuple #[v,.agg #[.int .i64 (scan s.data.toList).code,.int .i64 (scan s.data.toList).place]]) /\
   w'.ownsRow w.heap.size 110 3 v (scan s.data.toList).toks.length (cellsOf (scan s.data.toList).toks)/\Below w.heap.size w w'
theorem own_shape {w:World} {i:TypeId} {v:Value} (f:w.ownsRow a i b v d o):∃e g,v=.slice e d g/\d<=9223372036854775807/\(0<d->∃c,e=some ⟨c,0,none⟩):=by
 rcases f.2 with⟨rfl,rfl⟩|⟨c,h,k,rfl,_,_,l,j,_⟩
 ·exact⟨none,0,rfl,oA,fun f=>oA⟩
 ·exact⟨some ⟨c,0,none⟩,h,rfl,by unfold maxLen at j;omega,fun _=>⟨c,rfl⟩⟩
theorem cellsOf_at (b:List Tok) (a:Nat) (e:a<b.length):(cellsOf b)[a*3]?=some (.int .i64 b[a].kind)/\(cellsOf b)[a*3+1]?=some (.string ⟨b[a].text.toArray⟩)/\(cellsOf b)[a*3+2]?=some (.int .i64 (b[a].at_:Int)):=by
 induction b generalizing a with
 | nil=>simp at e
 | cons c b ih =>
  cases a with
  | zero=>simp[cellsOf]
  | succ a =>
   have d:=ih a (by simpa using e);have f:cellsOf (c :: b)=[.int .i64 c.kind,.string ⟨c.text.toArray⟩,.int .i64 (c.at_:Int)]++cellsOf b:=rfl;have g:(a+1)*3=a*3+3:=oA;rw[f,g];refine⟨?_,?_,?_⟩;·rw[List.getElem?_append_right oC];simpa using d.1
   ·rw[List.getElem?_append_right oC];simpa using d.2.1
   ·rw[List.getElem?_append_right oC];simpa using d.2.2
theorem tok_cells {w:World} {g:TypeId} {c:List Tok} (e:w.ownsRow a g 3 (.slice (some ⟨b,0,none⟩) d m) d (cellsOf c)) {k:Nat} (h:k<c.length) : w.cell? ⟨b,k*3,none⟩=some (.int .i64 c[k].kind)/\w.cell? ⟨b,k*3+1,none⟩=some (.string ⟨c[k].text.toArray⟩)/\w.cell? ⟨b,k*3+2,none⟩=some (.int .i64 (c[k].at_:Int)):=by
 have f:=cellsOf_at c k h;have i:d=c.length:=by have:=e.1;rw[cellsOf_length]at this;omega
 exact⟨(e.cellAt _ oA).trans f.1,(e.cellAt _ oA).trans f.2.1,(e.cellAt _ oA).trans f.2.2⟩
theorem below_next {w a c:World} (b:Below w.heap.size w a) (d:Below (a.alloc t).heap.size (a.alloc t) c):Below w.heap.size w c :=
 (b.alloc b.size t).trans (d.mono (by have:=b.size;rw[jP];omega))
theorem zbz {w wr c:World} {d:TypeId} {v:Value} (h:wr.ownsRow (w.heap.size+1) d a v b o) (f:Below (w.heap.size+1) (w.alloc t) wr) (e:Below wr.heap.size wr c) : c.ownsRow (w.heap.size+1) d a v b o/\Below (w.heap.size+1) (w.alloc t) c:=by
 have g:=f.size;rw[jP]at g;exact⟨own_below h e,f.trans (e.mono g)⟩
theorem zln {w wr:World} (b:qS w) (a:Below (w.heap.size+1) (w.alloc t) wr):qS wr:=hasErr_below b (zfx a)
set_option maxRecDepth 100000 in
theorem yc5 (s:ByteArray) (w:World) (L:s.size<=3000) (a3:qS w) : Calls Tryz.prog 38 #[.string s] w fun b w'=>∃v,b=.returned (.tuple #[v,.agg #[.int .i64 (scan s.data.toList).code,.int .i64 (scan s.data.toList).place]]) /\ w'.ownsRow w.heap.size 110 3 v (scan s.data.toList).toks.length (cellsOf (scan s.data.toList).toks)/\Below w.heap.size w w':=by
 obtain⟨aB,hi,ay,az,aA⟩:=info_parts ya3;have aS:¬(3000:Int)<(s.size:Int):=oA;obtain⟨h,z⟩:∃h,h=scan s.data.toList:=⟨_,rfl⟩
 rw[<- z]
 have aa:Hid (qT s.size (s.data.toList.drop 0) 0 []=h):=by
  show _=_;rw[z,scan,ju (by rw[len_L];omega),len_L];rfl
 have R:Hid (qS w):=a3;clear z a3;go_enter Tryz.func38,Tryz.ntmps38;go_wp2_with (go_at_call 73;refine(zng s 0 L oA _).mono ?_;rintro b w' ⟨q,rfl,a5,au,N⟩;obtain rfl:=N.symm);obtain⟨af,ao,ac⟩:=a5.on s.size [] h oA aa.out;have aw:=a5.top
 go_loopw [4,5] (fun v P wr=>∃(a f:Nat) (e:List Tok),a<=s.size/\P=.int .i64 a/\s.size<=a+f/\Hid (∀n:a<s.size,((s[a].toNat:Int)==32)=false/\((s[a].toNat:Int)==10)=false/\((s[a].toNat:Int)==35)=false)/\Hid (qT f (s.data.toList.drop a) a e=h)/\wr.ownsRow (w.heap.size+1) 110 3 v e.length (cellsOf e)/\e.length<=a/\Below (w.heap.size+1) (w.alloc (.cells #[.int .i64 0,.int .i64 0] 28)) wr)
  (fun _ P _=>s.size - (intOf P).toNat)
 case atStart =>
  exact⟨q,af,[],aw,rfl,ao,au,ac,World.ownsRow_nil _ _ _ _,oC,Below.refl _ _⟩
 case round =>
  obtain⟨a,f,e,aQ,rfl,aN,u,HS,E,aM,o⟩:=hrel;obtain⟨ak,am,aU,aV,ah⟩:=boxes o;have aJ:w.heap.size<wr.heap.size:=ah;by_cases i:a<s.size
  ·obtain⟨f,rfl⟩:∃y,f=y+1:=⟨f - 1,oA⟩
   obtain⟨d,x,p,aP,D,r,t,Q,S⟩:=yam s a L i (u.out i).1 (u.out i).2.1 (u.out i).2.2;have aR:=zyp 9 Tryz.underlying9 s a d D;have aT:=ext_size s a d D;cases V:(p != 0)
   ·have M:Hid (qH (s.data.toList.drop a)=.tok x d):=r V;clear r t
    have ax:∀w,Calls Tryz.prog 73 #[.string s,.int .i64 ((a:Int)+(d:Int))] w fun b w'=>∃c:Nat,b=.returned (.int .i64 c)/\Goes s (a+d) c/\(∀n:c<s.size,((s[c].toNat:Int)==32)=false/\((s[c].toNat:Int)==10)=false/\((s[c].toNat:Int)==35)=false)/\w'=w:=by
     intro w;have n:=zng s (a+d) L D w;rw[Int.natCast_add]at n;exact n
    go_wp2_with (first
     | (go_at_call 75;refine(Q _).mono ?_;rintro b aD ⟨ag,rfl,aj,K⟩)
     | (go_at_call 74;refine K.mono ?_;rintro b aE ⟨rfl,j⟩;obtain⟨m,g⟩:=zbz E o j)
     | (go_at_call 76;refine(S _ (zln R.out g)).mono ?_;rintro b aF ⟨rfl,k⟩;obtain⟨G,l⟩:=zbz m g k; clear m g j k)
     | (go_at_call 77;refine(clone_any _ oA _).mono ?_;rintro b aG ⟨rfl,W⟩;obtain⟨a8,a2⟩:=zbz G l W;obtain⟨_,_,_,_,aL⟩:=boxes a2;clear G l W)
     | (at_builtin;refine wpList_append_own _ rfl (.tmp 40) (.tmp 49) 94 rfl (w.heap.size+1) 110 aB (.agg #[.int .i64 0,.string ⟨#[]⟩,.int .i64 0]) 3 32 Tryz.underlying94 hi ay az aA rfl oD _ _ _ rfl (a8.alloc _) ⟨aG.heap.size,0,none⟩ 1 1 [.int .i64 x,.string (s.extract a (a+d)),.int .i64 (a:Int)] rfl rfl (zsh _ _ _ _ _ _ oC) (zwa _ _ _) (by unfold maxLen;omega) oA oN ?_;intro aC a9 a7 a6 ar;have T:Hid (a9.ownsRow (w.heap.size+1) 110 3 aC (e.length+1) (cellsOf e++[.int .i64 x,.string (s.extract a (a+d)),.int .i64 (a:Int)])/\Below (w.heap.size+1) (w.alloc (.cells #[.int .i64 0,.int .i64 0] 28)) a9):=⟨a7,yak (a2.alloc oA _) oN (a8.alloc _) a6⟩;clear a7 a6 ar)
     | (go_at_call 73;refine(ax _).mono ?_;rintro b w' ⟨c,rfl,C,av,N⟩;obtain rfl:=N.symm))
    have ai:=go_tok i M.out HS.out;obtain⟨y,an,ab⟩:=C.on f _ h oA ai.1;have ap:=C.top;have aO:=C.le;go_roundw
    case rel=>exact⟨c,y,_,ap,rfl,an,av,ab,yab T.out.1,oQ,T.out.2⟩
    case measure=>simp[intOf];omega
   ·have M:Hid (qH (s.data.toList.drop a)=.fault p):=t V;clear r t;have B:=go_fault i M.out HS.out;subst B
    go_wp2_with (first
     | (go_at_call 75;refine(Q _).mono ?_;rintro b aD ⟨ag,rfl,aj,K⟩)
     | (go_at_call 74;refine K.mono ?_;rintro b aE ⟨rfl,j⟩;obtain⟨m,g⟩:=zbz E o j)
     | (go_at_call 76;refine(S _ (zln R.out g)).mono ?_;rintro b aF ⟨rfl,k⟩;obtain⟨G,l⟩:=zbz m g k;obtain⟨ad,ae,aH,aI,aK⟩:=boxes l;clear m g j k))
    refine jU (v:=.tuple #[.slice none 0 0,.agg #[.int .i64 p,.int .i64 a]]) (by simp[results,Tryz.results38,go_sem,ad,ae]) rfl ⟨_,rfl,World.ownsRow_nil _ _ _ _,?_⟩;exact((zfx l).setCell (jE _) _).setCell (jE _) _
  ·have B:=go_end oA HS.out;subst B;go_wp2;refine jU (v:=.tuple #[u4,.agg #[.int .i64 0,.int .i64 0]]) (by simp[results,Tryz.results38,go_sem,ak,am]) rfl ⟨u4,rfl,?_,?_⟩;·exact ownsRow_le (ownsRow_setCell_below (ownsRow_setCell_below E oC _) oC _) oA
   ·exact((zfx o).setCell (jE _) _).setCell (jE _) _
theorem zuf (s:ByteArray) (w:World) (c:3000<s.size) : Calls Tryz.prog 38 #[.string s] w fun b w'=>∃v,b=.returned (.tuple #[v,.agg #[.int .i64 (scan s.data.toList).code,.int .i64 (scan s.data.toList).place]]) /\ w'.ownsRow w.heap.size 110 3 v (scan s.data.toList).toks.length (cellsOf (scan s.data.toList).toks)/\Below w.heap.size w w':=by
 have d:(3000:Int)<(s.size:Int):=oA;have a:scan s.data.toList=.err 1 0:=by rw[scan,jv (by rw[len_L];omega)]
 rw[a];clear a;go_enter Tryz.func38,Tryz.ntmps38;go_wp2;refine jU (v:=.tuple #[.slice none 0 0,.agg #[.int .i64 1,.int .i64 0]]) (by simp[results,Tryz.results38,go_sem]) rfl ⟨_,rfl,World.ownsRow_nil _ _ _ _,?_⟩;exact bal _
theorem scan_own (s:ByteArray):zrg qS 38 s:=by
 intro w b;rcases jM 3000 s.size with a | a
 ·exact zuf s w a
 ·exact yc5 s w a b
end Go.Proofs.YtbjppepjmcfkaaaGreatDoor.lexs
namespace Go.Proofs.YtbjppepjmcfkaaaGreatDoor.syn
open Go
theorem zsq {b:Program} (w:World) (G:Nat) (i o h:TypeId) (d:TypeInfo) (y:Value) (size z:Nat) (t:b.underlying i=some (.slice h)) (hi:b.info? h=some d) (E:d.zero=some y) (S:d.size=size) (M:d.bytes=z) (v:Value) (e:Nat) (x:List Value) (r:w.ownsRow G h size v e x) (j:Addr) (a m:Nat) (f:List Value) (n:f.length=a*size) (q:∀l g,f[l]?=some g->w.cell? (j.add l)=some g) (K:∀g∈f,g.oneCell'=true) (L:e+a<=maxLen) (C:(e+a)*z<=140737488355328) (W:0<a) {u:Value} {w':World} (s:(Builtin.append_ #[i,i] o #[v,.slice (some j) a m]).run b w=.ok u w'):u.ownBlock=v.ownBlock\/u.ownBlock=some w.heap.size:=by
 subst S;subst M;have a3:e+a<=9223372036854775807:=by simp only[maxLen]at L;omega
 rcases r.2 with⟨rfl,rfl⟩|⟨k,p,B,rfl,T,Q,a2,V,N,a5⟩
 ·have c:=run_append_nil (P:=b) w i o h d y t hi E j a m f n q oA oA (by simp only[Nat.zero_add]at C;omega);rw[s]at c;injection c with hv _;rw[hv];exact .inr rfl
 ·by_cases D:e+a<=p
  ·have P:e*d.size+f.length<=B.size:=by rw[n,N,<- Nat.add_mul];exact Nat.mul_le_mul_right _ D
   have c:=run_append_room (P:=b) w i o h d t hi k e p B Q j a m f n q K D P;rw[s]at c;injection c with hv _;rw[hv];exact .inl rfl
  ·have R:∀l g,x[l]?=some g->w.cell? ((⟨k,0,none⟩:Addr).add l)=some g:=r.cells (g:=k) rfl;have c:=run_append_grow (P:=b) w i o h d y t hi E ⟨k,0,none⟩ e p x r.1 R j a m f n q oA oA (growslice_fits oA C);rw[s]at c;injection c with hv _;rw[hv];exact .inr rfl
theorem zsf {b:Program} {w:World} {M:Array Oper} {rest:List Oper} {g:Oper} {k:Act} {r:Exit->Act->World->Prop} (W:g.guard=none) (s N:Operand) (j:TypeId) (a3:g.op=.call { callee:=.builtin .append,args:=#[s,N],argTypes:=#[j,j] }) (i:Nat) (c:TypeId) (d:TypeInfo) (p:Value) (size m:Nat) (G:b.underlying j=some (.slice c)) (hi:b.info? c=some d) (K:d.zero=some p) (E:d.size=size) (x:d.bytes=m) (a8:p.cells.size=size) (a6:0<size) (v:Value) (e:Nat) (o:List Value) (a5:k.eval s=v) (C:w.ownsRow i c size v e o) (l:Addr) (a q:Nat) (f:List Value) (a7:k.eval N=.slice (some l) a q) (z:f.length=a*size) (B:∀L n,f[L]?=some n->w.cell? (l.add L)=some n) (t:∀n∈f,n.oneCell'=true) (u:e+a<=maxLen) (y:(e+a)*m<=140737488355328) (V:i<=w.heap.size) (a2:0<a) (P:∀h w',w'.ownsRow i c size h (e+a) (o++f)->w.grownBy w' v.ownBlock->(h.ownBlock=v.ownBlock\/h.ownBlock=some w.heap.size)->wpList b M r rest (k.put g.dst h) w'):wpList b M r (g :: rest) k w:=by
 refine wpList_plain W fun a9 T=>?_
 obtain⟨h,w',D,Q,R,_⟩:=run_append_own (P:=b) w i j g.type c d p size m G hi K E x a8 a6 v e o C l a q f z B t u y V;have S:=zsq w i j g.type c d p size m G hi K E x v e o C l a q f z B t u y a2 D;unfold Oper.wp execOp;simp only[a3,resolve,invoke,builtin,Sem.run_bind,Sem.run_pure,Result.andThen_ok,List.map_toArray,List.map_cons,List.map_nil,a5,a7,D];exact T _ _ (P h w' Q R S)
end Go.Proofs.YtbjppepjmcfkaaaGreatDoor.syn
namespace Go.Proofs.YtbjppepjmcfkaaaGreatDoor.syn
open Go.RowKit
def cell4 (w:World) (g o:Nat) (v:Value):Prop:=∃a b c d,v=.agg #[a,b,c,d]/\w.cell? ⟨g,o,none⟩=some a/\w.cell? ⟨g,o+1,none⟩=some b/\w.cell? ⟨g,o+2,none⟩=some c/\w.cell? ⟨g,o+3,none⟩=some d
mutual
def Lies (P:Nat->Prop) (w:World):Tree->Value->Prop
 | .node k x m ks,v=>∃a c,v=.agg #[.int .i64 k,.string x,.int .i64 m,.slice a ks.length c]/\(ks.length<=4611686018427387904/\ks.length<=c)/\(ks≠[]->∃g o,a=some ⟨g,o,none⟩/\P g/\qF P w ks g o)
def qF (P:Nat->Prop) (w:World):List Tree->Nat->Nat->Prop
 | [],_,_=>True
 | t :: r,g,o=>(∃v,cell4 w g o v/\Lies P w t v)/\qF P w r g (o+4)
end
mutual
theorem Lies.to {c Q:Nat->Prop} {w w':World} (d:∀a,c a->Q a) (s:∀a,c a->∀b,w'.cell? ⟨a,b,none⟩=w.cell? ⟨a,b,none⟩):∀ {f:Tree} {v:Value},Lies c w f v->Lies Q w' f v
 | .node k x m ks,v,h=>by
  unfold Lies at h |-;obtain⟨g,i,j,q,p⟩:=h;refine⟨g,i,j,q,fun r=>?_⟩;obtain⟨n,b,l,e,o⟩:=p r;exact⟨n,b,l,d _ e,qF.to d s e o⟩
theorem qF.to {e Q:Nat->Prop} {w w':World} (f:∀b,e b->Q b) (c:∀b,e b->∀a,w'.cell? ⟨b,a,none⟩=w.cell? ⟨b,a,none⟩):∀ {g:List Tree} {d a:Nat},e d->qF e w g d a->qF Q w' g d a
 | [],d,a,hp,h=>by unfold qF;trivial
 | t :: r,d,a,hp,h=>by
  unfold qF at h |-;obtain⟨⟨v,⟨p,q,s,u,m,i,j,k,l⟩,n⟩,o⟩:=h;refine⟨⟨v,⟨p,q,s,u,m,?_,?_,?_,?_⟩,Lies.to f c n⟩,qF.to f c hp o⟩;·rw[c _ hp];exact i
  ·rw[c _ hp];exact j
  ·rw[c _ hp];exact k
  ·rw[c _ hp];exact l
end
theorem qF.get {e:Nat->Prop} {w:World}:∀ {d:List Tree} {c b:Nat},qF e w d c b->∀(a:Nat) (hi:a<d.length),∃v,cell4 w c (b+a*4) v/\Lies e w d[a] v
 | [],c,b,h,a,hi=>by simp at hi
 | t :: r,c,b,h,a,hi=>by
  unfold qF at h
  cases a with
  | zero=>simpa using h.1
  | succ a =>
   have:=qF.get h.2 a (by simpa using hi);have f:b+(a+1)*4=b+4+a*4:=oA;rw[f];exact this
theorem Lies.below {w w':World} {d:Tree} {v:Value} (e:Lies (·<w.heap.size) w d v) (c:Below w.heap.size w w'):Lies (·<w'.heap.size) w' d v :=
 e.to (fun b a=>jo a c.size) (fun b a f=>c.cell (p:=⟨b,f,none⟩) a)
theorem qF.below {w w':World} {f:List Tree} {b a:Nat} (h:b<w.heap.size) (g:qF (·<w.heap.size) w f b a) (e:Below w.heap.size w w'):qF (·<w'.heap.size) w' f b a :=
 g.to (fun d c=>jo c e.size) (fun d c a=>e.cell (p:=⟨d,a,none⟩) c) h
theorem zh4 {c:Int} {e:ByteArray} {d:Int} {a:List Tree} {b:Nat} (hi:b<a.length):SizeOf.sizeOf a[b]<SizeOf.sizeOf (Tree.node c e d a):=by
 have f:=List.sizeOf_lt_of_mem (jH hi);simp;omega
end Go.Proofs.YtbjppepjmcfkaaaGreatDoor.syn
namespace Go.Proofs.YtbjppepjmcfkaaaGreatDoor.syn
open Go.RowKit
open lexs (Tok cellsOf tok_cells own_shape zC)
abbrev Fr (r:Nat) (w w':World):Prop:=w.grownBy w' (some r)
theorem Fr.refl (r:Nat) (w:World):Fr r w w:=World.grownBy.refl _ _
theorem Fr.drewN {r:Nat} {w w':World} (a:Fr r w w') (b:Nat):Fr r w (w'.drewN b):=⟨a.os,a.tape,a.output,a.size,a.block⟩
theorem Fr.trans {r:Nat} {c d e:World} (a:Fr r c d) (b:Fr r d e):Fr r c e :=
 ⟨b.os.trans a.os,b.tape.trans a.tape,b.output.trans a.output,jp a.size b.size,fun h f g=>(b.block h (jo f a.size) g).trans (a.block h f g)⟩
theorem Fr.set {r:Nat} {w w':World} (a:Fr r w w') (o:Nat) (v:Value):Fr r w (w'.setCell ⟨r,o,none⟩ v) :=
 ⟨a.os,a.tape,a.output,by rw[jR];exact a.size,fun e d b=>(jQ _ _ _ _ (fun c=>b (by rw[c]))).trans (a.block e d b)⟩
end Go.Proofs.YtbjppepjmcfkaaaGreatDoor.syn
namespace Go.Proofs.YtbjppepjmcfkaaaGreatDoor.syn
open Go.RowKit
open lexs (Tok qV uZ)
section
variable {w:World} {r:Nat} {L:Value} {ts:List Tok} {s:St}
theorem Fr.below {w':World} (a:Below w.heap.size w w'):Fr r w w':=⟨a.os,a.tape,a.output,a.size,fun c b _=>a.block c b⟩
end
theorem yal {a b:ByteArray} (c:a=b):Ending.returned (.string a)=.returned (.string b):=by rw[c]
theorem name_size (ts:List Tok) (s:St):(name ts s).1.size<=16:=by
 unfold name;cases b:kO (txt ts s);·exact jz _
 ·simp only[if_true];rcases jM 16 (txt ts s).size with a | a
  ·rw[zfj oA]at b;exact absurd b oD
  ·exact a
end Go.Proofs.YtbjppepjmcfkaaaGreatDoor.syn
namespace Go.Proofs.YtbjppepjmcfkaaaGreatDoor.syn
open Go.RowKit
open lexs (Tok qV uZ qU val zC tok_cells own_shape)
section
variable {w:World} {r:Nat} {L:Value} {ts:List Tok} {s:St}
variable {b c d e:Value} {f:Nat}
theorem Fr.alloc {w':World} (b:Fr r w w') (a:Obj):Fr r w (w'.alloc a):=b.trans (Fr.below (bal a))
theorem Lies.leaf (d:Nat->Prop) (w:World) (a:Int) (c:ByteArray) (b:Int):Lies d w (.node a c b []) (.agg #[.int .i64 a,.string c,.int .i64 b,.slice none 0 0]):=by
 unfold Lies;exact⟨none,0,rfl,⟨oC,oC⟩,fun e=>absurd rfl e⟩
structure Box4 (w:World) (N:Nat) (x0 x1 x2 x3:Value):Prop where
 c0:w.cell? ⟨N,0,none⟩=some x0
 c1:w.cell? ⟨N,1,none⟩=some x1
 c2:w.cell? ⟨N,2,none⟩=some x2
 c3:w.cell? ⟨N,3,none⟩=some x3
 f0:w.frozen? ⟨N,0,none⟩=false
 f1:w.frozen? ⟨N,1,none⟩=false
 f2:w.frozen? ⟨N,2,none⟩=false
 f3:w.frozen? ⟨N,3,none⟩=false
theorem Box4.new (w:World) (a b c d:Value) (T:TypeId):Box4 (w.alloc (.cells #[a,b,c,d] T)) w.heap.size a b c d:=by
 constructor<;>simp
theorem Box4.lt (a:Box4 w f b c d e):f<w.heap.size:=jS w ⟨f,0,none⟩ a.c0
theorem Box4.fr {w':World} (g:Box4 w f b c d e) (i:Fr r w w') (j:f≠r):Box4 w' f b c d e:=by
 have h:=i.block f g.lt (by simpa using j)
 exact⟨(jN (a:=⟨f,0,none⟩) h).trans g.c0,(jN (a:=⟨f,1,none⟩) h).trans g.c1,(jN (a:=⟨f,2,none⟩) h).trans g.c2,(jN (a:=⟨f,3,none⟩) h).trans g.c3,
  (jO (a:=⟨f,0,none⟩) h).trans g.f0,(jO (a:=⟨f,1,none⟩) h).trans g.f1,(jO (a:=⟨f,2,none⟩) h).trans g.f2,(jO (a:=⟨f,3,none⟩) h).trans g.f3⟩
theorem Box4.alloc (a:Box4 w f b c d e) (g:Obj):Box4 (w.alloc g) f b c d e :=
 a.fr (r:=w.heap.size) (Fr.below (bal g)) (by have:=a.lt;omega)
theorem Box4.drewN (a:Box4 w f b c d e) (g:Nat):Box4 (w.drewN g) f b c d e:=⟨a.c0,a.c1,a.c2,a.c3,a.f0,a.f1,a.f2,a.f3⟩
theorem Box4.other {a M o:Nat} (f:Box4 w a b c d e) (g:M≠a) (v:Value):Box4 (w.setCell ⟨M,o,none⟩ v) a b c d e :=
 f.fr (r:=M) ((Fr.refl _ _).set o v) oA
theorem Box4.set2 (a:Box4 w f b c d e) (v:Value):Box4 (w.setCell ⟨f,2,none⟩ v) f b c v e :=
 ⟨by rw[jD _ _ _ _ oC];exact a.c0,by rw[jD _ _ _ _ oC];exact a.c1,jT _ _ _ a.c2,by rw[jD _ _ _ _ oC];exact a.c3,by simp[a.f0],by simp[a.f1],by simp[a.f2],by simp[a.f3]⟩
theorem Box4.set3 (a:Box4 w f b c d e) (v:Value):Box4 (w.setCell ⟨f,3,none⟩ v) f b c d v :=
 ⟨by rw[jD _ _ _ _ oC];exact a.c0,by rw[jD _ _ _ _ oC];exact a.c1,by rw[jD _ _ _ _ oC];exact a.c2,jT _ _ _ a.c3,by simp[a.f0],by simp[a.f1],by simp[a.f2],by simp[a.f3]⟩
theorem Fr.setNew {w':World} (a:Fr r w w') {N o:Nat} (e:w.heap.size<=N) (v:Value):Fr r w (w'.setCell ⟨N,o,none⟩ v) :=
 ⟨a.os,a.tape,a.output,by rw[jR];exact a.size,fun d b c=>(jQ _ _ _ _ oE).trans (a.block d b c)⟩
theorem Fr.put4 {w':World} (f:Fr r w w') {N:Nat} (a:w.heap.size<=N) (b c d e:Value):Fr r w ((((w'.setCell ⟨N,0,none⟩ b).setCell ⟨N,1,none⟩ c).setCell ⟨N,2,none⟩ d).setCell ⟨N,3,none⟩ e) :=
 (((f.setNew a b).setNew a c).setNew a d).setNew a e
end
end Go.Proofs.YtbjppepjmcfkaaaGreatDoor.syn
namespace Go.Proofs.YtbjppepjmcfkaaaGreatDoor.syn
open Go.RowKit
open lexs (Tok tok_cells own_shape)
section
variable {w:World} {r:Nat} {L:Value} {ts:List Tok} {s:St}
variable {b:Tree} {c d:Nat}
theorem Lies.shape {h:Nat->Prop} {v:Value} (g:Lies h w b v):∃d f e sl,v=.agg #[.int .i64 d,.string f,.int .i64 e,sl]/\∃a j c,sl=.slice a j c:=by
 cases b with
 | node d f e i =>
  unfold Lies at g;obtain⟨a,c,rfl,_⟩:=g;exact⟨d,f,e,_,rfl,a,i.length,c,rfl⟩
theorem Lies.fr {f g:World} {v:Value} (i:Lies (fun d=>c<=d/\d<f.heap.size) f b v) (k:r<c) (h:Fr r f g):Lies (fun d=>c<=d/\d<g.heap.size) g b v :=
 i.to (fun d e=>⟨e.1,jo e.2 h.size⟩) (fun d e j=>jN (a:=⟨d,j,none⟩) (h.block d e.2 oE))
theorem Lies.low {v:Value} (f:Lies (fun a=>c<=a/\a<w.heap.size) w b v) (g:d<=c):Lies (fun a=>d<=a/\a<w.heap.size) w b v :=
 f.to (fun a e=>⟨jp g e.1,e.2⟩) (fun _ _ _=>rfl)
theorem Fr.put (w:World) (a:Nat) (b c d e:Value):Fr a w ((((w.setCell ⟨a,0,none⟩ b).setCell ⟨a,1,none⟩ c).setCell ⟨a,2,none⟩ d).setCell ⟨a,3,none⟩ e) :=
 ((((Fr.refl _ _).set _ _).set _ _).set _ _).set _ _
theorem Fr.al (w:World) (a:Obj):Fr r w (w.alloc a):=(Fr.refl _ _).alloc a
theorem zu5 (w:World) {a b d e:Value} {f:TypeId} (g:c=w.heap.size):cell4 (w.alloc (.cells #[a,b,d,e] f)) c 0 (.agg #[a,b,d,e]):=by
 subst g;exact⟨a,b,d,e,rfl,oC,oC,oC,oC⟩
theorem Lies.one {a:Nat->Prop} {v:Value} {e f:Int} {g:ByteArray} (j:a c) (h:cell4 w c 0 v) (i:Lies a w b v) (k:1<=d:=by omega):Lies a w (.node e g f [b]) (.agg #[.int .i64 e,.string g,.int .i64 f,.slice (some ⟨c,0,none⟩) 1 d]):=by
 unfold Lies;refine⟨some ⟨c,0,none⟩,d,rfl,⟨oC,by simpa using k⟩,fun _=>⟨c,0,rfl,j,?_⟩⟩;unfold qF;exact⟨⟨v,h,i⟩,by unfold qF;trivial⟩
end
section
variable {w:World} {r:Nat} {L:Value} {ts:List Tok} {s:St}
variable {b c:Nat}
theorem Lies.frP {c Q:Nat->Prop} {x:Nat} {d h:World} {g:Tree} {v:Value} (i:Lies c d g v) (j:Fr x d h) (e:∀b,c b->b<d.heap.size/\b≠x) (k:∀b,c b->Q b):Lies Q h g v :=
 i.to k (fun b f l=>jN (a:=⟨b,l,none⟩) (j.block b (e b f).1 (by have:=(e b f).2;simpa using this)))
theorem Lies.two {a:Nat->Prop} {g h:Tree} {v d:Value} {e f:Int} {i:ByteArray} (n:a b) (j:cell4 w b 0 v) (k:cell4 w b 4 d) (l:Lies a w g v) (m:Lies a w h d) (o:2<=c:=by omega):Lies a w (.node e i f [g,h]) (.agg #[.int .i64 e,.string i,.int .i64 f,.slice (some ⟨b,0,none⟩) 2 c]):=by
 unfold Lies;refine⟨some ⟨b,0,none⟩,c,rfl,⟨oC,by simpa using o⟩,fun _=>⟨b,0,rfl,n,?_⟩⟩;unfold qF;refine⟨⟨v,j,l⟩,?_⟩;unfold qF;exact⟨⟨d,k,m⟩,by unfold qF;trivial⟩
theorem zu6 (w:World) {y0 y1 y2 y3 z0 z1 z2 z3:Value} {T:TypeId} (a:b=w.heap.size):cell4 (w.alloc (.cells #[y0,y1,y2,y3,z0,z1,z2,z3] T)) b 0 (.agg #[y0,y1,y2,y3])/\cell4 (w.alloc (.cells #[y0,y1,y2,y3,z0,z1,z2,z3] T)) b 4 (.agg #[z0,z1,z2,z3]):=by
 subst a;exact⟨⟨y0,y1,y2,y3,rfl,oC,oC,oC,oC⟩,⟨z0,z1,z2,z3,rfl,oC,oC,oC,oC⟩⟩
theorem Box4.put {j d e f c g h i:Value} (a:Box4 w b j d e f):Box4 ((((w.setCell ⟨b,0,none⟩ c).setCell ⟨b,1,none⟩ g).setCell ⟨b,2,none⟩ h).setCell ⟨b,3,none⟩ i) b c g h i:=by
 have k:∀o,(World.setCell w ⟨b,0,none⟩ c).frozen? ⟨b,o,none⟩=w.frozen? ⟨b,o,none⟩:=fun o=>oC
 refine⟨?_,?_,?_,?_,by simp[a.f0],by simp[a.f1],by simp[a.f2],by simp[a.f3]⟩;·rw[jD _ _ _ _ oC,jD _ _ _ _ oC,jD _ _ _ _ oC];exact jT _ _ _ a.c0
 ·rw[jD _ _ _ _ oC,jD _ _ _ _ oC];exact jT _ _ _ (u:=d) (by rw[jD _ _ _ _ oC];exact a.c1)
 ·rw[jD _ _ _ _ oC];exact jT _ _ _ (u:=e) (by rw[jD _ _ _ _ oC,jD _ _ _ _ oC];exact a.c2)
 ·exact jT _ _ _ (u:=f) (by rw[jD _ _ _ _ oC,jD _ _ _ _ oC,jD _ _ _ _ oC];exact a.c3)
end
end Go.Proofs.YtbjppepjmcfkaaaGreatDoor.syn
namespace Go.Proofs.YtbjppepjmcfkaaaGreatDoor.syn
open Go.RowKit
open lexs (Tok own_shape)
variable {b c:Nat->Prop} {d:Nat}
theorem zb9:(Tryz.prog.info? 25).map (fun a=>(a.zero,a.size,a.bytes))=some (some (.agg #[.int .i64 0,.string ⟨#[]⟩,.int .i64 0,.slice none 0 0]),4,56):=oB
abbrev Q4:=Value × Value × Value × Value
def Q4.v (q:Q4):Value:=.agg #[q.1,q.2.1,q.2.2.1,q.2.2.2]
def uX (a:List Q4):List Value:=a.flatMap fun q=>[q.1,q.2.1,q.2.2.1,q.2.2.2]
theorem ztv (a:List Q4) (q:Q4):uX (a++[q])=uX a++[q.1,q.2.1,q.2.2.1,q.2.2.2]:=by simp[uX]
def zG (P:Nat->Prop) (w:World):List Tree->List Q4->Prop
 | [],[]=>True
 | t :: r,q :: vs=>Lies P w t q.v/\zG P w r vs
 | _,_=>False
theorem zG.length {w:World}:∀ {c:List Tree} {a:List Q4},zG b w c a->c.length=a.length
 | [],[],_=>rfl
 | t :: r,q :: a,h=>by simp[zG.length h.2]
 | [],_ :: _,h=>by simp[zG]at h
 | _ :: _,[],h=>by simp[zG]at h
theorem zG.to {b Q:Nat->Prop} {w w':World} (d:∀a,b a->Q a) (e:∀a,b a->∀g,w'.cell? ⟨a,g,none⟩=w.cell? ⟨a,g,none⟩):∀ {f:List Tree} {c:List Q4},zG b w f c->zG Q w' f c
 | [],[],_=>trivial
 | t :: r,q :: c,h=>⟨h.1.to d e,zG.to d e h.2⟩
 | [],_ :: _,h=>by simp[zG]at h
 | _ :: _,[],h=>by simp[zG]at h
theorem zG.snoc {w:World} {e:Tree} {q:Q4} (c:Lies b w e q.v):∀ {d:List Tree} {a:List Q4},zG b w d a->zG b w (d++[e]) (a++[q])
 | [],[],_=>⟨c,trivial⟩
 | t' :: r,q' :: a,h=>⟨h.1,zG.snoc c h.2⟩
 | [],_ :: _,h=>by simp[zG]at h
 | _ :: _,[],h=>by simp[zG]at h
theorem zG.at {w:World} :∀ {g:List Tree} {a:List Q4} {f:Nat},zG b w g a->(∀e,e<a.length*4->w.cell? ⟨d,f+e,none⟩=(uX a)[e]?)->qF b w g d f
 | [],[],f,_,_=>by unfold qF;trivial
 | t :: r,q :: a,f,h,hc=>by
  unfold qF;have c:uX (q :: a)=[q.1,q.2.1,q.2.2.1,q.2.2.2]++uX a:=rfl;refine⟨⟨q.v,⟨q.1,q.2.1,q.2.2.1,q.2.2.2,rfl,?_,?_,?_,?_⟩,h.1⟩,zG.at h.2 ?_⟩;·have:=hc 0 oN;rw[c]at this;simpa using this
  ·have:=hc 1 oN;rw[c]at this;simpa using this
  ·have:=hc 2 oN;rw[c]at this;simpa using this
  ·have:=hc 3 oN;rw[c]at this;simpa using this
  ·intro e i;have:=hc (4+e) oE;rw[c,List.getElem?_append_right oC,<- Nat.add_assoc]at this
   simpa using this
 | [],_ :: _,_,h,_=>by simp[zG]at h
 | _ :: _,[],_,h,_=>by simp[zG]at h
def Kids (B:Nat) (P:Nat->Prop) (w:World) (b:Value) (ks:List Tree):Prop:=∃a,w.ownsRow B 25 4 b ks.length (uX a)/\zG P w ks a
theorem Kids.nil (a:Nat) (b:Nat->Prop) (w:World):Kids a b w (.slice none 0 0) []:=⟨[],World.ownsRow_nil _ _ _ _,trivial⟩
theorem Kids.lies {w:World} {g:Value} {e:List Tree} {l m:Int} {n:ByteArray} (p:Kids d b w g e) (r:∀h,b h->c h) (t:∀a,g.ownBlock=some a->c a) (u:e.length<=4611686018427387904):Lies c w (.node l n m e) (.agg #[.int .i64 l,.string n,.int .i64 m,g]):=by
 obtain⟨N,f,k⟩:=p;have L:=k.length;obtain⟨o,i,rfl,_,x⟩:=own_shape f
 have s:e.length<=i:=by
  rcases f.2 with⟨j,M⟩|⟨a,z,B,j,C,D,E,G,_⟩
  ·omega
  ·injection j with _ _ e2;omega
 unfold Lies;refine⟨o,i,rfl,⟨u,s⟩,fun v=>?_⟩;have q:0<e.length:=by cases e with | nil=>exact absurd rfl v | cons _ _=>simp
 obtain⟨a,rfl⟩:=x q;refine⟨a,0,rfl,t a rfl,(k.to r (fun _ _ _=>rfl)).at ?_⟩;intro y K;rw[Nat.zero_add];exact f.cellAt y oA
theorem zah (w:World) (d e f g:Value) (j:TypeId) (h:Nat) (i:h=w.heap.size):∀b c,[d,e,f,g][b]?=some c->(w.alloc (.cells #[d,e,f,g] j)).cell? ((⟨h,0,none⟩:Addr).add b)=some c:=by
 subst i;intro b c a
 match b,a with
 | 0,a=>simp at a;subst a;simp[Addr.add]
 | 1,a=>simp at a;subst a;simp[Addr.add]
 | 2,a=>simp at a;subst a;simp[Addr.add]
 | 3,a=>simp at a;subst a;simp[Addr.add]
theorem zi9 {d e f:World} {c:Option Nat} (a:d.grownBy e c) (b:e.grownBy f c):d.grownBy f c :=
 ⟨b.os.trans a.os,b.tape.trans a.tape,b.output.trans a.output,jp a.size b.size,fun i g h=>(b.block i (jo g a.size) h).trans (a.block i g h)⟩
theorem Box4.grown {w w':World} {row:Option Nat} {e f g h:Value} (b:Box4 w d e f g h) (j:w.grownBy w' row) (k:row≠some d):Box4 w' d e f g h:=by
 have c:=j.block d b.lt (fun i=>k i.symm)
 exact⟨(jN (a:=⟨d,0,none⟩) c).trans b.c0,(jN (a:=⟨d,1,none⟩) c).trans b.c1,(jN (a:=⟨d,2,none⟩) c).trans b.c2,(jN (a:=⟨d,3,none⟩) c).trans b.c3,
  (jO (a:=⟨d,0,none⟩) c).trans b.f0,(jO (a:=⟨d,1,none⟩) c).trans b.f1,(jO (a:=⟨d,2,none⟩) c).trans b.f2,(jO (a:=⟨d,3,none⟩) c).trans b.f3⟩
section
variable {w:World} {r:Nat} {L:Value} {ts:List Tok} {s:St}
variable {b c:Nat} {d e:Nat->Prop} {f:Value} {g:List Tree}
theorem Kids.shape (h:Kids b d w f g):∃a c,f=.slice a g.length c:=by
 obtain⟨j,i,_⟩:=h;obtain⟨a,c,e,_⟩:=own_shape i;exact⟨a,c,e⟩
theorem Kids.blk (a:Kids b d w f g) (e:f.ownBlock=some c):b<=c/\c<w.heap.size:=by
 obtain⟨i,h,_⟩:=a;exact h.lt c e
theorem Kids.grown {w':World} {row:Option Nat} (k:Kids b d w f g) (j:w.grownBy w' row) (n:f.ownBlock=none\/f.ownBlock≠row) (h:∀c,d c->c<w.heap.size/\some c≠row) (l:∀c,d c->e c):Kids b e w' f g:=by
 obtain⟨q,o,m⟩:=k;exact⟨q,o.kept j n,m.to l (fun c i p=>jN (a:=⟨c,p,none⟩) (j.block c (h c i).1 (h c i).2))⟩
end
section
variable {w:World} {r:Nat} {L:Value} {ts:List Tok} {s:St}
theorem zdm (ts:List Tok) (s:St):0<=(label ts s).1/\(label ts s).1<=1:=by
 unfold label;split<;>simp
end
end Go.Proofs.YtbjppepjmcfkaaaGreatDoor.syn
namespace Go.Proofs.YtbjppepjmcfkaaaGreatDoor.syn
open Go.RowKit
def dH (w:World):Prop:=∃cs t fr,w.heap[3]?=some (.cells cs t fr)/\cs.size=20/\∀k,k<10->cs[k*2]?=some (.string (opAt k))/\cs[k*2+1]?=some (.int .i64 (cW k))
end Go.Proofs.YtbjppepjmcfkaaaGreatDoor.syn
namespace Go.Proofs.YtbjppepjmcfkaaaGreatDoor.syn
open Go.RowKit
open lexs (Tok Fine)
structure Ld (w:World) (r G:Nat) (ts:List Tok) (s:St):Prop where
 c0:∃a c,w.cell? ⟨r,0,none⟩=some (.slice a (ts.length - s.i) c)/\ts.length - s.i<=c/\(s.i<ts.length->a=some ⟨G,s.i*3,none⟩)
 f0:w.frozen? ⟨r,0,none⟩=false
 tok:∀(k:Nat) (h:k<ts.length),w.cell? ⟨G,k*3,none⟩=some (.int .i64 ts[k].kind)/\w.cell? ⟨G,k*3+1,none⟩=some (.string (raw ts[k]))/\w.cell? ⟨G,k*3+2,none⟩=some (.int .i64 (ts[k].at_:Int))
 old:G<r
 len:ts.length<=3000
 le:s.i<=ts.length
 good:∀t∈ts,Fine t
 ok:s.bad=false
 ops:dH w
 low:3<r
section
variable {w w':World} {r G:Nat} {ts:List Tok} {s:St}
variable {a:List ByteArray}
theorem Ld.lt (a:Ld w r G ts s):r<w.heap.size:=by obtain⟨c,d,b,_⟩:=a.c0;exact jS w ⟨r,0,none⟩ b
theorem Ld.gt (a:Ld w r G ts s) (b:0<ts.length):G<w.heap.size:=jS w ⟨G,0*3,none⟩ (a.tok 0 b).1
theorem Ld.keep (a:Ld w r G ts s) {row:Option Nat} (g:w.grownBy w' row) (i:∀b,row=some b->r<b):Ld w' r G ts s:=by
 have j:=g.block r a.lt (fun d=>by have:=i r d.symm;omega);refine⟨?_,(jO (a:=⟨r,0,none⟩) j).trans a.f0,?_,a.old,a.len,a.le,a.good,a.ok,?_,a.low⟩;·obtain⟨c,k,m,e,f⟩:=a.c0;exact⟨c,k,(jN (a:=⟨r,0,none⟩) j).trans m,e,f⟩
 ·intro b o;have h:=g.block G (a.gt oA) (fun d=>by have e:=i G d.symm;have f:=a.old;omega);rw[jN (a:=⟨G,b*3,none⟩) h,jN (a:=⟨G,b*3+1,none⟩) h,jN (a:=⟨G,b*3+2,none⟩) h];exact a.tok b o
 ·obtain⟨l,p,fr,e,f,n⟩:=a.ops;have q:=a.low;have t:=a.lt;exact⟨l,p,fr,by rw[g.block _ oA (fun d=>by have:=i _ d.symm;omega)];exact e,f,n⟩
theorem Ld.alloc (b:Ld w r G ts s) (a:Obj):Ld (w.alloc a) r G ts s:=b.keep (World.grownBy_alloc w a none) oC
theorem Ld.drewN (a:Ld w r G ts s) (b:Nat):Ld (w.drewN b) r G ts s:=⟨a.c0,a.f0,a.tok,a.old,a.len,a.le,a.good,a.ok,a.ops,a.low⟩
theorem Ld.set (b:Ld w r G ts s) {N:Nat} (c:r<N) (o:Nat) (v:Value):Ld (w.setCell ⟨N,o,none⟩ v) r G ts s :=
 b.keep ((Fr.refl N w).set o v) (fun d a=>by
  obtain rfl:N=d:=by simpa using a
  exact c)
def zQ (ts:List Tok) (s:St) (a:List ByteArray):Bool:=a.any fun y=>eqS (txt ts s) y
theorem zkd (e:¬s.i<ts.length) (b:a.all xQ=true):zQ ts s a=false:=by
 unfold zQ;rw[List.any_eq_false];intro d c;rw[List.all_eq_true]at b;rw[zzb oE (b d c)];simp
theorem zxe (f:Ld w r G ts s) (g:s.i<ts.length) (c:a.all xQ=true):zQ ts s a=a.any fun b=>eqS (raw ts[s.i]) b:=by
 unfold zQ;rw[List.all_eq_true]at c;have e:∀b∈a,eqS (txt ts s) b=eqS (raw ts[s.i]) b:=fun b d=>zev (f.good _ (jH g)) f.ok (by simp[g]) (c b d)
 clear c
 induction a with
 | nil=>rfl
 | cons h j ih =>
  rw[List.any_cons,List.any_cons,e h oC,ih (fun b d=>e b (by simp[d]))]
def lost (ts:List Tok) (s:St):Value:=match ts[s.i]? with
 | some t=>.iface 151 (.agg #[.int .i64 (t.at_:Int)])
 | none=>.iface 152 (.agg #[])
def Pan (ts:List Tok) (s:St):List PanicEntry:=[{ v:=lost ts s,recovered:=false }]
def Words (w:World) (g:Nat) (a:List ByteArray):Prop:=∀(k:Nat) (b:k<a.length),w.cell? ⟨g,k,none⟩=some (.string a[k])
theorem zu1 {c:ByteArray} {b:Nat} (f:b<a.length) (d:eqS c a[b]=true):(a.any fun e=>eqS c e)=true:=by
 rw[List.any_eq_true];exact⟨a[b],jH _,d⟩
theorem zy1 {b:ByteArray} (d:∀j (h:j<a.length),eqS b a[j]=false):(a.any fun c=>eqS b c)=false:=by
 rw[List.any_eq_false];intro c f;obtain⟨g,e,rfl⟩:=List.mem_iff_getElem.1 f;simp[d g e]
theorem ybu (d:ByteArray) (a:List ByteArray) (j p:Nat) (x:a.length<=100) (k:Words w j a) : Calls Tryz.prog 196 #[.slice (some ⟨j,0,none⟩) a.length p,.string d] w fun q w'=>∃o:Int,q=.returned (.int .i64 o)/\decide (0<=o)=(a.any fun g=>eqS d g)/\w'=w:=by
 go_enter Tryz.func196,Tryz.ntmps196;go_wp2;go_loop [8] (fun l=>∃b:Nat,b<=a.length/\l=.int .i64 b/\Hid (∀c (f:c<a.length),c<b->eqS d a[c]=false)) (fun l=>a.length - (intOf l).toNat)
 case atStart=>exact⟨0,jz _,rfl,fun c _ f=>oA⟩
 case round =>
  obtain⟨b,v,rfl,i⟩:=hrel;by_cases n:b<a.length
  ·have u:=k b n;have r:Hid (Words w j a):=k;clear k;have s:Hid (eqS d a[b]=eqS d a[b]):=rfl;cases h:eqS d a[b]
   ·have e:Hid (eqS d a[b]=false):=h;unfold eqS at h;go_wp2
    go_round
    case rel=>exact⟨b+1,oA,oM,fun c f t=>by
     rcases jM c b with m | m
     ·exact i.out c f m
     ·have:c=b:=oA;subst this
      exact e.out⟩
    case measure=>simp[intOf];omega
   ·have e:Hid ((a.any fun g=>eqS d g)=true):=zu1 n h;unfold eqS at h;go_wp2;go_ret;exact⟨(b:Int),rfl,by rw[e.out];simp,rfl⟩
  ·have e:Hid ((a.any fun g=>eqS d g)=false):=zy1 (fun c f=>i.out c f oA);clear i;go_wp2;go_ret;exact⟨-1,rfl,by rw[e.out];rfl,rfl⟩
theorem zv8 (b:ByteArray) (a:List ByteArray) (c e:Nat) (i:a.length<=100) (h:Words w c a) : Calls Tryz.prog 177 #[.slice (some ⟨c,0,none⟩) a.length e,.string b] w fun f w'=>f=.returned (.bool (a.any fun d=>eqS b d))/\w'=w:=by
 have g:=ybu b a c e i h;generalize (a.any fun d=>eqS b d)=k at *;go_enter Tryz.func177,Tryz.ntmps177;go_wp2_with (fail);refine g.mono ?_;rintro f m ⟨l,rfl,hi,j⟩;obtain rfl:=j.symm;go_wp2;go_ret;exact⟨by rw[<- hi];rfl,rfl⟩
end
section
variable {w w':World} {r G:Nat} {ts:List Tok} {s:St}
theorem dX (b:Ld w r G ts s) (a:List ByteArray) (d e:Nat) (n:a.length<=100) (h:a.all xQ=true) (m:Words w d a) : Calls Tryz.prog 151 #[.pointer (some ⟨r,0,none⟩),.slice (some ⟨d,0,none⟩) a.length e] w fun f w'=>f=.returned (.bool (zQ ts s a))/\w'=w:=by
 have u:=kc110;have y:=b.len;obtain⟨t,v,j,x,k⟩:=b.c0;by_cases c:s.i<ts.length;·obtain rfl:=k c;rw[zxe b c h];obtain⟨E,K,L⟩:=b.tok s.i c;have l:=zv8 (w:=w) (raw ts[s.i]) a d e n m;generalize (a.any fun p=>eqS (raw ts[s.i]) p)=q at *;generalize raw ts[s.i]=D at *;have g:0<ts.length - s.i:=oA;have z:ts.length - s.i<=3000:=oA;generalize ts.length - s.i=B at *;go_enter Tryz.func151,Tryz.ntmps151;go_wp2_with (fail);refine l.mono ?_;rintro f C ⟨rfl,o⟩;obtain rfl:=o.symm;go_wp2;go_ret;exact⟨rfl,rfl⟩
 ·rw[zkd c h];have g:ts.length - s.i=0:=oA;rw[g]at j;go_enter Tryz.func151,Tryz.ntmps151;go_wp2;go_ret;exact⟨rfl,rfl⟩
theorem zcn (a:Ld w r G ts s) : Calls Tryz.prog 152 #[.pointer (some ⟨r,0,none⟩)] w fun d w'=>d=.panicked (Pan ts s)/\w'=w:=by
 have h:=kc110;have l:=a.len;obtain⟨g,j,e,k,f⟩:=a.c0;unfold Pan lost;by_cases b:s.i<ts.length;·obtain rfl:=f b;rw[List.getElem?_eq_getElem b];obtain⟨o,p,q⟩:=a.tok s.i b;have c:0<ts.length - s.i:=oA;have m:ts.length - s.i<=3000:=oA;generalize ts.length - s.i=n at *;dsimp only;go_enter Tryz.func152,Tryz.ntmps152;go_wp2;exact⟨rfl,rfl,rfl⟩
 ·rw[List.getElem?_eq_none oA];have c:ts.length - s.i=0:=oA;rw[c]at e;dsimp only;go_enter Tryz.func152,Tryz.ntmps152;go_wp2;exact⟨rfl,rfl,rfl⟩
theorem zba (a:Ld w r G ts s) (e:s.i<ts.length) : Calls Tryz.prog 153 #[.pointer (some ⟨r,0,none⟩)] w fun j w'=>j=.returned (.string (raw ts[s.i]))/\Ld w' r G ts s.next/\Fr r w w':=by
 have D:=kc110;have N:=a.len;obtain⟨C,g,n,E,o⟩:=a.c0;obtain rfl:=o e;obtain⟨R,S,T⟩:=a.tok s.i e;have u:=a.f0;have P:0<ts.length - s.i:=oA;have Q:ts.length - s.i<=3000:=oA;have p:ts.length - s.next.i=ts.length - s.i - 1:=by unfold St.next;dsimp only;omega
 have key:∀(b:Option Addr) (c:Nat),ts.length - s.i - 1<=c->(1<ts.length - s.i->b=some ⟨G,s.i*3+3,none⟩)->Ld (w.setCell ⟨r,0,none⟩ (.slice b (ts.length - s.i - 1) c)) r G ts s.next:=by
  intro b c L q;refine⟨⟨b,c,?_,oA,fun d=>?_⟩,by simp[u],?_,a.old,a.len,e,a.good,a.ok,?_,a.low⟩;·rw[jT _ _ _ n,p]
  ·rw[q (by unfold St.next at d;dsimp only at d;omega)];unfold St.next;simp only[jh,Addr.mk.injEq,true_and,and_true];omega
  ·intro y v;have K:=a.old;rw[jD _ _ _ _ oN,jD _ _ _ _ oN,jD _ _ _ _ oN];exact a.tok y v
  ·obtain⟨h,B,fr,k,l,m⟩:=a.ops;have M:=a.low;exact⟨h,B,fr,by rw[jQ _ _ _ _ oN];exact k,l,m⟩
 have f:Hid (∀(b:Option Addr) (c:Nat),ts.length - s.i - 1<=c->(1<ts.length - s.i->b=some ⟨G,s.i*3+3,none⟩)->Ld (w.setCell ⟨r,0,none⟩ (.slice b (ts.length - s.i - 1) c)) r G ts s.next):=key;clear key;generalize ts.length - s.i=z at *;by_cases t:g=1;·subst t;have x:z=1:=oA;subst x;go_enter Tryz.func153,Tryz.ntmps153;go_wp2;go_ret;exact⟨rfl,f.out (some ⟨G,s.i*3,none⟩) 0 oA (fun d=>oA),(Fr.refl _ _).set _ _⟩
 ·go_enter Tryz.func153,Tryz.ntmps153;go_wp2;go_ret;exact⟨rfl,f.out _ _ oA (fun d=>rfl),(Fr.refl _ _).set _ _⟩
theorem cE {c:List ByteArray} (d:c.all xQ=true) (a:zQ ts s c=true):s.i<ts.length:=by
 rcases jM s.i ts.length with b | b
 ·exact b
 ·rw[zkd oA d]at a;simp at a
theorem zwe (g:Ld w r G ts s) (a:List ByteArray) (c e:Nat) (k:a.length<=100) (d:a.all xQ=true) (j:Words w c a) (b:zQ ts s a=true) : Calls Tryz.prog 124 #[.pointer (some ⟨r,0,none⟩),.slice (some ⟨c,0,none⟩) a.length e] w fun f w'=>f=.returned (.bool true)/\Ld w' r G ts s.next/\Fr r w w':=by
 have h:=dX g a c e k d j;rw[b]at h;have l:=zba g (cE d b);go_enter Tryz.func124,Tryz.ntmps124;exact zq1
theorem zyd (g:Ld w r G ts s) (a:List ByteArray) (b c:Nat) (i:a.length<=100) (j:a.all xQ=true) (h:Words w b a) (f:zQ ts s a=false) : Calls Tryz.prog 124 #[.pointer (some ⟨r,0,none⟩),.slice (some ⟨b,0,none⟩) a.length c] w fun d w'=>d=.returned (.bool false)/\w'=w:=by
 have e:=dX g a b c i j h;rw[f]at e;go_enter Tryz.func124,Tryz.ntmps124;go_wp2_with (fail);refine e.mono ?_;rintro d l ⟨rfl,k⟩;obtain rfl:=k.symm;go_wp2;go_ret;exact⟨rfl,rfl⟩
theorem zb1 (g:Ld w r G ts s) (a:List ByteArray) (c e:Nat) (k:a.length<=100) (d:a.all xQ=true) (j:Words w c a) (b:zQ ts s a=true) : Calls Tryz.prog 122 #[.pointer (some ⟨r,0,none⟩),.slice (some ⟨c,0,none⟩) a.length e] w fun f w'=>f=.returned (.string (raw (ts[s.i]'(cE d b))))/\Ld w' r G ts s.next/\Fr r w w':=by
 have h:=dX g a c e k d j;rw[b]at h;have l:=zba g (cE d b);generalize raw (ts[s.i]'(cE d b))=u at *;go_enter Tryz.func122,Tryz.ntmps122;exact zq1
theorem zgs (f:Ld w r G ts s) (a:List ByteArray) (c d:Nat) (j:a.length<=100) (k:a.all xQ=true) (i:Words w c a) (g:zQ ts s a=false) : Calls Tryz.prog 122 #[.pointer (some ⟨r,0,none⟩),.slice (some ⟨c,0,none⟩) a.length d] w fun b w'=>b=.panicked (Pan ts s)/\w'=w:=by
 have e:=dX f a c d j k i;rw[g]at e;have h:=zcn f;go_enter Tryz.func122,Tryz.ntmps122;go_wp2_with (fail);refine e.mono ?_;rintro b n ⟨rfl,l⟩;obtain rfl:=l.symm;go_wp2_with (fail);refine h.mono ?_;rintro b o ⟨rfl,m⟩;obtain rfl:=m.symm;go_wp2;exact⟨rfl,rfl,rfl⟩
end
theorem eqS_comm (a b:ByteArray):eqS a b=eqS b a:=by unfold eqS;rw[Bool.eq_iff_iff];simp only[beq_iff_eq];exact eq_comm
section
variable {w w':World} {r G:Nat} {ts:List Tok} {s:St}
theorem Ld.below (b:Ld w r G ts s) (a:Below w.heap.size w w'):Ld w' r G ts s:=b.keep (row:=none) ⟨a.os,a.tape,a.output,a.size,fun d c _=>a.block d c⟩ oC
theorem reserved_any (a:ByteArray):(xS.any fun b=>eqS b a)=((a.toList==[100,111])||(a.toList==[101,108,115,101])||(a.toList==[103,105,118,101,115])||(a.toList==[104,105,103,104])||(a.toList==[105,102])||(a.toList==[105,109,112,111,114,116])||(a.toList==[105,110])||(a.toList==[108,111,119])||(a.toList==[109,111,100,117,108,101])||(a.toList==[111,117,116])||(a.toList==[112,114,111,99])||(a.toList==[112,117,98])||(a.toList==[114,101,116,117,114,110])||(a.toList==[119,104,105,108,101])):=by
 have e:(xS.any fun b=>eqS b a)=(xS.any fun b=>eqS a b):=by
  rw[Bool.eq_iff_iff,List.any_eq_true,List.any_eq_true];constructor;·rintro⟨b,c,d⟩;exact⟨b,c,by rw[eqS_comm];exact d⟩
  ·rintro⟨b,c,d⟩;exact⟨b,c,by rw[eqS_comm];exact d⟩
 rw[e];unfold xS;simp only[List.any_cons,List.any_nil,Bool.or_false];rw[show eqS a ⟨#[100,111]⟩=(a.toList==[100,111])from eqS_lit a [100,111],show eqS a ⟨#[101,108,115,101]⟩=(a.toList==[101,108,115,101])from eqS_lit a [101,108,115,101],show eqS a ⟨#[103,105,118,101,115]⟩=(a.toList==[103,105,118,101,115])from eqS_lit a [103,105,118,101,115],show eqS a ⟨#[104,105,103,104]⟩=(a.toList==[104,105,103,104])from eqS_lit a [104,105,103,104],show eqS a ⟨#[105,102]⟩=(a.toList==[105,102])from eqS_lit a [105,102],show eqS a ⟨#[105,109,112,111,114,116]⟩=(a.toList==[105,109,112,111,114,116])from eqS_lit a [105,109,112,111,114,116],show eqS a ⟨#[105,110]⟩=(a.toList==[105,110])from eqS_lit a [105,110],show eqS a ⟨#[108,111,119]⟩=(a.toList==[108,111,119])from eqS_lit a [108,111,119],show eqS a ⟨#[109,111,100,117,108,101]⟩=(a.toList==[109,111,100,117,108,101])from eqS_lit a [109,111,100,117,108,101],show eqS a ⟨#[111,117,116]⟩=(a.toList==[111,117,116])from eqS_lit a [111,117,116],show eqS a ⟨#[112,114,111,99]⟩=(a.toList==[112,114,111,99])from eqS_lit a [112,114,111,99],show eqS a ⟨#[112,117,98]⟩=(a.toList==[112,117,98])from eqS_lit a [112,117,98],show eqS a ⟨#[114,101,116,117,114,110]⟩=(a.toList==[114,101,116,117,114,110])from eqS_lit a [114,101,116,117,114,110],show eqS a ⟨#[119,104,105,108,101]⟩=(a.toList==[119,104,105,108,101])from eqS_lit a [119,104,105,108,101]];simp only[Bool.or_assoc]
theorem oisName (b d:Int) (a:ByteArray) (w:World) : Calls Tryz.prog 69 #[.agg #[.int .i64 b,.string a,.int .i64 d]] w fun e w'=>e=.returned (.bool (!(xS.any fun g=>eqS g a)&&b==1))/\Below w.heap.size w w':=by
 have h:=kc110;rw[reserved_any];cases i:(a.toList==[100,111])
 case true =>
  exact uF
 cases j:(a.toList==[101,108,115,101])
 case true =>
  exact uF
 cases o:(a.toList==[103,105,118,101,115])
 case true =>
  exact uF
 cases p:(a.toList==[104,105,103,104])
 case true =>
  exact uF
 cases q:(a.toList==[105,102])
 case true =>
  exact uF
 cases r:(a.toList==[105,109,112,111,114,116])
 case true =>
  exact uF
 cases s:(a.toList==[105,110])
 case true =>
  exact uF
 cases t:(a.toList==[108,111,119])
 case true =>
  exact uF
 cases u:(a.toList==[109,111,100,117,108,101])
 case true =>
  exact uF
 cases v:(a.toList==[111,117,116])
 case true =>
  exact uF
 cases k:(a.toList==[112,114,111,99])
 case true =>
  exact uF
 cases l:(a.toList==[112,117,98])
 case true =>
  exact uF
 cases m:(a.toList==[114,101,116,117,114,110])
 case true =>
  exact uF
 cases n:(a.toList==[119,104,105,108,101])
 case true =>
  exact uF
 simp only[Bool.or_false,Bool.not_false,Bool.true_and];go_enter Tryz.func69,Tryz.ntmps69;go_wp2;go_ret;exact⟨rfl,bal _⟩
def dV (w:World) (r G:Nat) (ts:List Tok) (v:Value) (s':St) (e:Ending) (w':World):Prop :=
 (s'.bad=true/\e=.panicked (Pan ts s')/\Fr r w w')\/(s'.bad=false/\e=.returned v/\Ld w' r G ts s'/\Fr r w w')
theorem cK (a:s.i<ts.length):ts[s.i]?=some ts[s.i]:=List.getElem?_eq_getElem a
theorem fV (a:Ld w r G ts s):Calls Tryz.prog 123 #[.pointer (some ⟨r,0,none⟩)] w (dV w r G ts (.string (name ts s).1) (name ts s).2):=by
 have M:=kc110;have Q:=a.len;have S:=a.lt;obtain⟨L,N,x,P,y⟩:=a.c0;unfold name;by_cases d:s.i<ts.length
 ·obtain rfl:=y d;obtain⟨T,V,W⟩:=a.tok s.i d;have u:0<ts.length - s.i:=oA;have R:ts.length - s.i<=3000:=oA;have q:=fun w=>oisName ts[s.i].kind (ts[s.i].at_:Int) (raw ts[s.i]) w
  have t:=zxz (a.good _ (jH d)) a.ok (cK d);rw[t]
  have o:ownName ts[s.i]=true->txt ts s=raw ts[s.i]:=by
   intro c;unfold ownName at c;simp only[jj,beq_iff_eq]at c;unfold txt;rw[zaz a.ok,cK d];simp only;rw[c.2,ju oD];rfl
  have j:∀w:World,Calls Tryz.prog 69 #[.agg #[.int .i64 ts[s.i].kind,.string (raw ts[s.i]),.int .i64 (ts[s.i].at_:Int)]] w fun b w'=>b=.returned (.bool (ownName ts[s.i]))/\Below w.heap.size w w':=q
  clear q t;cases n:ownName ts[s.i]
  ·rw[n]at j;simp only[jr,if_false];have f:∀w',Fr r w w'->Ld w' r G ts s->Calls Tryz.prog 152 #[.pointer (some ⟨r,0,none⟩)] w' fun b k=>b=.panicked (Pan ts s)/\k=w':=fun w' _ c=>zcn c
   have l:Hid (Ld w r G ts s):=a;clear o a;generalize ts[s.i].kind=K at *;generalize raw ts[s.i]=tx at *;generalize ts[s.i].at_=E at *;generalize ts.length - s.i=D at *;go_enter Tryz.func123,Tryz.ntmps123;go_wp2_with (fail);refine(j _).mono ?_;rintro b g ⟨rfl,e⟩;have h:Fr r w g:=Fr.below e;have m:Ld g r G ts s:=l.out.below e;go_wp2_with (fail);refine(f _ h m).mono ?_;rintro b v ⟨rfl,p⟩;obtain rfl:=p.symm;go_wp2;exact⟨rfl,.inl ⟨rfl,rfl,h⟩⟩
  ·rw[n]at j;simp only[if_true];rw[o n];have f:∀w',Ld w' r G ts s->Calls Tryz.prog 153 #[.pointer (some ⟨r,0,none⟩)] w' fun b k=>b=.returned (.string (raw ts[s.i]))/\Ld k r G ts s.next/\Fr r w' k:=fun w' c=>zba c d
   have l:Hid (Ld w r G ts s):=a;have C:s.next.bad=false:=a.ok;clear o a;generalize ts[s.i].kind=K at *;generalize raw ts[s.i]=tx at *;generalize ts[s.i].at_=E at *;generalize ts.length - s.i=D at *;go_enter Tryz.func123,Tryz.ntmps123;go_wp2_with (fail);refine(j _).mono ?_;rintro b g ⟨rfl,e⟩;have h:Fr r w g:=Fr.below e;have m:Ld g r G ts s:=l.out.below e;go_wp2_with (fail);refine(f _ m).mono ?_;rintro b v ⟨rfl,B,z⟩;go_wp2;go_ret;exact .inr ⟨C,rfl,B,h.trans z⟩
 ·have u:ts.length - s.i=0:=oA;rw[u]at x;rw[zvt (List.getElem?_eq_none oA)];simp only[jr,if_false];have f:=zcn a;go_enter Tryz.func123,Tryz.ntmps123;go_wp2_with (fail);refine f.mono ?_;rintro b v ⟨rfl,p⟩;obtain rfl:=p.symm;go_wp2;exact⟨rfl,.inl ⟨rfl,rfl,Fr.refl _ _⟩⟩
end
end Go.Proofs.YtbjppepjmcfkaaaGreatDoor.syn
namespace Go.Proofs.YtbjppepjmcfkaaaGreatDoor.syn
open Go.RowKit
theorem zcz {w w':World} (a:dH w) (f:Below w.heap.size w w'):dH w':=by
 obtain⟨c,h,fr,b,d,e⟩:=a
 have g:3<w.heap.size:=by
  rcases jM 3 w.heap.size with a | a
  ·exact a
  ·rw[Array.getElem?_eq_none a]at b;simp at b
 exact⟨c,h,fr,by rw[f.block _ g];exact b,d,e⟩
theorem zwc (b:Array Value) (k:b.size=20) (g:∀a,a<10->b[a*2]?=some (.string (opAt a))/\b[a*2+1]?=some (.int .i64 (cW a))) (a:Nat) (d:a<10) (w:World) : (Instr.index 287 (.agg b) (.int .i64 (a:Int))).run Tryz.prog w=.ok (.agg #[.string (opAt a),.int .i64 (cW a)]) w:=by
 have i:=kc286;obtain⟨e,f⟩:=g a d
 have h:b.extract (a*2) (a*2+2)=#[.string (opAt a),.int .i64 (cW a)]:=by
  apply Array.ext_getElem?;intro c;rw[Array.getElem?_extract];by_cases hi:c<2
  ·have j:min (a*2+2) b.size=a*2+2:=oA;rw[jv oA];rcases(show c=0\/c=1 by omega)with rfl | rfl
   ·simpa using e
   ·simpa using f
  ·rw[ju oA];simp;omega
 simp[Instr.index,go_sem,Tryz.underlying287,d,h]
theorem ten {a:Nat} (b:a<10):a=0\/a=1\/a=2\/a=3\/a=4\/a=5\/a=6\/a=7\/a=8\/a=9:=oA
theorem zeu {b c:ByteArray} (a:eqS b c=true):c=b:=by
 unfold eqS at a;rw[beq_iff_eq,ByteArray.toList_eq,ByteArray.toList_eq]at a;exact WideShapes.bytes_inj a.symm
theorem zlk (a b:ByteArray):eqS a b=(a.data.toList==b.data.toList):=by unfold eqS;rw[ByteArray.toList_eq,ByteArray.toList_eq]
theorem zap (a:ByteArray):sign a=((signs.find? fun b=>b.1.data.toList==a.data.toList).map (·.2)).getD (0,-1):=by
 unfold sign;simp only[zlk]
theorem yby {b:ByteArray} {a:Nat} (e:a<10) (d:eqS (opAt a) b=true) (c:0<=(sign b).2):(a:Int)=(sign b).1:=by
 obtain rfl:=zeu d;rw[zap]at c |-;rcases ten e with rfl | rfl | rfl | rfl | rfl | rfl | rfl | rfl | rfl | rfl<;>revert c<;>decide
theorem op_none {x:ByteArray} (a:∀b,b<10->eqS (opAt b) x=false):(sign x).2<0:=by
 have c:sign x=(0,-1):=by
  refine zgh x (fun b d=>?_);have e:b<9:=d;rcases zbi e with rfl | rfl | rfl | rfl | rfl | rfl | rfl | rfl | rfl
  ·exact a 9 oA
  ·exact a 8 oA
  ·exact a 1 oA
  ·exact a 2 oA
  ·exact a 7 oA
  ·exact a 3 oA
  ·exact a 4 oA
  ·exact a 5 oA
  ·exact a 6 oA
 rw[c]
 decide
theorem zrv (b:ByteArray) (w:World) (y:dH w) (t:0<=(sign b).2) : Calls Tryz.prog 233 #[.string b] w fun x w'=>x=.returned (.int .i64 (sign b).1)/\Below w.heap.size w w':=by
 have E:=kc286;have hi:(Tryz.prog.info? 287).map (·.size)=some 20:=oB
 obtain⟨m,B,fr,z,s,o⟩:=y;have i:=fun a q w=>zwc m s o a q w
 clear o;rw[<- s]at hi;have l:Hid (0<=(sign b).2):=t;clear t;obtain⟨e,j⟩:∃e,e=(sign b).1:=⟨_,rfl⟩
 rw[<- j];have u:Hid (e=(sign b).1):=j;clear j;go_enter Tryz.func233,Tryz.ntmps233;go_wp2_with (refine wpList_load_row rfl 287 _ rfl 3 rfl B m fr _ z Tryz.underlying287 rfl hi ?_);go_loopw [6] (fun v wr=>∃a:Nat,a<=10/\v=.int .i64 a/\Below w.heap.size w wr/\Hid (∀c,c<a->eqS (opAt c) b=false)) (fun v _=>10 - (intOf v).toNat)
 case atStart=>exact⟨0,oA,rfl,Below.refl _ _,fun c p=>oA⟩
 case round =>
  obtain⟨a,q,rfl,g,k⟩:=hrel;by_cases r:a<10
  ·have f:=i a r wr;have G:(a:Int)<10:=oA;cases d:eqS (opAt a) b
   ·have h:Hid (eqS (opAt a) b=false):=d;unfold eqS at d;clear i;generalize opAt a=C at f d;generalize cW a=D at f;go_wp2;go_roundw
    case rel=>exact⟨a+1,oA,oM,g.alloc g.size _,fun c p=>by
     rcases jM c a with n | n
     ·exact k.out c n
     ·have:c=a:=oA;subst this
      exact h.out⟩
    case measure=>simp[intOf];omega
   ·have h:Hid ((a:Int)=e):=(yby r d l.out).trans u.out.symm;unfold eqS at d;clear i;generalize opAt a=C at f d;generalize cW a=D at f;go_wp2;go_ret;exact⟨by rw[<- h.out];rfl,g.alloc g.size _⟩
  ·have:=op_none (x:=b) (fun c p=>k.out c oA);have:=l.out;omega
end Go.Proofs.YtbjppepjmcfkaaaGreatDoor.syn
namespace Go.Proofs.YtbjppepjmcfkaaaGreatDoor.syn
open Go.RowKit
open lexs (Tok Fine)
section
variable {w w':World} {r G:Nat} {ts:List Tok} {s:St}
variable {a:ByteArray}
theorem Words.one (w:World) (b:ByteArray) (c:TypeId) {a:Nat} (d:a=w.heap.size):Words (w.alloc (.cells #[.string b] c)) a [b]:=by
 subst d;intro f e;obtain rfl:f=0:=by simpa using e
 simp
theorem Words.two (w:World) (c d:ByteArray) (e:TypeId) {a:Nat} (f:a=w.heap.size):Words (w.alloc (.cells #[.string c,.string d] e)) a [c,d]:=by
 subst f;intro b g;have:b=0\/b=1:=by simp at g;omega
 rcases this with rfl | rfl<;>simp
theorem zcj {b:Bool} (c:eqS (txt ts s) a=b):zQ ts s [a]=b:=by unfold zQ;simp[c]
theorem yX (g:Ld w r G ts s) (a:ByteArray) (i:[a].all xQ=true) (c:eqS (txt ts s) a=true) {M:Nat} {T:TypeId} (h:M=w.heap.size) : Calls Tryz.prog 124 #[.pointer (some ⟨r,0,none⟩),.slice (some ⟨M,0,none⟩) 1 1] (w.alloc (.cells #[.string a] T)) fun b w'=>b=.returned (.bool true)/\Ld w' r G ts s.next/\Fr r w w' :=
 (zwe (g.alloc _) [a] M 1 oC i (Words.one w a T h) (zcj c)).mono fun b w' ⟨d,e,f⟩=>⟨d,e,(Fr.al _ _).trans f⟩
theorem yO (d:Ld w r G ts s) (a:ByteArray) (h:[a].all xQ=true) (e:eqS (txt ts s) a=false) {M:Nat} {T:TypeId} (g:M=w.heap.size) : Calls Tryz.prog 124 #[.pointer (some ⟨r,0,none⟩),.slice (some ⟨M,0,none⟩) 1 1] (w.alloc (.cells #[.string a] T)) fun b w'=>b=.returned (.bool false)/\Ld w' r G ts s/\Fr r w w' :=
 (zyd (d.alloc _) [a] M 1 oC h (Words.one w a T g) (zcj e)).mono fun b w' ⟨f,c⟩=>⟨f,by rw[c];exact d.alloc _,by rw[c];exact Fr.al _ _⟩
theorem zam (b:eqS (txt ts s) a=true):kE ts a s=s.next:=by unfold kE;rw[b,jv rfl]
theorem zf9 (b:eqS (txt ts s) a=false):kE ts a s=s.fail:=by unfold kE;rw[b,ju oD]
theorem uP (d:Ld w r G ts s) (a:ByteArray) (f:[a].all xQ=true) {M:Nat} {T:TypeId} (e:M=w.heap.size) : Calls Tryz.prog 122 #[.pointer (some ⟨r,0,none⟩),.slice (some ⟨M,0,none⟩) 1 1] (w.alloc (.cells #[.string a] T)) fun c w'=>∃i,dV w r G ts (.string i) (kE ts a s) c w':=by
 cases b:eqS (txt ts s) a;·rw[zf9 b];refine(zgs (d.alloc _) [a] M 1 oC f (Words.one w a T e) (zcj b)).mono ?_;rintro c w' ⟨rfl,rfl⟩;exact⟨empty,.inl ⟨rfl,rfl,Fr.al _ _⟩⟩
 ·rw[zam b];refine(zb1 (d.alloc _) [a] M 1 oC f (Words.one w a T e) (zcj b)).mono ?_;rintro c w' ⟨rfl,g,h⟩;exact⟨_,.inr ⟨d.ok,rfl,g,(Fr.al _ _).trans h⟩⟩
theorem cM (b:Ld w r G ts s):Calls Tryz.prog 155 #[.pointer (some ⟨r,0,none⟩)] w (dV w r G ts (.int .i64 (label ts s).1) (label ts s).2):=by
 have e:([⟨#[108,111,119]⟩,⟨#[104,105,103,104]⟩]:List ByteArray).all xQ=true:=oD;unfold label;cases l:eqS (txt ts s) ⟨#[104,105,103,104]⟩
 ·simp only[jr,if_false];cases j:eqS (txt ts s) ⟨#[108,111,119]⟩
  ·rw[zf9 j];have h:=fun a (d:a=w.heap.size)=>zgs (b.alloc (.cells #[.string ⟨#[108,111,119]⟩,.string ⟨#[104,105,103,104]⟩] 9)) [⟨#[108,111,119]⟩,⟨#[104,105,103,104]⟩] a 2 oC e (Words.two w _ _ _ d) (by unfold zQ;simp[l,j])
   go_enter Tryz.func155,Tryz.ntmps155;go_wp2_with (fail);refine(h _ rfl).mono ?_;rintro m u ⟨rfl,t⟩;obtain rfl:=t.symm;go_wp2;exact⟨rfl,.inl ⟨rfl,rfl,Fr.al _ _⟩⟩
  ·rw[zam j];have f:zQ ts s [⟨#[108,111,119]⟩,⟨#[104,105,103,104]⟩]=true:=by unfold zQ;simp[j]
   have h:=fun a (d:a=w.heap.size)=>zb1 (b.alloc (.cells #[.string ⟨#[108,111,119]⟩,.string ⟨#[104,105,103,104]⟩] 9)) [⟨#[108,111,119]⟩,⟨#[104,105,103,104]⟩] a 2 oC e (Words.two w _ _ _ d) f
   have c:=cE e f
   have q:((raw (ts[s.i]'c)).toList==[104,105,103,104])=false:=by
    exact zoj
   exact zqz
 ·simp only[if_true];have f:zQ ts s [⟨#[108,111,119]⟩,⟨#[104,105,103,104]⟩]=true:=by unfold zQ;simp[l]
  have h:=fun a (d:a=w.heap.size)=>zb1 (b.alloc (.cells #[.string ⟨#[108,111,119]⟩,.string ⟨#[104,105,103,104]⟩] 9)) [⟨#[108,111,119]⟩,⟨#[104,105,103,104]⟩] a 2 oC e (Words.two w _ _ _ d) f
  have c:=cE e f
  have q:((raw (ts[s.i]'c)).toList==[104,105,103,104])=true:=by
   exact zoj
  exact zqz
theorem zdf (v:Ld w r G ts s):Calls Tryz.prog 214 #[.pointer (some ⟨r,0,none⟩)] w (dV w r G ts (.string (whole ts s).1) (whole ts s).2):=by
 have e:=fV v
 have o:(name ts s).2.bad=true->(whole ts s).2=(name ts s).2:=by
  intro a;unfold whole;dsimp only;rw[zqg oD a];simp
 by_cases f:(name ts s).2.bad=true
 ·rw[o f];go_enter Tryz.func214,Tryz.ntmps214;go_wp2_with (fail);refine e.mono ?_;rintro d u (⟨_,rfl,b⟩|⟨a,_,_,_⟩);·go_wp2;exact⟨rfl,.inl ⟨f,rfl,b⟩⟩
  ·rw[f]at a;cases a
 ·have g:(name ts s).2.bad=false:=by simpa using f
  clear o f;have p:=name_size ts s;unfold whole;generalize name ts s=q at e p g |-;obtain⟨C,c⟩:=q;simp only at e p g |-;unfold eat
  cases n:eqS (txt ts c) ⟨#[46]⟩
  ·simp only[jr,if_false];go_enter Tryz.func214,Tryz.ntmps214;go_wp2_with (fail);refine e.mono ?_;rintro d u (⟨a,_,_⟩|⟨_,rfl,k,b⟩);·rw[g]at a;cases a
   go_wp2_with (fail);refine(yO k ⟨#[46]⟩ oD n rfl).mono ?_;rintro d y ⟨rfl,l,h⟩;go_wp2;go_ret;exact .inr ⟨g,rfl,l,b.trans h⟩
  ·simp only[if_true];have t:=name_size ts c.next;have m:∀ {w:World},Ld w r G ts c.next->Calls Tryz.prog 123 #[.pointer (some ⟨r,0,none⟩)] w (dV w r G ts (.string (name ts c.next).1) (name ts c.next).2):=fun a=>fV a
   generalize name ts c.next=q at m t |-;obtain⟨D,z⟩:=q;simp only at m t |-;go_enter Tryz.func214,Tryz.ntmps214;go_wp2_with (fail);refine e.mono ?_;rintro d u (⟨a,_,_⟩|⟨_,rfl,k,b⟩);·rw[g]at a;cases a
   go_wp2_with (fail);refine(yX k ⟨#[46]⟩ oD n rfl).mono ?_;rintro d y ⟨rfl,l,h⟩;go_wp2_with (fail);refine(m l).mono ?_;rintro d B (⟨i,rfl,j⟩|⟨i,rfl,x,j⟩);·go_wp2;exact⟨rfl,.inl ⟨i,rfl,(b.trans h).trans j⟩⟩
   ·go_wp2;go_ret;refine .inr ⟨i,yal ?_,x,(b.trans h).trans j⟩;apply WideShapes.bytes_inj;simp
end
end Go.Proofs.YtbjppepjmcfkaaaGreatDoor.syn
namespace Go.Proofs.YtbjppepjmcfkaaaGreatDoor.syn
open Go.RowKit
open lexs (Tok Fine val zC qU)
def kG (w:World) (r G:Nat) (ts:List Tok) (q:Tree × St) (e:Ending) (w':World):Prop :=
 (q.2.bad=true/\e=.panicked (Pan ts q.2)/\Fr r w w')\/(q.2.bad=false/\∃v,e=.returned v/\Lies (fun b=>w.heap.size<=b/\b<w'.heap.size) w' q.1 v/\Ld w' r G ts q.2/\Fr r w w')
section
variable {w w':World} {r G:Nat} {ts:List Tok} {s:St}
theorem dV.lost {v:Value} {c a:St} (b:c=a) (e:a.bad=true) (d:Fr r w w'):dV w r G ts v c (.panicked (Pan ts a)) w':=.inl ⟨by rw[b];exact e,by rw[b],d⟩
theorem kG.lost {q:Tree × St} {a:St} (b:q.2=a) (d:a.bad=true) (c:Fr r w w'):kG w r G ts q (.panicked (Pan ts a)) w':=.inl ⟨by rw[b];exact d,by rw[b],c⟩
theorem Ld.put4 (f:Ld w r G ts s) {N:Nat} (a:r<N) (b c d e:Value):Ld ((((w.setCell ⟨N,0,none⟩ b).setCell ⟨N,1,none⟩ c).setCell ⟨N,2,none⟩ d).setCell ⟨N,3,none⟩ e) r G ts s :=
 (((f.set a 0 b).set a 1 c).set a 2 d).set a 3 e
theorem kG.fin {b:World} {s3:St} {t:Tree} {c d e f:Value} {g a:Nat} (n:r<w.heap.size) (k:Fr r w b) (i:Ld b r G ts s3) (m:w.heap.size<=a) (j:a<g) (l:Lies (fun h=>g<=h/\h<b.heap.size) b t (.agg #[c,d,e,f])) : kG w r G ts (t,s3) (.returned (.agg #[c,d,e,f])) ((((b.setCell ⟨a,0,none⟩ c).setCell ⟨a,1,none⟩ d).setCell ⟨a,2,none⟩ e).setCell ⟨a,3,none⟩ f) :=
 .inr ⟨i.ok,_,rfl,(l.fr j (Fr.put _ _ _ _ _ _)).low oA,i.put4 oA _ _ _ _,k.put4 m _ _ _ _⟩
theorem Lies.rowed {a:World} {d:Nat} {j:Tree} {f g h i:Value} {T:TypeId} {M c:Nat} {k m:Int} {x:ByteArray} (l:Lies (fun b=>d<=b/\b<a.heap.size) a j (.agg #[f,g,h,i])) (q:d<=a.heap.size) (n:M=a.heap.size) (r:1<=c:=by omega) : Lies (fun b=>d<=b/\b<(a.alloc (.cells #[f,g,h,i] T)).heap.size) (a.alloc (.cells #[f,g,h,i] T)) (.node k x m [j]) (.agg #[.int .i64 k,.string x,.int .i64 m,.slice (some ⟨M,0,none⟩) 1 c]):=by
 refine Lies.one ⟨oA,oK⟩ (zu5 _ n) ?_;exact l.to (fun b e=>⟨e.1,oK⟩) (fun b e o=>((Below.refl a.heap.size a).alloc (jE _) _).cell (p:=⟨b,o,none⟩) e.2)
theorem gS (i:Ld w r G ts s) (d e:Int) (g:ByteArray) (b:Option Addr) (f c:Nat) : Calls Tryz.prog 125 #[.pointer (some ⟨r,0,none⟩),.agg #[.int .i64 d,.string g,.int .i64 e,.slice b f c]] w (dV w r G ts (.agg #[.int .i64 d,.string g,.int .i64 e,.slice b f c]) (kE ts ⟨#[59]⟩ s)):=by
 have B:=kc25;have D:=i.lt;have n:=Box4.new w (.int .i64 d) (.string g) (.int .i64 e) (.slice b f c) 25;have p:=Box4.new (w.alloc (.cells #[.int .i64 d,.string g,.int .i64 e,.slice b f c] 25)) (.int .i64 0) (.string empty) (.int .i64 0) (.slice none 0 0) 25;have o:=n.alloc (.cells #[.int .i64 0,.string empty,.int .i64 0,.slice none 0 0] 25);go_enter Tryz.func125,Tryz.ntmps125;go_wp2_with (fail);refine(uP ((i.alloc _).alloc _) ⟨#[59]⟩ oD oC).mono ?_;rintro C N ⟨P,⟨h,rfl,a⟩|⟨h,rfl,q,a⟩⟩;·go_wp2;exact⟨rfl,dV.lost rfl h (((Fr.al _ _).trans (Fr.al _ _)).trans a)⟩
 ·obtain⟨j,k,l,m,u,x,y,z⟩:=p.fr a oN;obtain⟨E,K,L,M,_,_,_,_⟩:=o.fr a oA;simp only[jP]at j k l m u x y z;have t:=a.size;simp only[jP]at t;go_wp2
  exact jU (v:=.agg #[.int .i64 d,.string g,.int .i64 e,.slice b f c]) (by simp[results,Tryz.results125,go_sem,j,k,l,m]) rfl
   (.inr ⟨h,rfl,q.put4 oA _ _ _ _,(((Fr.al _ _).trans (Fr.al _ _)).trans a).put4 oA _ _ _ _⟩)
theorem yb1 (d:Ld w r G ts s) : Calls Tryz.prog 179 #[.pointer (some ⟨r,0,none⟩)] w (kG w r G ts (.node 5 (name ts (label ts s).2).1 (label ts s).1 [],(name ts (label ts s).2).2)):=by
 have o:=kc25;have j:=d.lt;have g:=Box4.new w (.int .i64 0) (.string empty) (.int .i64 0) (.slice none 0 0) 25;go_enter Tryz.func179,Tryz.ntmps179;go_wp2_with (fail);refine(cM (d.alloc _)).mono ?_;rintro f x (⟨c,rfl,a⟩|⟨c,rfl,h,a⟩);·go_wp2;exact⟨rfl,kG.lost (fJ c) c ((Fr.al _ _).trans a)⟩
 go_wp2_with (fail);refine(fV h).mono ?_;rintro f y (⟨e,rfl,b⟩|⟨e,rfl,i,b⟩);·go_wp2;exact⟨rfl,kG.lost rfl e (((Fr.al _ _).trans a).trans b)⟩
 obtain⟨k,l,m,n,p,q,t,u⟩:=(g.fr a oA).fr b oA;go_wp2
 exact jU (v:=.agg #[.int .i64 5,.string (name ts (label ts s).2).1,.int .i64 (label ts s).1,.slice none 0 0]) (by simp[results,Tryz.results179,go_sem,k,l,m,n]) rfl
  (kG.fin j (((Fr.al _ _).trans a).trans b) i (jE _) (Nat.lt_succ_self _) (Lies.leaf _ _ _ _ _))
theorem zw9 {a:List UInt8} (b:zC a=0) (g:a≠[]):a.all qU=true/\val a<9223372036854775808/\a.length<=3000:=by
 have d:=zjv b
 have e:(decide (1<a.length)&&a.headD 0==48)=false:=by
  cases e:(decide (1<a.length)&&a.headD 0==48);·rfl
  ·unfold zC at b;rw[d,e]at b;simp at b
 have f:=lexs.numE_val a d g e;rw[b]at f;refine⟨d,?_,?_⟩
 ·rcases jM (val a) 9223372036854775808 with c | c
  ·exact c
  ·rw[ju oA]at f;simp at f
 ·unfold zC at b;rw[d,e]at b;simp only[Bool.true_eq_false,jr,if_false]at b;rcases jM 19 a.length with c | c
  ·rw[decide_eq_true c]at b;simp at b
  ·omega
theorem zhg (a:Ld w r G ts s) : Calls Tryz.prog 156 #[.pointer (some ⟨r,0,none⟩)] w (kG w r G ts (number ts s)):=by
 have a2:=kc110;have W:=kc25;have a7:=a.len;have D:=a.lt;have u:=Box4.new w (.int .i64 0) (.string empty) (.int .i64 0) (.slice none 0 0) 25;have c:=a.alloc (.cells #[.int .i64 0,.string empty,.int .i64 0,.slice none 0 0] 25);obtain⟨V,a3,q,a5,t⟩:=a.c0;unfold number;rw[zaz a.ok];by_cases b:s.i<ts.length
 ·obtain rfl:=t b;rw[cK b];obtain⟨ae,af,ag⟩:=a.tok s.i b;have a6:=a.gt oA;have m:0<ts.length - s.i:=oA;have a8:ts.length - s.i<=3000:=oA;simp only;cases e:(ts[s.i].kind==2)
  ·simp only[jr,if_false];have B:(ts[s.i].kind != 2)=true:=by simp only[bne,e,Bool.not_false]
   have l:=zcn c;generalize ts[s.i].kind=S at *;generalize ts.length - s.i=M at *;exact zog
  ·simp only[if_true];have B:(ts[s.i].kind != 2)=false:=by simp only[bne,e,Bool.not_true]
   have d:=a.good _ (jH b);obtain⟨z,E,C⟩:=zw9 (d.num (by simpa using e)) d.ne;have y:=zba c b;have j:=fun w=>lexs.parse_ok (raw ts[s.i]) (by rw[raw_size];exact C) (by rw[raw_list];exact z) (by rw[raw_list];exact d.ne) (by rw[raw_list];exact E) w
   rw[raw_list]at j;generalize ts[s.i].kind=S at *;generalize ts.length - s.i=M at *;generalize raw ts[s.i]=ad at *;generalize val ts[s.i].text=L at *;go_enter Tryz.func156,Tryz.ntmps156;go_wp2_with (fail);refine y.mono ?_;rintro f T ⟨rfl,x,g⟩;go_wp2_with (fail);refine(j _).mono ?_;rintro f o ⟨rfl,k⟩;have h:Fr r T o:=Fr.below k;obtain⟨N,P,Q,R,a9,aa,ab,ac⟩:=(u.fr g oA).fr h oA;go_wp2
   exact jU (v:=.agg #[.int .i64 15,.string empty,.int .i64 L,.slice none 0 0]) (by simp[results,Tryz.results156,go_sem,N,P,Q,R,empty]) rfl
    (kG.fin D (((Fr.al _ _).trans g).trans h) (x.below k) (jE _) (Nat.lt_succ_self _) (Lies.leaf _ _ _ _ _))
 ·rw[List.getElem?_eq_none oA];have m:ts.length - s.i=0:=oA;rw[m]at q;have l:=zcn c;exact zog
end
end Go.Proofs.YtbjppepjmcfkaaaGreatDoor.syn
namespace Go.Proofs.YtbjppepjmcfkaaaGreatDoor.syn
open Go.RowKit
open lexs (Tok Fine)
section
variable {w w':World} {r G:Nat} {ts:List Tok} {s:St}
def kT (r G:Nat) (ts:List Tok) (F:Nat) (g:St->Option (Tree × St)):Prop :=
 ∀ {w:World} {s:St} {q:Tree × St},Ld w r G ts s->g s=some q->Calls Tryz.prog F #[.pointer (some ⟨r,0,none⟩)] w (kG w r G ts q)
theorem zv9 {g:Nat} (ih:kT r G ts 218 (qN ts g)):kT r G ts 217 (yL ts (g+1)):=by
 intro w s q l d;have ae:=kc25;have L:=l.lt;have K:=Box4.new w (.int .i64 0) (.string empty) (.int .i64 0) (.slice none 0 0) 25;unfold yL at d;obtain⟨a8,E,k⟩:=qP d;simp only[jh]at k;subst k;have ag:=uP (T:=9) (l.alloc (.cells #[.int .i64 0,.string empty,.int .i64 0,.slice none 0 0] 25)) ⟨#[40]⟩ oD (M:=w.heap.size+1) oC
 have ai:Hid ((kE ts ⟨#[40]⟩ s).bad=true->kE ts ⟨#[41]⟩ a8.2=kE ts ⟨#[40]⟩ s):=fun h=>by
  rw[(stuck ts g).e _ _ h E];exact kY oD h
 generalize kE ts ⟨#[40]⟩ s=ao at *;go_enter Tryz.func217,Tryz.ntmps217;go_wp2_with (fail);refine ag.mono ?_;rintro f P ⟨ad,⟨h,rfl,a⟩|⟨h,rfl,m,a⟩⟩;·go_wp2;exact⟨rfl,kG.lost (ai.out h) h ((Fr.al _ _).trans a)⟩
 go_wp2_with (fail);refine(ih m E).mono ?_;rintro f C (⟨n,rfl,b⟩|⟨n,aj,rfl,p,R,b⟩);·go_wp2;exact zok
 obtain⟨t,e,u,_,rfl,D,N,j,rfl⟩:=p.shape;go_wp2_with (fail);refine(uP (R.alloc _) ⟨#[41]⟩ oD oC).mono ?_;rintro f ak ⟨am,⟨o,rfl,c⟩|⟨o,rfl,S,c⟩⟩;·go_wp2;exact⟨rfl,kG.lost rfl o ((((Fr.al _ _).trans a).trans b).trans ((Fr.al _ _).trans c))⟩
 have V:=a.size;have an:=b.size;rw[jP]at V;obtain⟨x,y,z,B,a9,aa,ab,ac⟩:=(((K.fr a oA).fr b oA).alloc _).fr c oA;obtain⟨a3,a5,a6,a7,_,_,_,_⟩:=(Box4.new C (.int .i64 t) (.string e) (.int .i64 u) (.slice D N j) 25).fr c oA;go_wp2
 exact jU (v:=.agg #[.int .i64 t,.string e,.int .i64 u,.slice D N j]) (by simp[results,Tryz.results217,go_sem,x,y,z,B]) rfl
  (kG.fin L ((((Fr.al _ _).trans a).trans b).trans ((Fr.al _ _).trans c)) S (jE _) (show w.heap.size<P.heap.size by omega) (p.fr oA ((Fr.al _ _).trans c)))
theorem zqx {g:Nat} (ih:kT r G ts 218 (qN ts g)) (e:ByteArray) {w:World} {s:St} {q:Tree × St} (l:Ld w r G ts s) (d:yE ts (g+1) e s=some q) : Calls Tryz.prog 219 #[.pointer (some ⟨r,0,none⟩),.string e] w (kG w r G ts q):=by
 have ae:=kc25;have L:=l.lt;have K:=Box4.new w (.int .i64 0) (.string empty) (.int .i64 0) (.slice none 0 0) 25;have W:=l.alloc (.cells #[.int .i64 0,.string empty,.int .i64 0,.slice none 0 0] 25);unfold yE at d;cases i:eqS (txt ts s) ⟨#[91]⟩
 ·rw[i]at d;simp only[jr,if_false,jh]at d;subst d;have Q:=yO (T:=9) W ⟨#[91]⟩ oD i (M:=w.heap.size+1) oC;clear i;go_enter Tryz.func219,Tryz.ntmps219;go_wp2_with (fail);refine Q.mono ?_;rintro f P ⟨rfl,m,a⟩;obtain⟨x,y,z,B,a9,aa,ab,ac⟩:=K.fr a oA;go_wp2
  exact jU (v:=.agg #[.int .i64 16,.string e,.int .i64 0,.slice none 0 0]) (by simp[results,Tryz.results219,go_sem,x,y,z,B]) rfl
   (kG.fin L ((Fr.al _ _).trans a) m (jE _) (Nat.lt_succ_self _) (Lies.leaf _ _ _ _ _))
 ·rw[i]at d;simp only[if_true]at d;obtain⟨a8,E,k⟩:=qP d;simp only[jh]at k;subst k;have Q:=yX (T:=9) W ⟨#[91]⟩ oD i (M:=w.heap.size+1) oC;clear i;go_enter Tryz.func219,Tryz.ntmps219;go_wp2_with (fail);refine Q.mono ?_;rintro f P ⟨rfl,m,a⟩;go_wp2_with (fail);refine(ih m E).mono ?_;rintro f C (⟨n,rfl,b⟩|⟨n,aj,rfl,p,R,b⟩);·go_wp2;exact zok
  obtain⟨t,ad,u,_,rfl,D,N,j,rfl⟩:=p.shape;have ah:=p.rowed (T:=25) (k:=17) (x:=e) (m:=0) (c:=1) b.size rfl;go_wp2_with (fail);refine(uP ((R.alloc _).alloc _) ⟨#[93]⟩ oD oC).mono ?_;rintro f ak ⟨am,⟨o,rfl,c⟩|⟨o,rfl,S,c⟩⟩;·go_wp2;exact⟨rfl,kG.lost rfl o ((((Fr.al _ _).trans a).trans b).trans (((Fr.al _ _).trans (Fr.al _ _)).trans c))⟩
  have V:=a.size;have an:=b.size;rw[jP]at V;obtain⟨x,y,z,B,a9,aa,ab,ac⟩:=((((K.fr a oA).fr b oA).alloc _).alloc _).fr c oA;obtain⟨a3,a5,a6,a7,_,_,_,_⟩:=(Box4.new (C.alloc (.cells #[.int .i64 t,.string ad,.int .i64 u,.slice D N j] 25)) (.int .i64 17) (.string e) (.int .i64 0) (.slice (some ⟨C.heap.size,0,none⟩) 1 1) 25).fr c oN;simp only[jP]at a3 a5 a6 a7;go_wp2
  exact jU (v:=.agg #[.int .i64 17,.string e,.int .i64 0,.slice (some ⟨C.heap.size,0,none⟩) 1 1]) (by simp[results,Tryz.results219,go_sem,x,y,z,B]) rfl
   (kG.fin L ((((Fr.al _ _).trans a).trans b).trans (((Fr.al _ _).trans (Fr.al _ _)).trans c)) S (jE _) (show w.heap.size<P.heap.size by omega) (ah.fr oA ((Fr.al _ _).trans c)))
end
end Go.Proofs.YtbjppepjmcfkaaaGreatDoor.syn
