/- How long a row of texts may be that comes in. -/
import Derived.Test.YtbjppepjmcfkaaaGreatDoorTQr
import Derived.Test.YtbjppepjmcfkaaaGreatDoorTQ15
import Derived.Deep.Onto
set_option maxHeartbeats 4000000
set_option linter.unusedVariables false
set_option linter.unusedSimpArgs false
set_option maxRecDepth 100000
namespace Go.Proofs.YtbjppepjmcfkaaaGreatDoor
theorem zm4 {a7:Prop} (ae:a7:=by
 have:=BoxC.new (w.alloc (.cells #[.int .i64 0,.slice none 0 0,.slice none 0 0,.int .i64 0,.int .i64 0,.int .i64 0] 44)) #[.int .i64 0,.int .i64 0,.int .i64 0] 36;rw[jP]at this
 exact this):a7:=ae
theorem zd4 {g:Prop} (G:g:=by
 have:=(f.rh.lt _ q).1;omega):g:=G
theorem zd3 {g:Prop} (G:g:=by
 have:=(f.rl.lt _ q).1;omega):g:=G
theorem zm7 {g:Prop} (G:g:=by
 rw[t];exact(f.stc.box k b2).other oA _):g:=G
theorem zm6 {g:Prop} (G:g:=by
 rw[t];exact(f.stc.box j b1).other oA _):g:=G
theorem zm5 {g:Prop} (G:g:=by
 show Value.int .i64 ((fuel.toNat:Nat):Int)=_;rw[Int.toNat_of_nonneg aj.1]):g:=G
theorem zm3 {g:Prop} (G:g:=by
 have de:=M.cell 2 (v:=intV a7) (by simp[yQ]);have df:=M.cell 3 (v:=.slice a2 h.oL.length a3) (by simp[yQ]);have dh:=M.cell 4 (v:=.slice P h.oH.length Q) (by simp[yQ]);have di:=M.cell 5 (v:=natV h.uL) (by simp[yQ]);have dj:=M.cell 6 (v:=natV h.uH) (by simp[yQ]);have dk:=M.cell 7 (v:=natV h.st) (by simp[yQ]);have d1:=L.cell 0 rfl;have d2:=L.cell 1 rfl;have d3:=L.cell 2 rfl;have d4:=L.cell 3 rfl;have d5:=L.cell 4 rfl;have d6:=L.cell 5 rfl;have da:=a8.cell 0 rfl;have db:=a8.cell 1 rfl;have dc:=a8.cell 2 rfl;have dl:=L.fz;have dd:=a8.fz;have cj:w.heap.size<y.heap.size:=L.lt;have ck:w.heap.size+1<y.heap.size:=a8.lt;clear f ag M t aK b1 b2 am ak j k u a6;go_wp2;refine jU (zic _ (zr2 (zsd L _ _ _ _ _ _) oA _ _ _) (zsc (zr3 a8 oA _ _ _ _ _ _) _ _ _)) rfl ?_
 exact⟨.slice a2 h.oL.length a3,.slice P h.oH.length Q,rfl,zsa (zsb bw aX.1 _ _ _ _ _ _) aX.2 _ _ _,zsa (zsb bv aV.1 _ _ _ _ _ _) aV.2 _ _ _,below3 (below6 bh (jE _) _ _ _ _ _ _) (Nat.le_succ _) _ _ _⟩):g:=G
namespace mdl
open Go.RowKit Go.Maps Go.WideMaps
open syn face mac
open chk hiding BoxC BoxC.new BoxC.below BoxC.lt BoxC.cell BoxC.fz BoxC.set
open ord (tkd gL xN OrE ze0 orderF)
def gK:Nat:=1000000
def vA (xs:List ByteArray) (iL iH:List Int) (fuel:Int):Cx:=⟨psF (kQ (xs.map mdM)),iL,iH,fuel.toNat⟩
def noR:Int × RS:=(0,rs0 (fun _=>[]))
def yC (xs:List ByteArray) (iL iH:List Int) (fuel:Int):(Int × RS) × ord.Tr :=
 if zU iL.length iH.length fuel 1000≠0 then(noR,(0,zU iL.length iH.length fuel 1000,0))else
 match orderF xs with
 | some t=>(noR,t)
 | none=>(zaa (clM (vA xs iL iH fuel) gK 0 zX [] (rs0 (vsF (kQ (xs.map mdM))))),(0,0,0))
def fY (w:World) (R:(Int × RS) × ord.Tr) (e:Ending) (w':World):Prop :=
 ∃a hi,e=.returned (.tuple #[.agg #[intV R.1.1,a,hi,natV R.1.2.uL,natV R.1.2.uH,natV R.1.2.st],.agg #[.int .i64 R.2.1,.int .i64 R.2.2.1,.int .i64 R.2.2.2]])/\w'.ownsRow w.heap.size 2 1 a R.1.2.oL.length (R.1.2.oL.map intV)/\w'.ownsRow w.heap.size 2 1 hi R.1.2.oH.length (R.1.2.oH.map intV)/\Below w.heap.size w w'
variable {a b:Nat} {c d f g h i j k l m o p q r s u v:Value}
theorem fY.bad {w a:World} (t:ord.Tr) (b:Below w.heap.size w a):fY w (noR,t) (.returned (.tuple #[.agg #[.int .i64 0,.slice none 0 0,.slice none 0 0,.int .i64 0,.int .i64 0,.int .i64 0],.agg #[.int .i64 t.1,.int .i64 t.2.1,.int .i64 t.2.2]])) a :=
 ⟨.slice none 0 0,.slice none 0 0,rfl,World.ownsRow_nil _ _ _ _,World.ownsRow_nil _ _ _ _,b⟩
theorem zic {W:World} {t w:TypeId} (B:List Value) (e:BoxC W a #[c,d,f,g,h,i] t) (n:BoxC W b #[j,k,l] w) : (results Tryz.f12 (List.toArray (m :: o :: p :: q :: r :: s :: u :: v :: .pointer (some ⟨a,0,none⟩) :: .pointer (some ⟨b,0,none⟩) :: B))).run Tryz.prog W=.ok (.tuple #[.agg #[c,d,f,g,h,i],.agg #[j,k,l]]) W:=by
 have M:=kc44;have N:=kc36;have C:=e.cell 0 rfl;have D:=e.cell 1 rfl;have E:=e.cell 2 rfl;have G:=e.cell 3 rfl;have K:=e.cell 4 rfl;have L:=e.cell 5 rfl;have x:=n.cell 0 rfl;have y:=n.cell 1 rfl;have z:=n.cell 2 rfl;simp[results,Tryz.f12,go_sem,C,D,E,G,K,L,x,y,z]
theorem zsd {W:World} {n:TypeId} (o:BoxC W a #[c,d,f,g,h,i] n) (b e j k l m:Value) : BoxC ((((((W.setCell ⟨a,0,none⟩ b).setCell ⟨a,1,none⟩ e).setCell ⟨a,2,none⟩ j).setCell ⟨a,3,none⟩ k).setCell ⟨a,4,none⟩ l).setCell ⟨a,5,none⟩ m) a #[b,e,j,k,l,m] n:=by
 have:=(((((o.set 0 b).set 1 e).set 2 j).set 3 k).set 4 l).set 5 m;simpa only[List.setIfInBounds_toArray,List.set_cons_zero,List.set_cons_succ] using this
theorem zsc {W:World} {h:TypeId} (i:BoxC W a #[c,d,f] h) (b e g:Value) : BoxC (((W.setCell ⟨a,0,none⟩ b).setCell ⟨a,1,none⟩ e).setCell ⟨a,2,none⟩ g) a #[b,e,g] h:=by
 have:=((i.set 0 b).set 1 e).set 2 g;simpa only[List.setIfInBounds_toArray,List.set_cons_zero,List.set_cons_succ] using this
theorem zr3 {W:World} {d:TypeId} {e:Array Value} (l:BoxC W b e d) (c:b≠a) (f g h i j k:Value) : BoxC ((((((W.setCell ⟨a,0,none⟩ f).setCell ⟨a,1,none⟩ g).setCell ⟨a,2,none⟩ h).setCell ⟨a,3,none⟩ i).setCell ⟨a,4,none⟩ j).setCell ⟨a,5,none⟩ k) b e d :=
 (((((l.other c f).other c g).other c h).other c i).other c j).other c k
theorem zr2 {W:World} {d:TypeId} {e:Array Value} (i:BoxC W b e d) (c:b≠a) (f g h:Value) : BoxC (((W.setCell ⟨a,0,none⟩ f).setCell ⟨a,1,none⟩ g).setCell ⟨a,2,none⟩ h) b e d:=((i.other c f).other c g).other c h
theorem below6 {w W:World} (d:Below a w W) (c:a<=b) (e f g h i j:Value) : Below a w ((((((W.setCell ⟨b,0,none⟩ e).setCell ⟨b,1,none⟩ f).setCell ⟨b,2,none⟩ g).setCell ⟨b,3,none⟩ h).setCell ⟨b,4,none⟩ i).setCell ⟨b,5,none⟩ j) :=
 (((((d.setCell c _).setCell c _).setCell c _).setCell c _).setCell c _).setCell c _
theorem below3 {w W:World} (d:Below a w W) (c:a<=b) (e f g:Value) : Below a w (((W.setCell ⟨b,0,none⟩ e).setCell ⟨b,1,none⟩ f).setCell ⟨b,2,none⟩ g):=((d.setCell c _).setCell c _).setCell c _
section
variable {w:World} {xs:List ByteArray} {iL iH:List Int} {fuel:Int}
theorem yao (l m:Option Addr) (o n:Nat) (B:Value) (p:Int) (z:zU iL.length iH.length fuel 1000=p) (P:p≠0) : Calls Tryz.prog 12 #[B,.slice l iL.length o,.slice m iH.length n,.int .i64 fuel] w (fY w (noR,(0,p,0))):=by
 have ak:(p != 0)=true:=by simpa using P
 have ab:=kc44;have ad:=kc36;have ac:=kc71;have f:=fun W=>zit l m iL.length iH.length o n fuel 1000 W
 unfold dW at f;rw[z,ju P]at f;unfold bO zac at f;have s:=show Hid _ from f
 clear f;go_enter Tryz.func12,Tryz.ntmps12
 go_upto_region 1 with fail
 have a:BoxC ((w.alloc (.cells #[.int .i64 0,.slice none 0 0,.slice none 0 0,.int .i64 0,.int .i64 0,.int .i64 0] 44)).alloc (.cells #[.int .i64 0,.int .i64 0,.int .i64 0] 36)) w.heap.size #[.int .i64 0,.slice none 0 0,.slice none 0 0,.int .i64 0,.int .i64 0,.int .i64 0] 44:=(BoxC.new w _ _).alloc _
 have b:BoxC ((w.alloc (.cells #[.int .i64 0,.slice none 0 0,.slice none 0 0,.int .i64 0,.int .i64 0,.int .i64 0] 44)).alloc (.cells #[.int .i64 0,.int .i64 0,.int .i64 0] 36)) (w.heap.size+1) #[.int .i64 0,.int .i64 0,.int .i64 0] 36:=by
  exact zm4
 have h:Below w.heap.size w ((w.alloc (.cells #[.int .i64 0,.slice none 0 0,.slice none 0 0,.int .i64 0,.int .i64 0,.int .i64 0] 44)).alloc (.cells #[.int .i64 0,.int .i64 0,.int .i64 0] 36)):=(bal _).alloc oC _;have af:((w.alloc (.cells #[.int .i64 0,.slice none 0 0,.slice none 0 0,.int .i64 0,.int .i64 0,.int .i64 0] 44)).alloc (.cells #[.int .i64 0,.int .i64 0,.int .i64 0] 36)).heap.size=w.heap.size+2:=oC;generalize (w.alloc (.cells #[.int .i64 0,.slice none 0 0,.slice none 0 0,.int .i64 0,.int .i64 0,.int .i64 0] 44)).alloc (.cells #[.int .i64 0,.int .i64 0,.int .i64 0] 36)=R at *;go_wp2_with (fail);refine(s.out R).mono ?_;rintro V q ⟨rfl,g⟩;clear s;replace a:=a.below g;replace b:=b.below g;have ag:=g.size;replace h:=h.trans (g.mono oA);clear g;clear z P;have aC:=a.cell 0 rfl;have aD:=a.cell 1 rfl;have aE:=a.cell 2 rfl;have aF:=a.cell 3 rfl;have aG:=a.cell 4 rfl;have aH:=a.cell 5 rfl;have ay:=b.cell 0 rfl;have az:=b.cell 1 rfl;have aA:=b.cell 2 rfl;have aI:=a.fz;have aB:=b.fz;have am:w.heap.size<q.heap.size:=oA;have an:w.heap.size+1<q.heap.size:=oA;go_wp2;refine jU (v:=.tuple #[.agg #[.int .i64 0,.slice none 0 0,.slice none 0 0,.int .i64 0,.int .i64 0,.int .i64 0],.agg #[.int .i64 0,.int .i64 p,.int .i64 0]]) (zic _ ((zr2 (zsd a _ _ _ _ _ _) oA _ _ _).alloc _) ((zsc (zr3 b oA _ _ _ _ _ _) _ _ _).alloc _)) rfl ?_;exact fY.bad (0,p,0) ((below3 (below6 h (jE _) _ _ _ _ _ _) (Nat.le_succ _) _ _ _).alloc (by have:=h.size;simpa using this) _)
theorem zd9 {i:Program} {j:Array Oper} {b:Oper} {a:Act} {w:World} {h:Act->World->Prop} {l:Exit->Act->World->Prop} {k:Prop} (p:b.guard=none) (e:TypeId) (f g:Operand) (q:b.op=.store e f g) (c:Nat) (cells:Array Value) (u:a.eval f=.pointer (some ⟨c,0,none⟩)) (v:a.eval g=.agg cells) (t:TypeId) (d:Array Value) (o:w.heap[c]?=some (.cells d t (0,0))) (hi:(i.info? e).map (·.size)=some cells.size) (r:d.size=cells.size) (n:cells.all (·.oneCell')=true) (m:h (a.put b.dst undef) (w.setRow c cells)) : if Region.wanted b (yielded j a.tmps)=true then Oper.wp i b a w h l else k:=by
 have s:Region.wanted b (yielded j a.tmps)=true:=by simp[Region.wanted,p]
 rw[jv s];exact wp_store_row e f g q c cells u v t d o hi r n m
theorem yap (l m:Option Addr) (o n:Nat) (B:Value) (z:zU iL.length iH.length fuel 1000=0) (a3:gQ w) (a5:zH w B xs) (t:ord.Tr) (Q:orderF xs=some t) : Calls Tryz.prog 12 #[B,.slice l iL.length o,.slice m iH.length n,.int .i64 fuel] w (fY w (noR,t)):=by
 have a8:=show Hid _ from a3
 have aa:=show Hid _ from a5
 have a6:=ord.order_code Q;have a9:=show Hid _ from Q
 obtain⟨d,c,e⟩:=t;have aj:(c != 0)=true:=by simpa using a6
 clear a3 a5 Q a6;have ab:=kc44;have ad:=kc36;have ac:=kc71;have f:=fun W=>zit l m iL.length iH.length o n fuel 1000 W
 unfold dW at f;rw[z,jv rfl]at f;unfold zac at f;have s:=show Hid _ from f
 clear f;go_enter Tryz.func12,Tryz.ntmps12
 go_upto_region 1 with fail
 have a:BoxC ((w.alloc (.cells #[.int .i64 0,.slice none 0 0,.slice none 0 0,.int .i64 0,.int .i64 0,.int .i64 0] 44)).alloc (.cells #[.int .i64 0,.int .i64 0,.int .i64 0] 36)) w.heap.size #[.int .i64 0,.slice none 0 0,.slice none 0 0,.int .i64 0,.int .i64 0,.int .i64 0] 44:=(BoxC.new w _ _).alloc _
 have b:BoxC ((w.alloc (.cells #[.int .i64 0,.slice none 0 0,.slice none 0 0,.int .i64 0,.int .i64 0,.int .i64 0] 44)).alloc (.cells #[.int .i64 0,.int .i64 0,.int .i64 0] 36)) (w.heap.size+1) #[.int .i64 0,.int .i64 0,.int .i64 0] 36:=by
  exact zm4
 have h:Below w.heap.size w ((w.alloc (.cells #[.int .i64 0,.slice none 0 0,.slice none 0 0,.int .i64 0,.int .i64 0,.int .i64 0] 44)).alloc (.cells #[.int .i64 0,.int .i64 0,.int .i64 0] 36)):=(bal _).alloc oC _;have af:((w.alloc (.cells #[.int .i64 0,.slice none 0 0,.slice none 0 0,.int .i64 0,.int .i64 0,.int .i64 0] 44)).alloc (.cells #[.int .i64 0,.int .i64 0,.int .i64 0] 36)).heap.size=w.heap.size+2:=oC;generalize (w.alloc (.cells #[.int .i64 0,.slice none 0 0,.slice none 0 0,.int .i64 0,.int .i64 0,.int .i64 0] 44)).alloc (.cells #[.int .i64 0,.int .i64 0,.int .i64 0] 36)=R at *;go_wp2_with (fail);refine(s.out R).mono ?_;rintro V q ⟨rfl,g⟩;clear s;replace a:=a.below g;replace b:=b.below g;have ag:=g.size;replace h:=h.trans (g.mono oA);clear g;clear z;have x:=(Below.refl q.heap.size q).alloc (jE _) (.cells #[.int .i64 0,.slice none 0 0,.slice none 0 0,.int .i64 0,.int .i64 0,.int .i64 0,.slice l iL.length o,.slice m iH.length n,.int .i64 fuel] 71);replace a:=a.below x;replace b:=b.below x;have E:=h.trans (x.mono oA);clear h;have N:=ze0 _ (vZ a8.out E) xs B (xN aa.out E);rw[a9.out]at N;go_wp2_with (fail);refine N.mono ?_;clear N;rintro V r ⟨y,rfl⟩;have ap:=x.size;have ar:=y.size;replace a:=a.below y;replace b:=b.below y;have a2:=E.trans (y.mono oA);clear E y x;generalize q.alloc (.cells #[.int .i64 0,.slice none 0 0,.slice none 0 0,.int .i64 0,.int .i64 0,.int .i64 0,.slice l iL.length o,.slice m iH.length n,.int .i64 fuel] 71)=ax at *;have K:=(Below.refl r.heap.size r).alloc (jE _) (.cells #[.int .i64 d,.int .i64 c,.int .i64 e] 36);have T:=BoxC.new r #[.int .i64 d,.int .i64 c,.int .i64 e] 36;replace a:=a.below K;replace b:=b.below K;have j:=a2.trans (K.mono oA);clear K a2;go_wp2_with (fail);have ao:w.heap.size+2<=r.heap.size:=oA;generalize r.alloc (.cells #[.int .i64 d,.int .i64 c,.int .i64 e] 36)=W at *;generalize r.heap.size=L at *;refine wp_region_held_drew (S:=fun W=>BoxC W L #[.int .i64 d,.int .i64 c,.int .i64 e] 36) oB (T.below (Below.refl _ _).drew) (fun k=>?_);replace a:=a.below (Below.refl _ _).drew;replace b:=b.below (Below.refl _ _).drew;replace j:=j.drew;generalize W.drew=C at *;clear T;refine tkS (i:=0) (v:=.agg #[.int .i64 0,.slice none 0 0,.slice none 0 0,.int .i64 0,.int .i64 0,.int .i64 0] ) rfl rfl (Or.inl ⟨oG,fun ah G=>oF⟩) k ?_;simp only[jA,jB,jC];refine tkS (i:=1) (v:=.agg #[.int .i64 d,.int .i64 c,.int .i64 e] ) rfl rfl (Or.inl ⟨oG,fun ah G=>by have au:=G.cell 0 rfl;have av:=G.cell 1 rfl;have aw:=G.cell 2 rfl;go_simp⟩) k ?_;simp only[jA,jB,jC];refine oneH 2 fun M u=>?_
 refine zd9 oG 44 (.tmp 8) (.tmp 35) oG w.heap.size #[.int .i64 0,.slice none 0 0,.slice none 0 0,.int .i64 0,.int .i64 0,.int .i64 0] oG oG 44 _ a oB oG oB ?_;replace b:BoxC (C.setRow w.heap.size #[.int .i64 0,.slice none 0 0,.slice none 0 0,.int .i64 0,.int .i64 0,.int .i64 0]) (w.heap.size+1) #[.int .i64 0,.int .i64 0,.int .i64 0] 36:=(setRow_other _ _ _ _ oA).trans b;replace j:=zbx (cs:=#[.int .i64 0,.slice none 0 0,.slice none 0 0,.int .i64 0,.int .i64 0,.int .i64 0]) j (jE _) j.size;replace k:BoxC (C.setRow w.heap.size #[.int .i64 0,.slice none 0 0,.slice none 0 0,.int .i64 0,.int .i64 0,.int .i64 0]) L #[.int .i64 d,.int .i64 c,.int .i64 e] 36:=(setRow_other _ _ _ _ oA).trans k;replace a:BoxC (C.setRow w.heap.size #[.int .i64 0,.slice none 0 0,.slice none 0 0,.int .i64 0,.int .i64 0,.int .i64 0]) w.heap.size #[.int .i64 0,.slice none 0 0,.slice none 0 0,.int .i64 0,.int .i64 0,.int .i64 0] 44:=setRow_heap _ _ _ _ _ _ a;refine u.out _ _ k (fun _=>?_);clear u M;generalize C.setRow w.heap.size #[.int .i64 0,.slice none 0 0,.slice none 0 0,.int .i64 0,.int .i64 0,.int .i64 0]=D at *;refine oneH 3 fun M u=>?_
 refine zd9 oG 36 (.tmp 9) (.tmp 36) oG (w.heap.size+1) #[.int .i64 d,.int .i64 c,.int .i64 e] oG oG 36 _ b oB oG oB ?_;replace a:BoxC (D.setRow (w.heap.size+1) #[.int .i64 d,.int .i64 c,.int .i64 e]) w.heap.size #[.int .i64 0,.slice none 0 0,.slice none 0 0,.int .i64 0,.int .i64 0,.int .i64 0] 44:=(setRow_other _ _ _ _ oA).trans a;replace j:=zbx (cs:=#[.int .i64 d,.int .i64 c,.int .i64 e]) j (Nat.le_succ w.heap.size) j.size;replace k:BoxC (D.setRow (w.heap.size+1) #[.int .i64 d,.int .i64 c,.int .i64 e]) L #[.int .i64 d,.int .i64 c,.int .i64 e] 36:=(setRow_other _ _ _ _ oA).trans k;replace b:BoxC (D.setRow (w.heap.size+1) #[.int .i64 d,.int .i64 c,.int .i64 e]) (w.heap.size+1) #[.int .i64 d,.int .i64 c,.int .i64 e] 36:=setRow_heap _ _ _ _ _ _ b;refine u.out _ _ k (fun _=>?_);clear u M;generalize D.setRow (w.heap.size+1) #[.int .i64 d,.int .i64 c,.int .i64 e]=ai at *;refine wpAnyH_done oB ?_ _;go_wp2;refine jU (zic _ a b) rfl ?_;exact fY.bad (d,c,e) j
end
end mdl
namespace mdl
open Go.RowKit Go.Maps Go.WideMaps
open syn face mac
open chk hiding BoxC BoxC.new BoxC.below BoxC.lt BoxC.cell BoxC.fz BoxC.set
def cxL (L:List (ByteArray × Kid)) (iL iH:List Int) (F:Nat):Cx:=⟨psF L,iL,iH,F⟩
theorem zk7 {j a6 p o a5 a3 h F:Nat} {y N:ByteArray->Option Value} {z:List (ByteArray × Kid)} {w W c:World} {K ih:Value} {iL iH:List Int} (f:Dcl j a6 p o y N a5 a3 z W) (ao:W.heap.size<=c.heap.size) (C:∀a,j<=a->a<W.heap.size->c.heap[a]?=W.heap[a]?) (am:h<j\/W.heap.size<=h) (aa:h<c.heap.size) (ab:BoxC c h #[.map (some p),.map (some o),.int .i64 0,.slice none 0 0,.slice none 0 0,.int .i64 0,.int .i64 0,.int .i64 0,K,ih,natV F,.int .i64 0] 80) (ag:IntsIn w K iL) (af:IntsIn w ih iH) (ac:Below w.heap.size w c) (ak:w.heap.size<=j) (an:w.heap.size<=h) (a9:F<=1000) (aj:iL.length<=1000) (ai:iH.length<=1000) : ∃d:Pl,d.R=h/\d.D=c.heap.size/\(∀i,i<j->i≠h->Stc d i)/\Gv d (cxL z iL iH F) c/\Beg d (cxL z iL iH F) (vsF z) c:=by
 have E:∀a,j<=a->a<W.heap.size->a≠h:=fun a k l=>oA
 have G:=f.ne;have S:=f.hV.lt;have R:=f.hP.lt;obtain⟨d,b⟩:∃d:Pl,d=⟨h,c.heap.size,aa,p,o,a5,a3,K,ih,y,N⟩:=⟨_,rfl⟩
 have M:∀a,Mut d a->a<W.heap.size/\j<=a/\a≠p/\a≠o:=fun a ⟨g,v,k,l⟩=>by
  rw[b]at k;have e:=f.wd g;rw[show y g=some v from k]at e;unfold WdQ at e;obtain⟨a7,q,u,r,Q⟩:=e;rw[q]at l;have s:a7=a:=by injection l
  subst s;exact⟨r.lt,u.1,u.2.2⟩
 have V:∀i,i<j->i≠h->Stc d i:=fun i k l=>⟨by rw[b];show i<c.heap.size;have:=f.ne.1;have:=f.bx.lt;omega,by rw[b];exact l,fun m=>by have:=(M i m).2.1;omega⟩
 have B:∀v L,IntsIn w v L->zcw d c v L:=fun v L ⟨P,a8,q,_,ad⟩=>⟨P,a8,q,fun T=>by
  obtain⟨t,x,s,e⟩:=ad T;have ah:0<L.length:=List.length_pos_iff.2 T;have ae:t<w.heap.size:=jS w ⟨t,x+0,none⟩ (e 0 ah)
  exact⟨t,x,s,V t oA oA,fun a2 hi=>(ac.cell (p:=⟨t,x+a2,none⟩) ae).trans (e a2 hi)⟩⟩
 refine⟨d,by rw[b],by rw[b],V,?_,?_⟩
 ·refine⟨?_,?_,?_,?_,?_,?_,aj,ai,fun g=>?_,a9⟩;·rw[b];exact kI.same f.hV (C p G.2.1 S)
  ·exact⟨by rw[b];show p<c.heap.size;omega,by rw[b];exact E p G.2.1 S,fun m=>(M _ m).2.2.1 (by rw[b])⟩
  ·rw[b];exact kI.same f.hP (C o G.2.2.1 R)
  ·exact⟨by rw[b];show o<c.heap.size;omega,by rw[b];exact E o G.2.2.1 R,fun m=>(M _ m).2.2.2 (by rw[b])⟩
  ·rw[b];rw[b]at B;exact B K iL ag
  ·rw[b];rw[b]at B;exact B ih iH af
  ·rw[show d.pf=N by rw[b]];exact(f.pr g).to (fun a n=>⟨by rw[b];show a<c.heap.size;have:=n.2.1;omega,by rw[b];exact E a n.1 n.2.1,fun m=>n.2.2.2.2.2 (by obtain⟨g,v,k,l⟩:=m;rw[b]at k;exact⟨g,v,k,l⟩)⟩) (fun a n x=>jN (a:=⟨a,x,none⟩) (C a n.1 n.2.1))
 ·refine⟨by rw[b],?_,fun g=>?_,?_⟩;·rw[b];exact ab
  ·have e:=f.wd g;unfold WdQ at e;unfold uD;rw[show d.vf g=y g by rw[b]]
   cases q:y g with
   | none=>rw[q]at e;exact e
   | some v =>
    rw[q]at e;obtain⟨a,s,u,r,Q⟩:=e;exact⟨a,s,⟨by rw[b];show a<c.heap.size;have:=r.lt;omega,by rw[b];exact E a u.1 r.lt⟩,(C a u.1 r.lt).trans r,Q⟩
  ·rw[b];exact f.one
end mdl
namespace mdl
open Go.RowKit Go.Maps Go.WideMaps
open syn face mac
open chk hiding BoxC BoxC.new BoxC.below BoxC.lt BoxC.cell BoxC.fz BoxC.set
open ord (tkd gL xN OrE ze0 orderF)
section
variable {w:World} {xs:List ByteArray} {iL iH:List Int} {fuel:Int}
theorem zqo (a:orderF xs=none) (c:fuel.toNat<=1000):clM (vA xs iL iH fuel) gK 0 zX [] (rs0 (vsF (kQ (xs.map mdM))))≠.lost:=by
 have b:=yae (ziq a) iL iH fuel.toNat
 refine(snd (vA xs iL iH fuel) b gK).cl 0 zX [] _ ?_ (jz _) oA ?_;·show(psF (kQ (xs.map mdM)) zX).pars.length<=0;rw[zvp a];exact jE _
 ·unfold qR gK;show(((fuel.toNat - 0:Nat):Int))+(30 - ((0:Nat):Int))*3000+1<=_;omega
theorem zsb {W:World} {c a n:Nat} {d:TypeId} {v:Value} {xs:List Value} (k:W.ownsRow c d 1 v n xs) (b:v.ownBlock≠some a) (e f g h i j:Value) : ((((((W.setCell ⟨a,0,none⟩ e).setCell ⟨a,1,none⟩ f).setCell ⟨a,2,none⟩ g).setCell ⟨a,3,none⟩ h).setCell ⟨a,4,none⟩ i).setCell ⟨a,5,none⟩ j).ownsRow c d 1 v n xs :=
 (((((k.kept (yD _ a 0 e) (.inr b)).kept (yD _ a 1 f) (.inr b)).kept (yD _ a 2 g) (.inr b)).kept (yD _ a 3 h) (.inr b)).kept (yD _ a 4 i) (.inr b)).kept (yD _ a 5 j) (.inr b)
theorem zsa {W:World} {c a n:Nat} {d:TypeId} {v:Value} {xs:List Value} (h:W.ownsRow c d 1 v n xs) (b:v.ownBlock≠some a) (e f g:Value) : (((W.setCell ⟨a,0,none⟩ e).setCell ⟨a,1,none⟩ f).setCell ⟨a,2,none⟩ g).ownsRow c d 1 v n xs :=
 ((h.kept (yD _ a 0 e) (.inr b)).kept (yD _ a 1 f) (.inr b)).kept (yD _ a 2 g) (.inr b)
theorem yb8 (b c:Option Addr) (e d:Nat) (an:Value) (ab:zU iL.length iH.length fuel 1000=0) (bi:gQ w) (bm:zH w an xs) (bq:IntsIn w (.slice b iL.length e) iL) (bp:IntsIn w (.slice c iH.length d) iH) (aO:orderF xs=none) : Calls Tryz.prog 12 #[an,.slice b iL.length e,.slice c iH.length d,.int .i64 fuel] w (fY w (zaa (clM (vA xs iL iH fuel) gK 0 zX [] (rs0 (vsF (kQ (xs.map mdM))))),(0,0,0))):=by
 obtain⟨aL,aR⟩:∃aL,aL=zaa (clM (vA xs iL iH fuel) gK 0 zX [] (rs0 (vsF (kQ (xs.map mdM))))):=⟨_,rfl⟩
 rw[<- aR];have aI:=show Hid _ from aR
 clear aR;have b8:=show Hid _ from bi
 have be:=show Hid _ from bm
 have bA:=show Hid _ from aO
 have ba:=show Hid (IntsIn w (.slice b iL.length e) iL)from bq
 have b9:=show Hid (IntsIn w (.slice c iH.length d) iH)from bp
 have bo:0<=fuel/\fuel<=1000/\iL.length<=1000/\iH.length<=1000:=by
  unfold zU at ab;split at ab;·cases ab
  split at ab;·cases ab
  omega
 have b7:=show Hid _ from bo
 have br:=zqo (iL:=iL) (iH:=iH) (fuel:=fuel) aO oA;have bb:=show Hid _ from br
 have aQ:=ze2 aO;have bs:∀aH∈xs,RdOk aH:=fun aH bR=>(zio (aQ.ri.ec aH bR)).rd
 have bB:=show Hid (∀aH∈xs,RdOk aH)from bs
 have bC:=show Hid _ from aQ.ri.top
 clear bi bm aO bq bp br aQ bs bo;have ca:=kc44;have cc:=kc36;have cb:=kc71;have ax:=fun W=>zit b c iL.length iH.length e d fuel 1000 W
 unfold dW at ax;rw[ab,jv rfl]at ax;unfold zac at ax;have bc:=show Hid _ from ax
 clear ax;go_enter Tryz.func12,Tryz.ntmps12
 go_upto_region 1 with fail
 have j:BoxC ((w.alloc (.cells #[.int .i64 0,.slice none 0 0,.slice none 0 0,.int .i64 0,.int .i64 0,.int .i64 0] 44)).alloc (.cells #[.int .i64 0,.int .i64 0,.int .i64 0] 36)) w.heap.size #[.int .i64 0,.slice none 0 0,.slice none 0 0,.int .i64 0,.int .i64 0,.int .i64 0] 44:=(BoxC.new w _ _).alloc _
 have k:BoxC ((w.alloc (.cells #[.int .i64 0,.slice none 0 0,.slice none 0 0,.int .i64 0,.int .i64 0,.int .i64 0] 44)).alloc (.cells #[.int .i64 0,.int .i64 0,.int .i64 0] 36)) (w.heap.size+1) #[.int .i64 0,.int .i64 0,.int .i64 0] 36:=by
  have:=BoxC.new (w.alloc (.cells #[.int .i64 0,.slice none 0 0,.slice none 0 0,.int .i64 0,.int .i64 0,.int .i64 0] 44)) #[.int .i64 0,.int .i64 0,.int .i64 0] 36;rw[jP]at this;exact this
 have aM:Below w.heap.size w ((w.alloc (.cells #[.int .i64 0,.slice none 0 0,.slice none 0 0,.int .i64 0,.int .i64 0,.int .i64 0] 44)).alloc (.cells #[.int .i64 0,.int .i64 0,.int .i64 0] 36)):=(bal _).alloc oC _;have cn:((w.alloc (.cells #[.int .i64 0,.slice none 0 0,.slice none 0 0,.int .i64 0,.int .i64 0,.int .i64 0] 44)).alloc (.cells #[.int .i64 0,.int .i64 0,.int .i64 0] 36)).heap.size=w.heap.size+2:=oC;generalize (w.alloc (.cells #[.int .i64 0,.slice none 0 0,.slice none 0 0,.int .i64 0,.int .i64 0,.int .i64 0] 44)).alloc (.cells #[.int .i64 0,.int .i64 0,.int .i64 0] 36)=c9 at *;go_wp2_with (fail);refine(bc.out c9).mono ?_;rintro q ac ⟨rfl,az⟩;clear bc;replace j:=j.below az;replace k:=k.below az;have co:=az.size;replace aM:=aM.trans (az.mono oA);clear az;clear ab;have aA:=(Below.refl ac.heap.size ac).alloc (jE _) (.cells #[.int .i64 0,.slice none 0 0,.slice none 0 0,.int .i64 0,.int .i64 0,.int .i64 0,.slice b iL.length e,.slice c iH.length d,.int .i64 fuel] 71);have af:=BoxC.new ac #[.int .i64 0,.slice none 0 0,.slice none 0 0,.int .i64 0,.int .i64 0,.int .i64 0,.slice b iL.length e,.slice c iH.length d,.int .i64 fuel] 71;replace j:=j.below aA;replace k:=k.below aA;have aN:=aM.trans (aA.mono oA);clear aM;have aS:=ze0 _ (vZ b8.out aN) xs an (xN be.out aN);rw[bA.out]at aS;go_wp2_with (fail);refine aS.mono ?_;clear aS;rintro q ad ⟨ai,cR,rfl,_⟩;have cq:=aA.size;have cr:=ai.size;replace j:=j.below ai;replace k:=k.below ai;replace af:=af.below ai;have bg:=aN.trans (ai.mono oA);have cp:ac.heap.size<(ac.alloc (.cells #[.int .i64 0,.slice none 0 0,.slice none 0 0,.int .i64 0,.int .i64 0,.int .i64 0,.slice b iL.length e,.slice c iH.length d,.int .i64 fuel] 71)).heap.size:=oC;clear aN ai aA;generalize ac.alloc (.cells #[.int .i64 0,.slice none 0 0,.slice none 0 0,.int .i64 0,.int .i64 0,.int .i64 0,.slice b iL.length e,.slice c iH.length d,.int .i64 fuel] 71)=d0 at *;have aB:=(Below.refl ad.heap.size ad).alloc (jE _) (.cells #[.int .i64 0,.int .i64 0,.int .i64 0] 36);replace j:=j.below aB;replace k:=k.below aB;replace af:=af.below aB;have a9:=bg.trans (aB.mono oA);have bM:(ad.alloc (.cells #[.int .i64 0,.int .i64 0,.int .i64 0] 36)).heap.size=ad.heap.size+1:=oC;clear aB bg;go_wp2_with (fail);have cm:w.heap.size+2<=ad.heap.size:=oA;generalize ad.alloc (.cells #[.int .i64 0,.int .i64 0,.int .i64 0] 36)=W at *;generalize ce:ac.heap.size=ae at *;have cf:w.heap.size+2<=ae:=oA;have cg:ae<ad.heap.size:=oA;refine wp_region_held_drew (S:=fun W=>BoxC W ae #[.int .i64 0,.slice none 0 0,.slice none 0 0,.int .i64 0,.int .i64 0,.int .i64 0,.slice b iL.length e,.slice c iH.length d,.int .i64 fuel] 71) oB (af.below (Below.refl _ _).drew) (fun l=>?_);replace j:=j.below (Below.refl _ _).drew;replace k:=k.below (Below.refl _ _).drew;replace a9:=a9.drew;have bN:W.drew.heap.size=W.heap.size:=oC;generalize W.drew=z at *;have aU:w.heap.size+2<=z.heap.size:=oA;have ci:ae<z.heap.size:=oA;clear af bM bN;have bj:∀ao,Below w.heap.size w ao->Calls Tryz.prog 30 #[an] ao (RdE xs ao):=fun ao bn=>oRead ao (zbj b8.out.1 bn) xs an (xN be.out bn) bC.out bB.out
 have aJ:=show Hid _ from bj
 clear bj;refine tkS (i:=0) (v:=an) rfl rfl (Or.inl ⟨oG,fun b6 C=>oF⟩) l ?_;simp only[jA,jB,jC];refine tkS (i:=2) (v:=.agg #[.int .i64 0,.slice none 0 0,.slice none 0 0,.int .i64 0,.int .i64 0,.int .i64 0,.slice b iL.length e,.slice c iH.length d,.int .i64 fuel] ) rfl rfl (Or.inl ⟨oG,fun b6 C=>by have ct:=C.cell 0 rfl;have cu:=C.cell 1 rfl;have cv:=C.cell 2 rfl;have cw:=C.cell 3 rfl;have cx:=C.cell 4 rfl;have cy:=C.cell 5 rfl;have cz:=C.cell 6 rfl;have cH:=C.cell 7 rfl;have cL:=C.cell 8 rfl;go_simp⟩) l ?_;simp only[jA,jB,jC];refine wpAnyH_ready (rs:=[1,4]) oB oC ?_;refine(AllReadyH.cons rfl (fun E p=>?_) (AllReadyH.cons rfl (fun E p=>?_) AllReadyH.nil))
 ·skip;go_simp;go_at_call 30;refine(aJ.out z a9).mono ?_;clear aJ;rintro q a ⟨bz,n,m,c7,bX,c8,c6,rfl,s,av⟩;have bP:=s.size;replace j:=j.below s;replace k:=k.below s;replace l:=l.below s;have ah:=a9.trans (s.mono oA);refine p.out _ _ l (fun K=>?_);clear p E K s a9;refine tkS (i:=3) (v:=.agg #[.map (some n),.map (some m),.int .i64 0,.slice none 0 0,.slice none 0 0,.int .i64 0,.int .i64 0,.int .i64 0,.slice b iL.length e,.slice c iH.length d,.int .i64 fuel,.int .i64 0] ) rfl rfl (Or.inl ⟨oG,fun b6 C=>oF⟩) l ?_;simp only[jA,jB,jC];refine oneH 4 fun E p=>?_
  go_simp;have x:=(Below.refl a.heap.size a).alloc (jE _) (.cells #[.map none,.map none,.int .i64 0,.slice none 0 0,.slice none 0 0,.int .i64 0,.int .i64 0,.int .i64 0,.slice none 0 0,.slice none 0 0,.int .i64 0,.int .i64 0] 80);have u:=BoxC.new a #[.map none,.map none,.int .i64 0,.slice none 0 0,.slice none 0 0,.int .i64 0,.int .i64 0,.int .i64 0,.slice none 0 0,.slice none 0 0,.int .i64 0,.int .i64 0] 80;replace j:=j.below x;replace k:=k.below x;replace l:=l.below x;have a5:=ah.trans (x.mono oA);have bu:(a.alloc (.cells #[.map none,.map none,.int .i64 0,.slice none 0 0,.slice none 0 0,.int .i64 0,.int .i64 0,.int .i64 0,.slice none 0 0,.slice none 0 0,.int .i64 0,.int .i64 0] 80)).heap.size=a.heap.size+1:=oC;refine p.out _ _ l (fun K=>?_);clear p E K ah;obtain⟨r,aU⟩:∃r,r=a.alloc (.cells #[.map none,.map none,.int .i64 0,.slice none 0 0,.slice none 0 0,.int .i64 0,.int .i64 0,.int .i64 0,.slice none 0 0,.slice none 0 0,.int .i64 0,.int .i64 0] 80):=⟨_,rfl⟩
  rw[<- aU]at j k l a5 u x bu |-;clear aU;refine oneH 5 fun E p=>?_
  refine zd9 oG 80 (.tmp 14) (.tmp 40) oG a.heap.size #[.map (some n),.map (some m),.int .i64 0,.slice none 0 0,.slice none 0 0,.int .i64 0,.int .i64 0,.int .i64 0,.slice b iL.length e,.slice c iH.length d,.int .i64 fuel,.int .i64 0] oG oG 80 _ u oB oG oB ?_;replace j:BoxC (r.setRow a.heap.size #[.map (some n),.map (some m),.int .i64 0,.slice none 0 0,.slice none 0 0,.int .i64 0,.int .i64 0,.int .i64 0,.slice b iL.length e,.slice c iH.length d,.int .i64 fuel,.int .i64 0]) w.heap.size _ _:=(setRow_other _ _ _ _ oA).trans j;replace k:BoxC (r.setRow a.heap.size #[.map (some n),.map (some m),.int .i64 0,.slice none 0 0,.slice none 0 0,.int .i64 0,.int .i64 0,.int .i64 0,.slice b iL.length e,.slice c iH.length d,.int .i64 fuel,.int .i64 0]) (w.heap.size+1) _ _:=(setRow_other _ _ _ _ oA).trans k;replace l:BoxC (r.setRow a.heap.size #[.map (some n),.map (some m),.int .i64 0,.slice none 0 0,.slice none 0 0,.int .i64 0,.int .i64 0,.int .i64 0,.slice b iL.length e,.slice c iH.length d,.int .i64 fuel,.int .i64 0]) ae _ _:=(setRow_other _ _ _ _ oA).trans l;replace u:BoxC (r.setRow a.heap.size #[.map (some n),.map (some m),.int .i64 0,.slice none 0 0,.slice none 0 0,.int .i64 0,.int .i64 0,.int .i64 0,.slice b iL.length e,.slice c iH.length d,.int .i64 fuel,.int .i64 0]) a.heap.size _ _:=setRow_heap _ _ _ _ _ _ u;have a6:=zbx (cs:=#[.map (some n),.map (some m),.int .i64 0,.slice none 0 0,.slice none 0 0,.int .i64 0,.int .i64 0,.int .i64 0,.slice b iL.length e,.slice c iH.length d,.int .i64 fuel,.int .i64 0]) a5 (by omega:w.heap.size<=a.heap.size) a5.size;have aa:∀B,z.heap.size+1<=B->B<a.heap.size->(r.setRow a.heap.size #[.map (some n),.map (some m),.int .i64 0,.slice none 0 0,.slice none 0 0,.int .i64 0,.int .i64 0,.int .i64 0,.slice b iL.length e,.slice c iH.length d,.int .i64 fuel,.int .i64 0]).heap[B]?=a.heap[B]?:=fun B _ bf=>(setRow_other _ _ _ _ oA).trans (x.block B bf)
  have aE:a.heap.size<=(r.setRow a.heap.size #[.map (some n),.map (some m),.int .i64 0,.slice none 0 0,.slice none 0 0,.int .i64 0,.int .i64 0,.int .i64 0,.slice b iL.length e,.slice c iH.length d,.int .i64 fuel,.int .i64 0]).heap.size:=oE;have aT:a.heap.size<(r.setRow a.heap.size #[.map (some n),.map (some m),.int .i64 0,.slice none 0 0,.slice none 0 0,.int .i64 0,.int .i64 0,.int .i64 0,.slice b iL.length e,.slice c iH.length d,.int .i64 fuel,.int .i64 0]).heap.size:=oE;have ay:a.heap.size<z.heap.size+1\/a.heap.size<=a.heap.size:=.inr (jE _);refine p.out _ _ l (fun K=>?_);clear p E K a5 x l;refine wpAnyH_done oB ?_ _;generalize r.setRow a.heap.size #[.map (some n),.map (some m),.int .i64 0,.slice none 0 0,.slice none 0 0,.int .i64 0,.int .i64 0,.int .i64 0,.slice b iL.length e,.slice c iH.length d,.int .i64 fuel,.int .i64 0]=bF at *;have aj:=b7.out;have aC:natV fuel.toNat=.int .i64 fuel:=zm5;obtain⟨g,T,aZ,R,aw,au⟩:=zk7 (F:=fuel.toNat) av aE aa ay aT (by rw[aC];exact u) ba.out b9.out a6 oA oA oA aj.2.2.1 aj.2.2.2;have N:=zl2 (p:=g) gK oD aw au bb.out;have b1:=R w.heap.size oA oA;have b2:=R (w.heap.size+1) oA oA;have bK:w.heap.size+2<=g.D:=by rw[aZ];omega
  have aD:∀V,V<w.heap.size->Stc g V:=fun V aa=>R V oA oA
  have aK:=show Hid _ from aD
  have aP:Hid (cxL (kQ (xs.map mdM)) iL iH fuel.toNat=vA xs iL iH fuel):=rfl;rw[aP.out,T]at N;rw[<- aI.out]at N;have aY:∀(ar:Fn) (first ap:Array Value) (w:World),(Instr.makeFunc ar first ap).run Tryz.prog w=.ok (.func ar first ap) w:=fun _ _ _ _=>rfl
  clear aw au aI R aD av aE aa ay aC;go_wp2_with (fail);refine N.mono ?_;clear N aY;rintro q y ⟨rfl,bS,hi,aG,⟨bG,f⟩,t⟩;obtain⟨a7,h⟩:=aL;obtain⟨a2,a3,rfl⟩:=f.lshape;obtain⟨P,Q,rfl⟩:=f.hshape;have b0:=g.rd;rw[T]at t b0;have ag:=f.box;rw[T]at ag;have L:BoxC y w.heap.size #[.int .i64 0,.slice none 0 0,.slice none 0 0,.int .i64 0,.int .i64 0,.int .i64 0] 44:=zm6;have a8:BoxC y (w.heap.size+1) #[.int .i64 0,.int .i64 0,.int .i64 0] 36:=zm7;have M:=ag.set 2 (intV a7);rw[<- t]at M;have am:=f.loNe;have ak:=f.hiNe;rw[T]at am ak;have bw:y.ownsRow w.heap.size 2 1 (.slice a2 h.oL.length a3) h.oL.length (h.oL.map intV):=by rw[t];exact(f.rl.kept (yD aG a.heap.size 2 (intV a7)) (.inr am)).mono oA
  have bv:y.ownsRow w.heap.size 2 1 (.slice P h.oH.length Q) h.oH.length (h.oH.map intV):=by rw[t];exact(f.rh.kept (yD aG a.heap.size 2 (intV a7)) (.inr ak)).mono oA
  have aX:(Value.slice a2 h.oL.length a3).ownBlock≠some w.heap.size/\(Value.slice a2 h.oL.length a3).ownBlock≠some (w.heap.size+1):=⟨fun q=>zd3,fun q=>zd3⟩
  have aV:(Value.slice P h.oH.length Q).ownBlock≠some w.heap.size/\(Value.slice P h.oH.length Q).ownBlock≠some (w.heap.size+1):=⟨fun q=>zd4,fun q=>zd4⟩
  have bh:Below w.heap.size w y:=by
   rw[t];refine Below.setCell (a6.trans ⟨f.stc.os,f.stc.tape,f.stc.output,f.stc.size,fun aF aW=>f.stc.block aF (by have:=a6.size;omega) (aK.out aF aW)⟩) (by show w.heap.size<=a.heap.size;omega) _
  exact zm3
 ·skip;go_simp;have x:=(Below.refl z.heap.size z).alloc (jE _) (.cells #[.map none,.map none,.int .i64 0,.slice none 0 0,.slice none 0 0,.int .i64 0,.int .i64 0,.int .i64 0,.slice none 0 0,.slice none 0 0,.int .i64 0,.int .i64 0] 80);have u:=BoxC.new z #[.map none,.map none,.int .i64 0,.slice none 0 0,.slice none 0 0,.int .i64 0,.int .i64 0,.int .i64 0,.slice none 0 0,.slice none 0 0,.int .i64 0,.int .i64 0] 80;replace j:=j.below x;replace k:=k.below x;replace l:=l.below x;have a5:=a9.trans (x.mono oA);have bu:(z.alloc (.cells #[.map none,.map none,.int .i64 0,.slice none 0 0,.slice none 0 0,.int .i64 0,.int .i64 0,.int .i64 0,.slice none 0 0,.slice none 0 0,.int .i64 0,.int .i64 0] 80)).heap.size=z.heap.size+1:=oC;refine p.out _ _ l (fun K=>?_);clear p E K a9 x;generalize ch:z.heap.size=o at *;generalize z.alloc (.cells #[.map none,.map none,.int .i64 0,.slice none 0 0,.slice none 0 0,.int .i64 0,.int .i64 0,.int .i64 0,.slice none 0 0,.slice none 0 0,.int .i64 0,.int .i64 0] 80)=r at *;refine oneH 1 fun E p=>?_
  go_simp;go_at_call 30;refine(aJ.out r a5).mono ?_;clear aJ;rintro q a ⟨bz,n,m,c7,bX,c8,c6,rfl,s,av⟩;have bP:=s.size;replace j:=j.below s;replace k:=k.below s;replace u:=u.below s;replace l:=l.below s;have ah:=a5.trans (s.mono oA);refine p.out _ _ l (fun K=>?_);clear p E K s a5;refine tkS (i:=3) (v:=.agg #[.map (some n),.map (some m),.int .i64 0,.slice none 0 0,.slice none 0 0,.int .i64 0,.int .i64 0,.int .i64 0,.slice b iL.length e,.slice c iH.length d,.int .i64 fuel,.int .i64 0] ) rfl rfl (Or.inl ⟨oG,fun b6 C=>oF⟩) l ?_;simp only[jA,jB,jC];refine oneH 5 fun E p=>?_
  refine zd9 oG 80 (.tmp 14) (.tmp 40) oG o #[.map (some n),.map (some m),.int .i64 0,.slice none 0 0,.slice none 0 0,.int .i64 0,.int .i64 0,.int .i64 0,.slice b iL.length e,.slice c iH.length d,.int .i64 fuel,.int .i64 0] oG oG 80 _ u oB oG oB ?_;replace j:BoxC (a.setRow o #[.map (some n),.map (some m),.int .i64 0,.slice none 0 0,.slice none 0 0,.int .i64 0,.int .i64 0,.int .i64 0,.slice b iL.length e,.slice c iH.length d,.int .i64 fuel,.int .i64 0]) w.heap.size _ _:=(setRow_other _ _ _ _ oA).trans j;replace k:BoxC (a.setRow o #[.map (some n),.map (some m),.int .i64 0,.slice none 0 0,.slice none 0 0,.int .i64 0,.int .i64 0,.int .i64 0,.slice b iL.length e,.slice c iH.length d,.int .i64 fuel,.int .i64 0]) (w.heap.size+1) _ _:=(setRow_other _ _ _ _ oA).trans k;replace l:BoxC (a.setRow o #[.map (some n),.map (some m),.int .i64 0,.slice none 0 0,.slice none 0 0,.int .i64 0,.int .i64 0,.int .i64 0,.slice b iL.length e,.slice c iH.length d,.int .i64 fuel,.int .i64 0]) ae _ _:=(setRow_other _ _ _ _ oA).trans l;replace u:BoxC (a.setRow o #[.map (some n),.map (some m),.int .i64 0,.slice none 0 0,.slice none 0 0,.int .i64 0,.int .i64 0,.int .i64 0,.slice b iL.length e,.slice c iH.length d,.int .i64 fuel,.int .i64 0]) o _ _:=setRow_heap _ _ _ _ _ _ u;have a6:=zbx (cs:=#[.map (some n),.map (some m),.int .i64 0,.slice none 0 0,.slice none 0 0,.int .i64 0,.int .i64 0,.int .i64 0,.slice b iL.length e,.slice c iH.length d,.int .i64 fuel,.int .i64 0]) ah (by omega:w.heap.size<=o) ah.size;have aa:∀B,r.heap.size+1<=B->B<a.heap.size->(a.setRow o #[.map (some n),.map (some m),.int .i64 0,.slice none 0 0,.slice none 0 0,.int .i64 0,.int .i64 0,.int .i64 0,.slice b iL.length e,.slice c iH.length d,.int .i64 fuel,.int .i64 0]).heap[B]?=a.heap[B]?:=fun B cd bf=>setRow_other _ _ _ _ oA
  have aE:a.heap.size<=(a.setRow o #[.map (some n),.map (some m),.int .i64 0,.slice none 0 0,.slice none 0 0,.int .i64 0,.int .i64 0,.int .i64 0,.slice b iL.length e,.slice c iH.length d,.int .i64 fuel,.int .i64 0]).heap.size:=oC;have aT:o<(a.setRow o #[.map (some n),.map (some m),.int .i64 0,.slice none 0 0,.slice none 0 0,.int .i64 0,.int .i64 0,.int .i64 0,.slice b iL.length e,.slice c iH.length d,.int .i64 fuel,.int .i64 0]).heap.size:=oE;have ay:o<r.heap.size+1\/a.heap.size<=o:=.inl oA;refine p.out _ _ l (fun K=>?_);clear p E K ah l;refine wpAnyH_done oB ?_ _;generalize a.setRow o #[.map (some n),.map (some m),.int .i64 0,.slice none 0 0,.slice none 0 0,.int .i64 0,.int .i64 0,.int .i64 0,.slice b iL.length e,.slice c iH.length d,.int .i64 fuel,.int .i64 0]=bF at *;have aj:=b7.out;have aC:natV fuel.toNat=.int .i64 fuel:=zm5;obtain⟨g,T,aZ,R,aw,au⟩:=zk7 (F:=fuel.toNat) av aE aa ay aT (by rw[aC];exact u) ba.out b9.out a6 oA oA oA aj.2.2.1 aj.2.2.2;have N:=zl2 (p:=g) gK oD aw au bb.out;have b1:=R w.heap.size oA oA;have b2:=R (w.heap.size+1) oA oA;have bK:w.heap.size+2<=g.D:=by rw[aZ];omega
  have aD:∀V,V<w.heap.size->Stc g V:=fun V aa=>R V oA oA
  have aK:=show Hid _ from aD
  have aP:Hid (cxL (kQ (xs.map mdM)) iL iH fuel.toNat=vA xs iL iH fuel):=rfl;rw[aP.out,T]at N;rw[<- aI.out]at N;have aY:∀(ar:Fn) (first ap:Array Value) (w:World),(Instr.makeFunc ar first ap).run Tryz.prog w=.ok (.func ar first ap) w:=fun _ _ _ _=>rfl
  clear aw au aI R aD av aE aa ay aC;go_wp2_with (fail);refine N.mono ?_;clear N aY;rintro q y ⟨rfl,bS,hi,aG,⟨bG,f⟩,t⟩;obtain⟨a7,h⟩:=aL;obtain⟨a2,a3,rfl⟩:=f.lshape;obtain⟨P,Q,rfl⟩:=f.hshape;have b0:=g.rd;rw[T]at t b0;have ag:=f.box;rw[T]at ag;have L:BoxC y w.heap.size #[.int .i64 0,.slice none 0 0,.slice none 0 0,.int .i64 0,.int .i64 0,.int .i64 0] 44:=zm6;have a8:BoxC y (w.heap.size+1) #[.int .i64 0,.int .i64 0,.int .i64 0] 36:=zm7;have M:=ag.set 2 (intV a7);rw[<- t]at M;have am:=f.loNe;have ak:=f.hiNe;rw[T]at am ak;have bw:y.ownsRow w.heap.size 2 1 (.slice a2 h.oL.length a3) h.oL.length (h.oL.map intV):=by rw[t];exact(f.rl.kept (yD aG o 2 (intV a7)) (.inr am)).mono oA
  have bv:y.ownsRow w.heap.size 2 1 (.slice P h.oH.length Q) h.oH.length (h.oH.map intV):=by rw[t];exact(f.rh.kept (yD aG o 2 (intV a7)) (.inr ak)).mono oA
  have aX:(Value.slice a2 h.oL.length a3).ownBlock≠some w.heap.size/\(Value.slice a2 h.oL.length a3).ownBlock≠some (w.heap.size+1):=⟨fun q=>zd3,fun q=>zd3⟩
  have aV:(Value.slice P h.oH.length Q).ownBlock≠some w.heap.size/\(Value.slice P h.oH.length Q).ownBlock≠some (w.heap.size+1):=⟨fun q=>zd4,fun q=>zd4⟩
  have bh:Below w.heap.size w y:=by
   rw[t];refine Below.setCell (a6.trans ⟨f.stc.os,f.stc.tape,f.stc.output,f.stc.size,fun aF aW=>f.stc.block aF (by have:=a6.size;omega) (aK.out aF aW)⟩) (by show w.heap.size<=o;omega) _
  exact zm3
end
end mdl
namespace mdl
open syn face mac chk
open ord (orderF)
variable {xs:List ByteArray} {iL iH:List Int}
theorem zd7 {fuel:Int} (a:zU iL.length iH.length fuel 1000≠0):yC xs iL iH fuel=(noR,(0,zU iL.length iH.length fuel 1000,0)):=by
 unfold yC;rw[jv a]
theorem zd8 {fuel:Int} {t:ord.Tr} (a:zU iL.length iH.length fuel 1000=0) (b:orderF xs=some t):yC xs iL iH fuel=(noR,t):=by
 unfold yC;rw[ju (by simp[a]),b]
theorem zes {fuel:Int} (a:zU iL.length iH.length fuel 1000=0) (b:orderF xs=none):yC xs iL iH fuel=(zaa (clM (vA xs iL iH fuel) gK 0 zX [] (rs0 (vsF (kQ (xs.map mdM))))),(0,0,0)):=by
 unfold yC;rw[ju (by simp[a]),b]
theorem zvv {c b:Nat} {fuel:Int} (a:zU c b fuel 1000=0):0<=fuel/\fuel<=1000/\c<=1000/\b<=1000:=by
 unfold zU at a;split at a;·cases a
 split at a;·cases a
 omega
theorem zfv (fuel:Int):(yC xs iL iH fuel).1.2.oL.length<=1000/\(yC xs iL iH fuel).1.2.oH.length<=1000:=by
 by_cases e:zU iL.length iH.length fuel 1000=0
 ·cases g:orderF xs with
  | some t=>rw[zd8 e g];exact⟨jz _,jz _⟩
  | none =>
   rw[zes e g];have n:=zvv e;have l:=zqo (iL:=iL) (iH:=iH) (fuel:=fuel) g oA;have k:Inv (vA xs iL iH fuel) (rs0 (vsF (kQ (xs.map mdM)))):=⟨jz _,jz _,jz _,jz _,jz _⟩
   have b:=(gds (vA xs iL iH fuel) gK).cl 0 zX [] (rs0 (vsF (kQ (xs.map mdM))));have c:=(gks (vA xs iL iH fuel) gK).cl 0 zX [] (rs0 (vsF (kQ (xs.map mdM))))
   have key:∀a,mdl.Ext (vA xs iL iH fuel).fuel (rs0 (vsF (kQ (xs.map mdM)))) a->Sk (vA xs iL iH fuel) 0 (rs0 (vsF (kQ (xs.map mdM)))) a->a.oL.length<=1000/\a.oH.length<=1000:=fun a i j=>by
    have f:=k.of i j;have m:(vA xs iL iH fuel).fuel=fuel.toNat:=rfl;have:=f.st;have:=f.oL;have:=f.oH;omega
   cases d:clM (vA xs iL iH fuel) gK 0 zX [] (rs0 (vsF (kQ (xs.map mdM))))with
   | lost=>exact absurd d l
   | go h a=>rw[d]at b c;exact key a b c
   | back h a=>rw[d]at b c;exact key a b c
   | stop h a=>rw[d]at b c;exact key a b c
 ·rw[zd7 e];exact⟨jz _,jz _⟩
end mdl
namespace mdl
open Go.RowKit
open syn face mac
open chk hiding BoxC BoxC.new BoxC.below BoxC.lt BoxC.cell BoxC.fz BoxC.set
open ord (tkd gL)
theorem zzv (e b:List Int) (v z:Value) (w:World) (K:IntsIn w v e) (G:IntsIn w z b) (l:b <+: e) (V:e.length<=90000) : Calls Tryz.prog 13 #[v,z] w fun d L=>d=.returned (.bool true)/\Below w.heap.size w L:=by
 have s:=l.length_le;obtain⟨M,B,rfl,_,p⟩:=K;obtain⟨N,C,rfl,_,r⟩:=G;have T:¬((e.length:Int)<(b.length:Int)):=oA;go_enter Tryz.func13,Tryz.ntmps13;go_wp2;go_loopw [5] (fun t wr=>∃a:Nat,a<=b.length/\t=.int .i64 a/\Below w.heap.size w wr) (fun t _=>b.length - (intOf t).toNat)
 case atStart=>exact⟨0,jz _,rfl,Below.refl _ _⟩
 case round =>
  obtain⟨a,P,rfl,h⟩:=hrel;by_cases f:a<b.length
  ·obtain⟨j,m,rfl,u⟩:=p (by intro d;rw[d]at s;simp at s;rw[s]at f;simp at f);obtain⟨k,n,rfl,x⟩:=r (by intro d;rw[d]at f;simp at f);have q:=mac.keep (u a oA) h;have y:=mac.keep (x a f) h
   have d:e[a]' oA=b[a]:=by
    obtain⟨t,rfl⟩:=l;simp[f]
   rw[d]at q;generalize b[a]=g at *;have Q:(a:Int)<(e.length:Int):=oA;have R:(a:Int)<(b.length:Int):=oA;have c:wr.drew.cell? ⟨j,m+a,none⟩=some (.int .i64 g)/\wr.drew.cell? ⟨k,n+a,none⟩=some (.int .i64 g):=⟨by simpa using q,by simpa using y⟩
   clear u x p r d l q y;go_wp2;refine wp_region_held_drew (S:=fun W=>W.cell? ⟨j,m+a,none⟩=some (.int .i64 g)/\W.cell? ⟨k,n+a,none⟩=some (.int .i64 g)) oB c (fun E=>?_);clear E;have D:=h.drew;clear h;generalize wr.drew=W at *;refine tkR 0 (.slice (some ⟨j,m,none⟩) e.length B) c ?_;simp only[jA,jB,jC];refine tkR 1 (.int .i64 a) c ?_;simp only[jA,jB,jC];refine tkR 2 (.pointer (some ⟨j,m+a,none⟩)) c ?_;simp only[jA,jB,jC];refine tkS (i:=3) (v:=.int .i64 g) rfl rfl (Or.inl ⟨oG,fun w o=>by have b:=o.1;go_simp⟩) c ?_;simp only[jA,jB,jC];refine tkR 4 (.slice (some ⟨k,n,none⟩) b.length C) c ?_;simp only[jA,jB,jC];refine tkR 5 (.int .i64 a) c ?_;simp only[jA,jB,jC];refine tkR 6 (.pointer (some ⟨k,n+a,none⟩)) c ?_;simp only[jA,jB,jC];refine tkS (i:=7) (v:=.int .i64 g) rfl rfl (Or.inl ⟨oG,fun w o=>by have b:=o.2;go_simp⟩) c ?_;simp only[jA,jB,jC];refine tkR 8 (.bool false) c ?_;simp only[jA,jB,jC];refine wpAnyH_done oB ?_ _;go_wp2;go_roundw
   case rel=>exact⟨a+1,oA,oM,D⟩
   case measure=>simp[intOf];omega
  ·clear p r l;go_wp2;go_ret;exact⟨rfl,h⟩
theorem zrs (a:List Int) (v b:Value) (w:World) (e:IntsIn w v a) (d:IntsIn w b a) (j:a.length<=90000) : Calls Tryz.prog 14 #[v,b] w fun c k=>c=.returned (.bool true)/\Below w.heap.size w k:=by
 have g:=zzv a a v b w e d List.prefix_rfl j;obtain⟨l,n,rfl,_,h⟩:=e;obtain⟨m,o,rfl,_,i⟩:=d;clear h i;go_enter Tryz.func14,Tryz.ntmps14;go_wp2_with (go_at_call 13;refine g.mono ?_;rintro c p ⟨rfl,f⟩);go_ret;exact⟨rfl,f⟩
theorem zn4 {w:World} {f:Nat} {v:Value} {b:List Int} (m:b.length<=90000) (c:w.ownsRow f 2 1 v b.length (b.map intV)):IntsIn w v b:=by
 rcases c.2 with⟨a,e⟩|⟨d,g,i,a,l,_,j,k,_⟩
 ·exact⟨none,0,by rw[a,e],oA,fun h=>absurd (List.eq_nil_of_length_eq_zero e) h⟩
 ·refine⟨some ⟨d,0,none⟩,g,a,oA,fun _=>⟨d,0,rfl,fun n hi=>?_⟩⟩;rw[a]at c;rw[Nat.zero_add,c.cellAt _ oA];simp[hi]
theorem fD {w b:World} {v:Value} {a:List Int} (h:IntsIn w v a) (i:Below w.heap.size w b):IntsIn b v a:=by
 obtain⟨c,d,e,l,k⟩:=h;refine⟨c,d,e,l,fun m=>?_⟩;obtain⟨g,o,f,j⟩:=k m;exact⟨g,o,f,fun n hi=>mac.keep (j n hi) i⟩
theorem zr9 (w:World) (xs:List ByteArray) (iL iH:List Int) (fuel:Int) (b l ih:Value) (h:gQ w) (i:zH w b xs) (k:IntsIn w l iL) (j:IntsIn w ih iH) : Calls Tryz.prog 12 #[b,l,ih,.int .i64 fuel] w (fY w (yC xs iL iH fuel)):=by
 obtain⟨d,g,rfl,_⟩:=id k;obtain⟨e,f,rfl,_⟩:=id j;by_cases a:zU iL.length iH.length fuel 1000=0
 ·cases c:ord.orderF xs with
  | none=>rw[zes a c];exact yb8 d e g f b a h i k j c
  | some t=>rw[zd8 a c];exact yap d e g f b a h i t c
 ·rw[zd7 a];exact yao d e g f b _ rfl a
end mdl
namespace mdl
open Go.RowKit
open syn face mac
open chk hiding BoxC BoxC.new BoxC.below BoxC.lt BoxC.cell BoxC.fz BoxC.set
open ord (tkd gL xN)
def zfd (w:World) (k:Int) (s:RS) (f g h:Int) (e:Ending) (w':World):Prop :=
 ∃b d a c,e=.returned (.tuple #[.agg #[.int .i64 k,.slice b s.oL.length d,.slice a s.oH.length c,natV s.uL,natV s.uH,natV s.st],.agg #[.int .i64 f,.int .i64 g,.int .i64 h]])/\IntsIn w' (.slice b s.oL.length d) s.oL/\IntsIn w' (.slice a s.oH.length c) s.oH/\Below w.heap.size w w'
theorem fY.toL {w i:World} {h:Int} {a:RS} {b c d:Int} {e:Ending} (r:a.oL.length<=1000/\a.oH.length<=1000) (n:fY w ((h,a),(b,c,d)) e i):zfd w h a b c d e i:=by
 obtain⟨s,hi,rfl,o,p,q⟩:=n;have f:=zn4 (by show a.oL.length<=_;omega) o;have g:=zn4 (by show a.oH.length<=_;omega) p;obtain⟨k,m,rfl,_⟩:=id f;obtain⟨j,l,rfl,_⟩:=id g;exact⟨k,m,j,l,rfl,f,g,q⟩
end mdl
namespace mdl
open syn face mac
open chk
open ord
variable {a:ByteArray}
theorem zal {b:List ByteArray} :kJ b a=true ↔ a∈b:=by
 unfold kJ;rw[List.any_eq_true];constructor;·rintro⟨f,e,d⟩;rw[<- xG.1 d];exact e
 ·intro c;exact⟨a,c,xG.2 rfl⟩
theorem zuz {b:List ByteArray} :kJ b a=false ↔ a∉b:=by
 rw[Bool.eq_false_iff,ne_eq,not_congr zal]
theorem zfo:∀(e d:List ByteArray),yR d e=none ↔ (∀n∈e,n∉d)/\e.Nodup
 | [],d=>by
  unfold yR
  simp
 | n :: e,d=>by
  unfold yR
  cases h:kJ d n with
  | true =>
   rw[jv rfl];constructor;·intro i;cases i
   ·rintro⟨c,_⟩
    exact absurd (zal.1 h) (c n (jJ ..))
  | false =>
   rw[ju oD,zfo e (d++[n]),List.nodup_cons];constructor
   ·rintro⟨c,f⟩;refine⟨fun g b=>?_,fun k=>?_,f⟩
    ·rcases List.mem_cons.1 b with rfl | b
     ·exact zuz.1 h
     ·exact fun a=>c g b (List.mem_append_left _ a)
    ·exact c n k (List.mem_append_right _ (jy.2 rfl))
   ·rintro⟨c,f,j⟩;refine⟨fun g b a=>?_,j⟩;rcases List.mem_append.1 a with a | a
    ·exact c g (jF _ b) a
    ·rw[jy]at a;rw[a]at b;exact f b
theorem zkx:∀(xs:List ByteArray) (d:Nat),yT xs d=none ↔ ∀x∈xs,(tx x).ec=0
 | [],d=>by unfold yT;simp
 | x :: r,d=>by
  unfold yT;by_cases c:(tx x).ec=0
  ·rw[ju (by simp[c]),zkx r (d+1)];constructor
   ·intro a e b;rcases List.mem_cons.1 b with rfl | b
    ·exact c
    ·exact a e b
   ·intro a e b;exact a e (jF _ b)
  ·rw[jv c];constructor;·intro f;cases f
   ·intro a;exact absurd (a x (jJ ..)) c
theorem zn3 {ns:List ByteArray} {d:Nat}:∀(b:List ByteArray) (a:Nat),(∀y∈b,kJ ns y=true)->vD ns d b a=none
 | [],a,_=>rfl
 | y :: r,a,h=>by
  unfold vD;rw[jv (h y (jJ ..))];exact zn3 r (a+1) fun e c=>h e (jF _ c)
theorem zlm {ns:List ByteArray}:∀(b:List (List ByteArray)) (a:Nat),(∀l∈b,∀y∈l,kJ ns y=true)->xX ns b a=none
 | [],a,_=>rfl
 | l :: r,a,h=>by
  unfold xX;rw[zn3 l 0 (h l (jJ ..))];exact zlm r (a+1) fun d c=>h d (jF _ c)
theorem zxo {n:Nat} {t:List Nat} (b:∀a,a<n->a∈t):xY n t=none:=by
 unfold xY;rw[Option.map_eq_none_iff,List.find?_eq_none];intro a hi;have:=b a (List.mem_range.1 hi);simp[this]
theorem znt (xs:List ByteArray):∀(b:List Nat),(∀a∈b,(ckF (xs.getD a ⟨#[]⟩) (xK xs (xs.getD a ⟨#[]⟩)) (tx (xs.getD a ⟨#[]⟩)).m (tx (xs.getD a ⟨#[]⟩)).K).1=0)->yU xs b=none
 | [],_=>rfl
 | j :: r,h=>by
  unfold yU;dsimp only;rw[ju (fun c=>c (h j (jJ ..)))];exact znt xs r fun a hi=>h a (jF _ hi)
theorem zn9 {ns:List ByteArray} (e:ns.Nodup) {i:Nat} (hi:i<ns.length):qI ns ns[i]=some i/\qX ns ns[i]=i:=by
 obtain⟨b,a,h,d⟩:=zan (ns:=ns) (z:=ns[i]) (zal.2 (jH hi));obtain⟨_,f⟩:=zcm a;have c:ns[i]=ns[b]:=xG.1 f;have g:i=b:=(List.getElem_inj e).1 c;subst g;exact⟨a,d⟩
theorem zga {ns:List ByteArray} (b:a∈ns):∃hi:qX ns a<ns.length,ns[qX ns a]=a:=by
 obtain⟨g,c,d,e⟩:=zan (zal.2 b);obtain⟨_,f⟩:=zcm c;subst e;exact⟨d,(xG.1 f).symm⟩
structure Rk (xs:List ByteArray):Prop where
 len:0<xs.length/\xs.length<=6
 ec:∀x∈xs,(tx x).ec=0
 nd:(xs.map nameOf).Nodup
 im:∀x∈xs,∀y∈(tx x).I,y∈xs.map nameOf
 rank:∃r:ByteArray->Nat,∀x∈xs,∀y∈(tx x).I,r y<r (nameOf x)
 ck:∀x∈xs,(ckF x (xK xs x) (tx x).m (tx x).K).1=0
 mn:∃x∈xs,nameOf x=⟨#[109,97,105,110]⟩/\(tx x).F.procs.any xU=true
section
variable {ns:List ByteArray} {Is:List (List ByteArray)} {t:List Nat}
theorem zx1 (r:ns.length=Is.length) (q:ns.Nodup) (h:ByteArray->Nat) (j:∀a (hi:a<Is.length),∀b∈Is[a],b∈ns/\h b<h (ns[a]' oA)):∀(e a:Nat) (hi:a<Is.length),a∉t->h (ns[a]' oA)<=e->uI ns Is t≠none:=by
 intro e
 induction e with
 | zero =>
  intro a hi g m c;unfold uI at c;rw[List.find?_eq_none]at c;refine c a (List.mem_range.2 hi) ?_;unfold vT gA;have f:Is.getD a []=Is[a]:=by simp[hi]
  rw[f];simp only[jj,Bool.not_eq_true',List.any_eq_false];refine⟨by simpa using g,fun b d=>?_⟩;have:=(j a hi b d).2
  omega
 | succ e ih =>
  intro a hi g m;by_cases i:∃b∈Is[a],qX ns b∉t;·obtain⟨b,d,n⟩:=i;obtain⟨k,o⟩:=j a hi b d;obtain⟨p,l⟩:=zga k;refine ih (qX ns b) oA n ?_;rw[l];omega
  ·intro c;unfold uI at c;rw[List.find?_eq_none]at c;refine c a (List.mem_range.2 hi) ?_;unfold vT gA;have f:Is.getD a []=Is[a]:=by simp[hi]
   rw[f];simp only[jj,Bool.not_eq_true',List.any_eq_false];refine⟨by simpa using g,fun b d=>?_⟩;have:qX ns b∈t:=Decidable.not_not.1 fun c=>i ⟨b,d,c⟩
   simp[this]
theorem zk2 (h:ns.length=Is.length) (f:ns.Nodup) (d:ByteArray->Nat) (g:∀a (hi:a<Is.length),∀y∈Is[a],y∈ns/\d y<d (ns[a]' oA)):∀(c:Nat) (t:List Nat),Tk Is.length t->c+t.length=Is.length->(ord.takeF ns Is c t).length=Is.length
 | 0,t,hT,hk=>by unfold ord.takeF;omega
 | c+1,t,hT,hk=>by
  unfold ord.takeF
  have l:∃a,a<Is.length/\a∉t:=by
   refine Classical.byContradiction fun b=>?_
   have k:∀a∈List.range Is.length,a∈t:=fun a hi=>Classical.byContradiction fun e=>b ⟨a,List.mem_range.1 hi,e⟩
   have:=List.nodup_range.length_le_of_subset k;simp at this;omega
  obtain⟨a,hi,m⟩:=l;have n:=zx1 h f d g (t:=t) _ a hi m (jE _)
  cases b:uI ns Is t with
  | none=>exact absurd b n
  | some o =>
   obtain⟨i,e,j⟩:=zb0 b;exact zk2 h f d g c (t++[o]) (hT.snoc i j) oE
end
theorem ya2 {n:Nat} {t:List Nat} (b:Tk n t) (d:t.length=n) (a:Nat) (hi:a<n):a∈t:=by
 refine Classical.byContradiction fun c=>?_
 have:=(b.snoc hi c).len;simp at this;omega
theorem yc9 {xs:List ByteArray} (g:orderF xs=none):Rk xs:=by
 have b:=ze2 g
 have C:0<xs.length/\xs.length<=6:=by
  unfold orderF at g;split at g;·cases g
  ·omega
 have o:(xs.map nameOf).Nodup:=((zfo _ _).1 b.ri.apart).2;have v:=b.ri.tk;have y:∀d∈xs,∀c∈(tx d).I,c∈xs.map nameOf:=fun d f c i=>zal.1 (b.ri.all d f c i)
 refine⟨C,b.ri.ec,o,y,⟨fun D=>(qW xs).idxOf (qX (xs.map nameOf) D),fun d f c i=>?_⟩,fun d f=>?_,?_⟩
 ·obtain⟨a,hi,rfl⟩:=List.mem_iff_getElem.1 f
  have q:qX (xs.map nameOf) (nameOf xs[a])=a:=by
   have:=(zn9 o (i:=a) (by simpa using hi)).2
   rwa[List.getElem_map]at this
  have z:=b.left a hi;have p:(qW xs).idxOf a<(qW xs).length:=List.idxOf_lt_length_iff.2 z;have h:=b.ri.good ((qW xs).idxOf a) p;have r:(qW xs)[(qW xs).idxOf a]=a:=List.getElem_idxOf p;rw[r]at h;unfold gA at h;rw[List.any_eq_false]at h;have s:(xs.map fun d=>(tx d).I).getD a []=(tx xs[a]).I:=by simp[hi]
  have t:=h c (by rw[s];exact i);have u:qX (xs.map nameOf) c∈(qW xs).take ((qW xs).idxOf a):=by simpa using t
  show(qW xs).idxOf (qX (xs.map nameOf) c)<(qW xs).idxOf (qX (xs.map nameOf) (nameOf xs[a]));rw[q];obtain⟨j,B,k⟩:=List.mem_iff_getElem.1 u;rw[List.getElem_take]at k
  have G:j<(qW xs).idxOf a:=by
   rw[List.length_take]at B;omega
  have E:(qW xs).idxOf (qX (xs.map nameOf) c)=j:=by
   rw[<- k];exact v.nd.idxOf_getElem j oA
  omega
 ·obtain⟨a,hi,rfl⟩:=List.mem_iff_getElem.1 f;have w:=zfy xs _ b.ck a (b.left a hi)
  rwa[getD_at hi]at w
 ·have e:=b.mn;unfold uG at e;split at e;·cases e
  rename_i a hi;split at e
  case isFalse=>cases e
  rename_i l;obtain⟨x,m⟩:=zcm hi;have n:a<xs.length:=by simpa using x
  rw[getD_at n]at l;rw[List.getElem_map]at m;exact⟨xs[a],jH n,(xG.1 m).symm,l⟩
theorem yc1 {xs:List ByteArray} (b:Rk xs):orderF xs=none:=by
 obtain⟨t,r⟩:=b.rank;have p:(xs.map nameOf).length=(xs.map fun c=>(tx c).I).length:=oC;have h:Tk (xs.map fun c=>(tx c).I).length (qW xs):=zea _ _ ⟨fun a hi=>(by cases hi),List.nodup_nil⟩
 have o:(qW xs).length=(xs.map fun c=>(tx c).I).length:=by
  refine zk2 p b.nd t (fun a hi e d=>?_) xs.length [] ⟨fun a hi=>(by cases hi),List.nodup_nil⟩ oC;have i:a<xs.length:=by simpa using hi
  rw[List.getElem_map]at d;rw[List.getElem_map];exact⟨b.im _ (jH i) e d,r _ (jH i) e d⟩
 have l:∀a,a<xs.length->a∈qW xs:=fun a hi=>ya2 h o a (by simpa using hi)
 have j:∀a∈qW xs,a<xs.length:=fun a hi=>by
  have:=h.lt a hi;simpa using this
 have u:=b.len;unfold orderF;rw[ju oA,(zkx xs 0).2 b.ec];dsimp only;rw[(zfo _ _).2 ⟨fun n k s=>(by cases s),b.nd⟩];dsimp only
 rw[zlm _ 0 (fun v m e d=>by
  obtain⟨c,f,rfl⟩:=List.mem_map.1 m
  exact zal.2 (b.im c f e d))]
 dsimp only;rw[zxo l];dsimp only
 rw[znt xs _ (fun a hi=>by
  rw[getD_at (j a hi)]
  exact b.ck _ (jH (j a hi)))]
 dsimp only;obtain⟨c,f,k,q⟩:=b.mn;obtain⟨a,hi,rfl⟩:=List.mem_iff_getElem.1 f;have g:=(zn9 b.nd (i:=a) (by simpa using hi)).1;rw[List.getElem_map,k]at g;unfold uG;rw[g];dsimp only;rw[getD_at hi,jv q]
theorem ztx {xs b:List ByteArray} (j:List.Perm b xs) (f:Rk xs) {c:ByteArray} (t:c∈xs):xK b c=xK xs c:=by
 unfold xK;refine List.map_congr_left fun a u=>?_
 have k:=f.im c t a u;have v:a∈b.map nameOf:=(j.map nameOf).mem_iff.2 k;obtain⟨o,g⟩:=zga k;obtain⟨q,i⟩:=zga v;have p:qX (xs.map nameOf) a<xs.length:=by simpa using o
 have h:qX (b.map nameOf) a<b.length:=by simpa using q
 rw[getD_at p,getD_at h];rw[List.getElem_map]at g i;have s:b[qX (b.map nameOf) a]∈xs:=j.mem_iff.1 (jH h);obtain⟨d,r,e⟩:=List.mem_iff_getElem.1 s
 have l:(xs.map nameOf)[d]'(by simpa using r)=(xs.map nameOf)[qX (xs.map nameOf) a]:=by
  rw[List.getElem_map,List.getElem_map,e,i,g]
 have m:d=qX (xs.map nameOf) a:=(List.getElem_inj f.nd).1 l;have n:xs[qX (xs.map nameOf) a]=xs[d]:=by simp only[m]
 rw[n,e]
theorem Rk.perm {xs f:List ByteArray} (b:List.Perm f xs) (d:Rk xs):Rk f:=by
 have e:=b.map nameOf;refine⟨by rw[b.length_eq];exact d.len,fun c a=>d.ec c (b.mem_iff.1 a),e.nodup_iff.2 d.nd,fun c a l j=>e.mem_iff.2 (d.im c (b.mem_iff.1 a) l j),?_,fun c a=>?_,?_⟩;·obtain⟨k,i⟩:=d.rank;exact⟨k,fun c a=>i c (b.mem_iff.1 a)⟩
 ·rw[ztx b d (b.mem_iff.1 a)];exact d.ck c (b.mem_iff.1 a)
 ·obtain⟨c,a,g,h⟩:=d.mn;exact⟨c,b.mem_iff.2 a,g,h⟩
theorem zjx {xs a:List ByteArray} (c:List.Perm a xs) (b:orderF xs=none):orderF a=none:=yc1 ((yc9 b).perm c)
theorem zkw {α:Type} {is:Kid->Bool} {val:ByteArray × Kid->α} {b:ByteArray->α} {a h:List (ByteArray × Kid)} (g:∀q,q∈a ↔ q∈h) (m:∀q∈a,∀f∈a,is q.2=true->is f.2=true->keyOf q=keyOf f->q=f):vX is val b a=vX is val b h:=by
 funext y
 refine(zb2 _ y h b (fun q e c d=>?_) ?_).symm;·refine(zb2 (val q) y a b (fun f l j k=>?_) (.inl ⟨q,(g q).2 e,c,d⟩)).symm;rw[m f l q ((g q).2 e) j c (by rw[<- d,<- k])]
 ·by_cases i:∃q∈a,is q.2=true/\y=keyOf q;·obtain⟨q,e,c,d⟩:=i;exact .inl ⟨q,(g q).1 e,c,d⟩
  ·right;refine(zb2 (b y) y a b (fun q e c d=>absurd ⟨q,e,c,d⟩ i) (.inr rfl)).symm
theorem zk4 {xs e:List ByteArray} (d:List.Perm e xs) (q:ByteArray × Kid):q∈kQ (e.map mdM) ↔ q∈kQ (xs.map mdM):=by
 unfold kQ;rw[List.mem_flatMap,List.mem_flatMap];constructor;·rintro⟨c,b,a⟩;exact⟨c,(d.map mdM).mem_iff.1 b,a⟩
 ·rintro⟨c,b,a⟩;exact⟨c,(d.map mdM).mem_iff.2 b,a⟩
theorem zwl {xs a:List ByteArray} {iL iH:List Int} {fuel:Int} (e:List.Perm a xs) (i:orderF xs=none):yC a iL iH fuel=yC xs iL iH fuel:=by
 have j:=zjx e i;have h:=ziq j;have k:psF (kQ (a.map mdM))=psF (kQ (xs.map mdM)):=zkw (zk4 e) (fun q f m g b c d=>h.uniq f g (by unfold isD;rw[b];rfl) (by unfold isD;rw[c];rfl) d);have l:vsF (kQ (a.map mdM))=vsF (kQ (xs.map mdM)):=zkw (zk4 e) (fun q f m g b c d=>h.uniq f g (by unfold isD;rw[b];exact Bool.or_true _) (by unfold isD;rw[c];exact Bool.or_true _) d);unfold yC vA;rw[i,j,k,l]
theorem zuv {xs c:List ByteArray} (iL iH:List Int) (fuel:Int) (e:List.Perm c xs) : ((yC xs iL iH fuel).2.2.1≠0/\(yC c iL iH fuel).2.2.1≠0/\(yC xs iL iH fuel).1.2.st=0/\(yC c iL iH fuel).1.2.st=0) \/ ((yC xs iL iH fuel).2.2.1=0/\(yC c iL iH fuel).2.2.1=0/\(yC c iL iH fuel).1=(yC xs iL iH fuel).1):=by
 by_cases a:zU iL.length iH.length fuel 1000=0
 ·cases b:orderF xs with
  | none =>
   right;rw[zwl e b,zes a b]
   exact⟨rfl,rfl,rfl⟩
  | some t =>
   left
   cases d:orderF c with
   | none=>rw[zjx e.symm d]at b;cases b
   | some f =>
    rw[zd8 a b,zd8 a d];exact⟨order_code b,order_code d,rfl,rfl⟩
 ·left;rw[zd7 a,zd7 a];exact⟨a,a,rfl,rfl⟩
end mdl
namespace mdl
open Go.RowKit Go.Shelf
open syn face chk
open ord hiding takeF
abbrev knX:ByteArray:=⟨#[109,111,100,117,108,101,32,109,97,105,110,59,112,117,98,32,112,114,111,99,32,109,97,105,110,40,41,108,111,119,123,111,117,116,32,108,111,119,32,49,59,125]⟩
abbrev knB:Tree:=.node 6 empty 0 [.node 12 empty 0 [.node 15 empty 1 []]]
abbrev knK:List Kid:=[.proc ⟨#[109,97,105,110]⟩ true false none [] knB]
theorem zn5:(parse knX).code=0:=oB
theorem zn6:(parse knX).tree=.node 1 ⟨#[109,97,105,110]⟩ 0 [.node 4 ⟨#[109,97,105,110]⟩ 2 [knB]]:=oB
theorem zrq:ckF knX [] ⟨#[109,97,105,110]⟩ knK=(0,0):=by
 unfold ckF;rw[ju oD,ju (by rw[zn5];decide)];rfl
theorem cP:(tx knX).m=⟨#[109,97,105,110]⟩/\(tx knX).K=knK:=by
 have a:=((txo knX).shp zn5).1;rw[zn6]at a;injection a with h1 h2 h3 h4;refine⟨h2.symm,?_⟩
 cases b:(tx knX).K with
 | nil=>rw[b]at h4;simp at h4
 | cons d c =>
  rw[b]at h4
  cases c with
  | nil =>
   simp only[List.map_cons,List.map_nil,jq,and_true]at h4
   rw[ord.kid_is h4.symm]
  | cons e f=>simp at h4
theorem zfa:(tx knX).ec=0:=by
 by_cases a:(tx knX).ec=0;·exact a
 ·have:=(txo knX).bad a [];rw[cP.1,cP.2,zrq]at this;exact absurd rfl this
theorem zzo:nameOf knX=⟨#[109,97,105,110]⟩:=by
 unfold nameOf;rw[((txo knX).good zfa).1,cP.1];rfl
theorem zis:(tx knX).I=[]:=by
 rw[((txo knX).good zfa).2.1,cP.2];rfl
theorem zls:qW [knX]=[0]:=by
 unfold qW;simp only[List.map_cons,List.map_nil,zis];rfl
theorem zxl:orderF [knX]=none:=by
 have c:yT [knX] 0=none:=by
  unfold yT;rw[zfa];rfl
 have d:yR [] ([knX].map nameOf)=none:=rfl
 have e:xX ([knX].map nameOf) ([knX].map fun i=>(tx i).I) 0=none:=by
  simp only[List.map_cons,List.map_nil,zis];rfl
 have f:xY [knX].length (qW [knX])=none:=by
  rw[zls];rfl
 have g:yU [knX] (qW [knX])=none:=by
  rw[zls];show(if(ckF knX (xK [knX] knX) (tx knX).m (tx knX).K).1≠0 then _ else _)=none;have a:xK [knX] knX=[]:=by unfold xK;rw[zis];rfl
  rw[a,cP.1,cP.2,zrq];rfl
 have h:uG [knX]=none:=by
  unfold uG
  have a:qI ([knX].map nameOf) ⟨#[109,97,105,110]⟩=some 0:=by
   simp only[List.map_cons,List.map_nil,zzo]
   kernel_rfl
  rw[a];show(if(tx knX).F.procs.any xU then none else some (0,4,0))=none;have b:(qQ false ⟨#[109,97,105,110]⟩ knK).procs.any xU=true:=oB;rw[((txo knX).good zfa).1,cP.1,cP.2,b];rfl
 unfold orderF;rw[ju oC,c,d,e,f,g,h]
theorem ybk:mdM knX=(⟨#[109,97,105,110]⟩,knK):=by
 unfold mdM mdN mdK;rw[zn6]
 kernel_rfl
theorem ycs:psF (kQ [(⟨#[109,97,105,110]⟩,knK)]) zX=⟨⟨#[109,97,105,110]⟩,[],knB⟩:=oB
theorem ybl (c:Cx) (a:Nat) (b:RS) (g:c.ps zX=⟨⟨#[109,97,105,110]⟩,[],knB⟩) (d:c.fuel=9) (e:b.st=0) (f:b.oL=[]):(zaa (clM c (a+6) 0 zX [] b)).2.oL=[1]:=by
 rw[show a+6=(a+5)+1 from rfl,zij,g];rw[ju oD,ju oC];dsimp only;rw[show a+5=(a+4)+1 from rfl,zii,show a+4=(a+3)+1 from rfl,zp6,show a+3=(a+2)+1 from rfl,zhv,show a+2=(a+1)+1 from rfl];unfold kP;rw[ju (by rw[e,d];decide)];dsimp only[Out.bind];rw[zh2];unfold kP;dsimp only[Out.bind];rw[ju (by rw[e,d];decide)];dsimp only[Out.bind];rw[show a+1+1+1=(a+2)+1 from rfl,zie];show(uN (0 % 2) 1 _).oL=[1]
 unfold uN;rw[ju oD];show b.oL++[1]=[1]
 rw[f];rfl
theorem zxm:(yC [knX] [] [] 9).2.2.1=0/\(yC [knX] [] [] 9).1.2.oL=[1]:=by
 rw[zes oD zxl];refine⟨rfl,?_⟩;show(zaa (clM (vA [knX] [] [] 9) (999994+6) 0 zX [] _)).2.oL=[1]
 refine ybl _ 999994 _ ?_ rfl rfl rfl;show psF (kQ ([knX].map mdM)) zX=_;rw[List.map_cons,List.map_nil,ybk];exact ycs
end mdl
namespace mdl
open Go.RowKit
open syn face mac
open chk hiding BoxC BoxC.new BoxC.below BoxC.lt BoxC.cell BoxC.fz BoxC.set
open ord (tkd gL xN)
def yZ (t:Nat) (xs:List ByteArray):List ByteArray:=(List.range xs.length).map fun i=>xs.getD ((i+t) % xs.length) ⟨#[]⟩
variable {a:Nat}
theorem zax (t:Nat) (xs:List ByteArray):(yZ t xs).length=xs.length:=by simp[yZ]
theorem znl {t:Nat} {xs:List ByteArray} (b:a<(yZ t xs).length):(yZ t xs)[a]=xs.getD ((a+t) % xs.length) ⟨#[]⟩:=by simp[yZ]
theorem zwt {t:Nat} {xs:List ByteArray} (b:a<xs.length):(yZ t xs).take (a+1)=(yZ t xs).take a++[xs.getD ((a+t) % xs.length) ⟨#[]⟩]:=by
 have c:a<(yZ t xs).length:=by rw[zax];exact b
 rw[List.take_succ_eq_append_getElem c,znl]
theorem zws (t:Nat) (xs:List ByteArray):List.Perm (yZ t xs) xs:=by
 by_cases g:xs.length=0;·have:xs=[]:=List.eq_nil_of_length_eq_zero g;subst this;exact List.Perm.refl _
 have i:t % xs.length<xs.length:=Nat.mod_lt _ oA
 have d:yZ t xs=xs.drop (t % xs.length)++xs.take (t % xs.length):=by
  refine List.ext_getElem ?_ fun a c h=>?_
  ·rw[zax,jb,List.length_drop,List.length_take];omega
  ·have hi:a<xs.length:=by rw[zax]at c;exact c
   rw[znl,<- Nat.add_mod_mod];generalize t % xs.length=b at *;by_cases f:a<xs.length - b
   ·rw[Nat.mod_eq_of_lt oA,List.getElem_append_left (by rw[List.length_drop];exact f),List.getElem_drop,ord.getD_at oA]
    congr 1
    omega
   ·have e:(a+b) % xs.length=a+b - xs.length:=by
     rw[Nat.mod_eq_sub_mod oA,Nat.mod_eq_of_lt oA]
    rw[e,List.getElem_append_right (by rw[List.length_drop];omega),List.getElem_take,ord.getD_at oA]
    congr 1
    rw[List.length_drop];omega
 rw[d];exact List.perm_append_comm.trans (by rw[List.take_append_drop])
theorem strs_own {w:World} {v:Value} {c:List ByteArray} (m:c.length<=9223372036854775807) (d:w.ownsRow a 9 1 v c.length (c.map Value.string)):zH w v c:=by
 rcases d.2 with⟨b,f⟩|⟨e,g,i,b,l,_,j,k,_⟩
 ·exact⟨none,0,by rw[b,f],oA,fun h=>absurd (List.eq_nil_of_length_eq_zero f) h⟩
 ·refine⟨some ⟨e,0,none⟩,g,b,oA,fun _=>⟨e,0,rfl,fun n hi=>?_⟩⟩;rw[b]at d;rw[Nat.zero_add,d.cellAt _ oA];simp[hi]
theorem zys (w:World) (a:ByteArray):zH (w.alloc (.cells #[.string a] 9)) (.slice (some ⟨w.heap.size,0,none⟩) 1 1) [a]:=by
 refine⟨some ⟨w.heap.size,0,none⟩,1,rfl,oC,fun _=>⟨w.heap.size,0,rfl,fun b hi=>?_⟩⟩;obtain rfl:b=0:=by simpa using hi
 simp
section
variable {w:World}
theorem turns_walk (aU:gQ w) (xs:List ByteArray) (ch aC ih:Value) (iL iH:List Int) (t:Nat) (cd:t<256) (fuel:Int) (aw:zH w ch xs) (c9:xs.length*16<=140737488355328) (aV:IntsIn w aC iL) (aX:IntsIn w ih iH) : Calls Tryz.prog 6 #[ch,aC,ih,.int .u8 t,.int .i64 fuel] w fun s aD=>s=.returned (.bool true)/\Below w.heap.size w aD:=by
 obtain⟨dd,b2,ba,bb,E⟩:=info_parts zrp;obtain⟨cf,cg,rfl,a6⟩:=id aw;clear a6;by_cases av:xs.length=0;·rw[av];clear aU aw aV aX;go_enter Tryz.func6,Tryz.ntmps6;go_wp2;go_ret;exact⟨rfl,Below.refl _ _⟩
 have bA:((xs.length:Int)==0)=false:=beq_eq_false_iff_ne.2 oA;have aR:=show Hid _ from aw
 have aL:=show Hid _ from aU
 have aN:=show Hid _ from aV
 have aO:=show Hid _ from aX
 clear aU aw aV aX;go_enter Tryz.func6,Tryz.ntmps6;go_wp2;go_loopw [13,12] (fun bc cH wr=>∃(r:Nat),r<=xs.length/\bc=.int .i64 r/\Hid (wr.ownsRow w.heap.size 9 1 cH r (((yZ t xs).take r).map Value.string))/\Hid (Below w.heap.size w wr)) (fun bc _ _=>xs.length - (intOf bc).toNat)
 case atStart=>exact⟨0,jz _,rfl,World.ownsRow_nil _ _ _ _,Below.refl _ _⟩
 case round =>
  obtain⟨r,bS,rfl,ae,N⟩:=hrel;by_cases b7:r<xs.length
  ·obtain⟨a2,ac⟩:∃a2,a2=(r+t) % xs.length:=⟨_,rfl⟩
   have bX:a2<xs.length:=by rw[ac];exact Nat.mod_lt _ oA
   have b0:=zwt (t:=t) b7;rw[<- ac,ord.getD_at bX]at b0
   have dw:((r:Int)+(t:Int)) % (xs.length:Int)=(a2:Int):=by
    rw[ac];push_cast;rfl
   have d3:=xN aR.out N.out;obtain⟨k,cL,bz,_,bM⟩:=d3;obtain⟨rfl,rfl⟩:cf=k/\cg=cL:=by simpa using bz
   obtain⟨e3,to,rfl,bN⟩:=bM (fun s=>av (by rw[s];rfl));have d5:=bN a2 bX;have bj:=show Hid _ from b0
   clear bM bN bz b0 ac;generalize xs[a2]=ci at *;have aW:=ae.out.alloc (.cells #[.string ci] 9);have dt:((yZ t xs).take r).length=r:=by rw[List.length_take,zax];omega
   have du:=N.out.size;go_wp2_with (at_builtin;refine wpList_append_lies _ rfl (.tmp 29) (.tmp 39) 33 rfl w.heap.size 9 dd (.string ⟨#[]⟩) 1 16 Tryz.underlying33 b2 ba bb E rfl oD _ _ _ rfl aW ⟨wr.heap.size,0,none⟩ 1 1 [.string ci] rfl oC (zed wr _ _) (zjw _) oA (by unfold maxLen;omega) oA oE _ rfl ?_;intro d2 d1 M ca bR d4 d6)
   have ad:Hid (Below w.heap.size w M):=(N.out.alloc N.out.size _).grown bR (by have:=N.out.size;simp;omega) (fun a2 ac=>by
    have:=(aW.lt a2 ac).1
    omega)
   have cy:Hid (M.ownsRow w.heap.size 9 1 (.slice (some ⟨d2,0,none⟩) (r+1) d1) (r+1) (((yZ t xs).take (r+1)).map Value.string)):=by
    show World.ownsRow ..;rw[bj.out,List.map_append];exact ca
   clear ca bR d4 d6 aW ae N bj;go_wp2;go_roundw
   case rel=>exact⟨r+1,oA,oM,cy.out,ad.out⟩
   case measure=>simp[intOf];omega
  ·obtain rfl:r=xs.length:=oA;have bP:(yZ t xs).take xs.length=yZ t xs:=jG (by rw[zax];exact jE _);rw[bP]at ae;have aB:=zax t xs;have aZ:zH wr u12 (yZ t xs):=strs_own (by rw[aB];omega) (by rw[aB];exact ae.out);have ce:=zws t xs;have da:=zuv iL iH fuel ce;have aY:=fun (cq:List ByteArray) (cr:Value) (W:World) (m:Below w.heap.size w W) (db:zH W cr cq)=>zr9 W cq iL iH fuel cr _ _ (vZ aL.out m) db (fD aN.out m) (fD aO.out m)
   have bC:=fun (W:World) (m:Below w.heap.size w W)=>aY xs _ W m (xN aR.out m)
   have bF:=fun (W:World) (m:Below w.heap.size w W) (p:Below wr.heap.size wr W)=>aY (yZ t xs) u12 W m (xN aZ p)
   have bG:=fun (W:World) (m:Below w.heap.size w W)=>zr9 (W.alloc (.cells #[.string knX] 9)) [knX] [] [] 9 _ (.slice none 0 0) (.slice none 0 0) (vZ aL.out (m.alloc m.size _)) (zys W knX) ⟨none,0,rfl,oC,fun G=>absurd rfl G⟩ ⟨none,0,rfl,oC,fun G=>absurd rfl G⟩
   have c6:=zxm;have b9:=zfv (xs:=xs) (iL:=iL) (iH:=iH) fuel;have cb:=zfv (xs:=yZ t xs) (iL:=iL) (iH:=iH) fuel;have cc:=zfv (xs:=[knX]) (iL:=[]) (iH:=[]) 9;generalize yC xs iL iH fuel=ct at *;generalize yC (yZ t xs) iL iH fuel=cu at *;generalize yC [knX] [] [] 9=cz at *;obtain⟨⟨K,b⟩,n,k,o⟩:=ct;obtain⟨⟨l,a⟩,aa,S,ab⟩:=cu;obtain⟨⟨L,d⟩,a7,a8,a9⟩:=cz;dsimp only at *;have ar:Hid (∀W,Below w.heap.size w W->Calls Tryz.prog 12 #[.slice cf xs.length cg,aC,ih,.int .i64 fuel] W (zfd W K b n k o)):=fun W m=>(bC W m).mono fun s aD G=>G.toL b9
   have au:Hid (∀W,Below w.heap.size w W->Below wr.heap.size wr W->Calls Tryz.prog 12 #[u12,aC,ih,.int .i64 fuel] W (zfd W l a aa S ab)):=fun W m p=>(bF W m p).mono fun s aD G=>G.toL cb
   have aP:Hid (∀W,Below w.heap.size w W->Calls Tryz.prog 12 #[.slice (some ⟨W.heap.size,0,none⟩) 1 1,.slice none 0 0,.slice none 0 0,.int .i64 9] (W.alloc (.cells #[.string knX] 9)) (zfd (W.alloc (.cells #[.string knX] 9)) L d a7 a8 a9)):=fun W m=>(bG W m).mono fun s aD G=>G.toL cc
   have y:=show Hid _ from N.out
   have aM:Hid (d.oL.length=1):=by show _=_;rw[c6.2];rfl
   have aQ:=show Hid _ from b9
   obtain⟨dx,dy,rfl,a6⟩:=id aN.out;clear a6;obtain⟨ds,d5,rfl,a6⟩:=id aO.out;clear a6;obtain⟨dz,e0,rfl,a6⟩:=id aZ;clear a6;clear bC bF bG aY c6 b9 cb cc ce aZ ae N aR aL aN aO bP;generalize yZ t xs=e9 at *;rcases da with⟨ah,ai,aj,bB⟩|⟨ah,ai,aj⟩
   ·have di:(k != 0)=true:=by simpa using ah
    have dj:(S != 0)=true:=by simpa using ai
    have e1:((b.st:Int)==0)=true:=by simpa using aj
    have e2:((a.st:Int)==0)=true:=by simpa using bB
    clear ah ai aj bB aB c9 b7 bS av bA ba bb E b2 cd;go_wp2_with (fail);refine(ar.out wr y.out).mono ?_;rintro s c ⟨g,i,f,h,rfl,an,jA,p⟩;have af:=show Hid (IntsIn c (.slice g b.oL.length i) b.oL)from an
    have ag:=show Hid (IntsIn c (.slice f b.oH.length h) b.oH)from jA
    have E:=p.size;have j:BoxC ((c.alloc (.cells #[.int .i64 K,.slice g b.oL.length i,.slice f b.oH.length h,natV b.uL,natV b.uH,natV b.st] 44)).alloc (.cells #[.int .i64 n,.int .i64 k,.int .i64 o] 36)) c.heap.size #[.int .i64 K,.slice g b.oL.length i,.slice f b.oH.length h,natV b.uL,natV b.uH,natV b.st] 44:=(BoxC.new c _ _).alloc _
    have v:BoxC ((c.alloc (.cells #[.int .i64 K,.slice g b.oL.length i,.slice f b.oH.length h,natV b.uL,natV b.uH,natV b.st] 44)).alloc (.cells #[.int .i64 n,.int .i64 k,.int .i64 o] 36)) (c.heap.size+1) #[.int .i64 n,.int .i64 k,.int .i64 o] 36:=by
     have:=BoxC.new (c.alloc (.cells #[.int .i64 K,.slice g b.oL.length i,.slice f b.oH.length h,natV b.uL,natV b.uH,natV b.st] 44)) #[.int .i64 n,.int .i64 k,.int .i64 o] 36;rw[jP]at this;exact this
    have u:Below c.heap.size c ((c.alloc (.cells #[.int .i64 K,.slice g b.oL.length i,.slice f b.oH.length h,natV b.uL,natV b.uH,natV b.st] 44)).alloc (.cells #[.int .i64 n,.int .i64 k,.int .i64 o] 36)):=(bal _).alloc oC _;have b8:((c.alloc (.cells #[.int .i64 K,.slice g b.oL.length i,.slice f b.oH.length h,natV b.uL,natV b.uH,natV b.st] 44)).alloc (.cells #[.int .i64 n,.int .i64 k,.int .i64 o] 36)).heap.size=c.heap.size+2:=oC;clear an jA;go_wp2_with (fail);generalize (c.alloc (.cells #[.int .i64 K,.slice g b.oL.length i,.slice f b.oH.length h,natV b.uL,natV b.uH,natV b.st] 44)).alloc (.cells #[.int .i64 n,.int .i64 k,.int .i64 o] 36)=be at *;refine(au.out be (y.out.trans ((p.trans (u.mono E)).mono y.out.size)) (p.trans (u.mono E))).mono ?_;rintro s e ⟨B,D,z,C,rfl,ao,jB,q⟩;have bn:=show Hid (IntsIn e (.slice B a.oL.length D) a.oL)from ao
    have bp:=show Hid (IntsIn e (.slice z a.oH.length C) a.oH)from jB
    have bm:=show Hid (IntsIn e (.slice g b.oL.length i) b.oL)from fD af.out (u.trans (q.mono oA))
    have bo:=show Hid (IntsIn e (.slice f b.oH.length h) b.oH)from fD ag.out (u.trans (q.mono oA))
    have dc:=q.size;have ak:Below w.heap.size w e:=y.out.trans (((p.trans (u.mono E)).trans (q.mono oA)).mono y.out.size);replace j:=j.below q;replace v:=v.below q;have aE:=j.cell 0 rfl;have aF:=j.cell 1 rfl;have cn:=j.cell 2 rfl;have co:=j.cell 3 rfl;have cp:=j.cell 4 rfl;have aG:=j.cell 5 rfl;have cj:=v.cell 0 rfl;have ck:=v.cell 1 rfl;have cm:=v.cell 2 rfl;have c7:c.heap.size<e.heap.size:=oA;have c8:c.heap.size+1<e.heap.size:=oA;have P:=show Hid _ from ak
    have d0:=kc44;have cR:=kc36;have aI:Hid (BoxC e c.heap.size #[.int .i64 K,.slice g b.oL.length i,.slice f b.oH.length h,natV b.uL,natV b.uH,natV b.st] 44):=j;clear ao jB j v af ag q p u b8 ak;clear ar au aP aM y aQ
    go_upto_region 12 with fail
    go_wp2;go_ret;exact⟨rfl,(P.out.alloc P.out.size _).alloc (by have:=P.out.size;simp;omega) _⟩
   ·have di:(k != 0)=false:=by simpa using ah
    have dj:(S != 0)=false:=by simpa using ai
    simp only[Prod.mk.injEq]at aj;obtain⟨rfl,rfl⟩:=aj;clear ah ai aB c9 b7 bS av bA ba bb E b2 cd;go_wp2_with (fail);refine(ar.out wr y.out).mono ?_;rintro s c ⟨g,i,f,h,rfl,an,jA,p⟩;have af:=show Hid (IntsIn c (.slice g a.oL.length i) a.oL)from an
    have ag:=show Hid (IntsIn c (.slice f a.oH.length h) a.oH)from jA
    have E:=p.size;have j:BoxC ((c.alloc (.cells #[.int .i64 l,.slice g a.oL.length i,.slice f a.oH.length h,natV a.uL,natV a.uH,natV a.st] 44)).alloc (.cells #[.int .i64 n,.int .i64 k,.int .i64 o] 36)) c.heap.size #[.int .i64 l,.slice g a.oL.length i,.slice f a.oH.length h,natV a.uL,natV a.uH,natV a.st] 44:=(BoxC.new c _ _).alloc _
    have v:BoxC ((c.alloc (.cells #[.int .i64 l,.slice g a.oL.length i,.slice f a.oH.length h,natV a.uL,natV a.uH,natV a.st] 44)).alloc (.cells #[.int .i64 n,.int .i64 k,.int .i64 o] 36)) (c.heap.size+1) #[.int .i64 n,.int .i64 k,.int .i64 o] 36:=by
     have:=BoxC.new (c.alloc (.cells #[.int .i64 l,.slice g a.oL.length i,.slice f a.oH.length h,natV a.uL,natV a.uH,natV a.st] 44)) #[.int .i64 n,.int .i64 k,.int .i64 o] 36;rw[jP]at this;exact this
    have u:Below c.heap.size c ((c.alloc (.cells #[.int .i64 l,.slice g a.oL.length i,.slice f a.oH.length h,natV a.uL,natV a.uH,natV a.st] 44)).alloc (.cells #[.int .i64 n,.int .i64 k,.int .i64 o] 36)):=(bal _).alloc oC _;have b8:((c.alloc (.cells #[.int .i64 l,.slice g a.oL.length i,.slice f a.oH.length h,natV a.uL,natV a.uH,natV a.st] 44)).alloc (.cells #[.int .i64 n,.int .i64 k,.int .i64 o] 36)).heap.size=c.heap.size+2:=oC;clear an jA;go_wp2_with (fail);generalize (c.alloc (.cells #[.int .i64 l,.slice g a.oL.length i,.slice f a.oH.length h,natV a.uL,natV a.uH,natV a.st] 44)).alloc (.cells #[.int .i64 n,.int .i64 k,.int .i64 o] 36)=be at *;refine(au.out be (y.out.trans ((p.trans (u.mono E)).mono y.out.size)) (p.trans (u.mono E))).mono ?_;rintro s e ⟨B,D,z,C,rfl,ao,jB,q⟩;have bn:=show Hid (IntsIn e (.slice B a.oL.length D) a.oL)from ao
    have bp:=show Hid (IntsIn e (.slice z a.oH.length C) a.oH)from jB
    have bm:=show Hid (IntsIn e (.slice g a.oL.length i) a.oL)from fD af.out (u.trans (q.mono oA))
    have bo:=show Hid (IntsIn e (.slice f a.oH.length h) a.oH)from fD ag.out (u.trans (q.mono oA))
    have dc:=q.size;have ak:Below w.heap.size w e:=y.out.trans (((p.trans (u.mono E)).trans (q.mono oA)).mono y.out.size);replace j:=j.below q;replace v:=v.below q;have aE:=j.cell 0 rfl;have aF:=j.cell 1 rfl;have cn:=j.cell 2 rfl;have co:=j.cell 3 rfl;have cp:=j.cell 4 rfl;have aG:=j.cell 5 rfl;have cj:=v.cell 0 rfl;have ck:=v.cell 1 rfl;have cm:=v.cell 2 rfl;have c7:c.heap.size<e.heap.size:=oA;have c8:c.heap.size+1<e.heap.size:=oA;have P:=show Hid _ from ak
    have d0:=kc44;have cR:=kc36;have aI:Hid (BoxC e c.heap.size #[.int .i64 l,.slice g a.oL.length i,.slice f a.oH.length h,natV a.uL,natV a.uH,natV a.st] 44):=j;clear ao jB j v af ag q p u b8 ak;clear ar au;have b1:Below e.heap.size e ((e.alloc (.cells #[.int .i64 l,.slice B a.oL.length D,.slice z a.oH.length C,natV a.uL,natV a.uH,natV a.st] 44)).alloc (.cells #[.int .i64 aa,.int .i64 S,.int .i64 ab] 36)):=(bal _).alloc oC _;have bs:BoxC ((e.alloc (.cells #[.int .i64 l,.slice B a.oL.length D,.slice z a.oH.length C,natV a.uL,natV a.uH,natV a.st] 44)).alloc (.cells #[.int .i64 aa,.int .i64 S,.int .i64 ab] 36)) e.heap.size #[.int .i64 l,.slice B a.oL.length D,.slice z a.oH.length C,natV a.uL,natV a.uH,natV a.st] 44:=(BoxC.new e _ _).alloc _;have bq:=aI.out.below b1;have ad:=show Hid _ from b1
    have bh:Hid (BoxC ((e.alloc (.cells #[.int .i64 l,.slice B a.oL.length D,.slice z a.oH.length C,natV a.uL,natV a.uH,natV a.st] 44)).alloc (.cells #[.int .i64 aa,.int .i64 S,.int .i64 ab] 36)) e.heap.size #[.int .i64 l,.slice B a.oL.length D,.slice z a.oH.length C,natV a.uL,natV a.uH,natV a.st] 44):=bs;have bg:Hid (BoxC ((e.alloc (.cells #[.int .i64 l,.slice B a.oL.length D,.slice z a.oH.length C,natV a.uL,natV a.uH,natV a.st] 44)).alloc (.cells #[.int .i64 aa,.int .i64 S,.int .i64 ab] 36)) c.heap.size #[.int .i64 l,.slice g a.oL.length i,.slice f a.oH.length h,natV a.uL,natV a.uH,natV a.st] 44):=bq;clear b1 bs bq aI
    go_upto_region 13 with fail
    generalize ((e.alloc (.cells #[.int .i64 l,.slice B a.oL.length D,.slice z a.oH.length C,natV a.uL,natV a.uH,natV a.st] 44)).alloc (.cells #[.int .i64 aa,.int .i64 S,.int .i64 ab] 36))=M at *;clear aE aF cn co cp aG cj ck cm c7 c8;have cx:=show Hid _ from P.out.trans (ad.out.mono P.out.size)
    go_wp2_with (fail);refine(aP.out M cx.out).mono ?_;rintro s x ⟨R,V,Q,T,rfl,de,df,bK⟩;rw[aM.out];have b6:Below M.heap.size M (M.alloc (.cells #[.string knX] 9)):=bal _;have ax:Below M.heap.size M x:=b6.trans (bK.mono b6.size);have bf:=show Hid _ from ax
    have ay:Below x.heap.size x ((x.alloc (.cells #[.int .i64 L,.slice R 1 V,.slice Q d.oH.length T,natV d.uL,natV d.uH,natV d.st] 44)).alloc (.cells #[.int .i64 a7,.int .i64 a8,.int .i64 a9] 36)):=(bal _).alloc oC _;have bv:BoxC ((x.alloc (.cells #[.int .i64 L,.slice R 1 V,.slice Q d.oH.length T,natV d.uL,natV d.uH,natV d.st] 44)).alloc (.cells #[.int .i64 a7,.int .i64 a8,.int .i64 a9] 36)) x.heap.size #[.int .i64 L,.slice R 1 V,.slice Q d.oH.length T,natV d.uL,natV d.uH,natV d.st] 44:=(BoxC.new x _ _).alloc _;have a3:=(bg.out.below ax).below ay;have a5:=(bh.out.below ax).below ay;have aJ:Hid (BoxC ((x.alloc (.cells #[.int .i64 L,.slice R 1 V,.slice Q d.oH.length T,natV d.uL,natV d.uH,natV d.st] 44)).alloc (.cells #[.int .i64 a7,.int .i64 a8,.int .i64 a9] 36)) c.heap.size #[.int .i64 l,.slice g a.oL.length i,.slice f a.oH.length h,natV a.uL,natV a.uH,natV a.st] 44):=a3;have aK:Hid (BoxC ((x.alloc (.cells #[.int .i64 L,.slice R 1 V,.slice Q d.oH.length T,natV d.uL,natV d.uH,natV d.st] 44)).alloc (.cells #[.int .i64 a7,.int .i64 a8,.int .i64 a9] 36)) e.heap.size #[.int .i64 l,.slice B a.oL.length D,.slice z a.oH.length C,natV a.uL,natV a.uH,natV a.st] 44):=a5;have bi:Hid (BoxC ((x.alloc (.cells #[.int .i64 L,.slice R 1 V,.slice Q d.oH.length T,natV d.uL,natV d.uH,natV d.st] 44)).alloc (.cells #[.int .i64 a7,.int .i64 a8,.int .i64 a9] 36)) x.heap.size #[.int .i64 L,.slice R 1 V,.slice Q d.oH.length T,natV d.uL,natV d.uH,natV d.st] 44):=bv;have cv:=show Hid _ from ay
    clear de df bK b6 ax ay bv a3 a5 aP aM bg bh
    go_upto_region 14 with fail
    generalize ((x.alloc (.cells #[.int .i64 L,.slice R 1 V,.slice Q d.oH.length T,natV d.uL,natV d.uH,natV d.st] 44)).alloc (.cells #[.int .i64 a7,.int .i64 a8,.int .i64 a9] 36))=dm at *;have a3:=aJ.out;have a5:=aK.out;have bw:=bi.out;have dh:=mac.BoxC.cell bw 1 rfl;have aE:=mac.BoxC.cell a3 0 rfl;have aF:=mac.BoxC.cell a3 1 rfl;have aG:=mac.BoxC.cell a3 5 rfl;have dp:=mac.BoxC.cell a5 0 rfl;have dq:=mac.BoxC.cell a5 1 rfl;have dr:=mac.BoxC.cell a5 5 rfl;clear a3 a5 bw bi;have ap:=show Hid _ from ad.out.trans ((bf.out.trans (cv.out.mono bf.out.size)).mono ad.out.size)
    go_wp2_with (fail);refine(zrs a.oL _ _ dm (fD bm.out ap.out) (fD bn.out ap.out) (by have:=aQ.out.1;omega)).mono ?_;rintro s dn ⟨rfl,az⟩;have br:=mac.BoxC.below aJ.out az;have bu:=mac.BoxC.below aK.out az;have dl:=br.cell 2 rfl;have dk:=bu.cell 2 rfl;have aH:=show Hid _ from az
    clear br bu az dh aE aF aG dp dq dr;go_wp2_with (fail);have am:=ap.out.trans (aH.out.mono ap.out.size);refine(zrs a.oH _ _ dn (fD bo.out am) (fD bp.out am) (by have:=aQ.out.2;omega)).mono ?_;rintro s e8 ⟨rfl,aA⟩;have aS:=(mac.BoxC.below aJ.out aH.out).below aA;have aT:=(mac.BoxC.below aK.out aH.out).below aA;have e6:=aS.cell 3 rfl;have e7:=aS.cell 4 rfl;have e4:=aT.cell 3 rfl;have e5:=aT.cell 4 rfl;have cw:=show Hid _ from P.out.trans ((am.trans (aA.mono am.size)).mono P.out.size)
    clear am aA aS aT dl dk;go_wp2;go_ret;exact⟨rfl,cw.out⟩
end
end mdl
namespace ord
open Go.RowKit Go.ChangeShapes Go.WideShapes
open syn face chk
theorem open_strsS {H:Type} {enc:TypeId × Value->H} {W:World} {n:Nat} {v:Value} {x:DataW H × List MemPlace} (a:DataW.trod enc Tryz.prog W 0 (fun _=>true) true n 33 [v]=some x):∃q,zH W v q:=by
 rcases open_strings Tryz.underlying33 Tryz.underlying9 oB a with⟨b,_⟩|⟨i,len,j,c,b,_,s,l,p,_,e,_⟩
 ·simp only[jq,and_true]at b;exact⟨[],none,0,b,oC,fun a=>absurd rfl a⟩
 ·simp only[jq,and_true]at b;simp only[if_true]at p;have g:(c.take len).length=len:=oE;refine⟨c.take len,some i,j,by rw[g];exact b,by unfold maxLen at l;omega,fun m=>?_⟩
  have o:0<c.length:=by
   rcases Nat.eq_zero_or_pos c.length with a | a
   ·exact absurd (by simp[List.eq_nil_of_length_eq_zero a]) m
   ·exact a
  have d:=e 0 o;rw[Addr.add,jv rfl]at d;obtain⟨k,r,rfl⟩:=plain_addr d;refine⟨k,r,rfl,fun h hi=>?_⟩;have f:h<c.length:=by rw[g]at hi;omega
  have:=e h f;rw[add_plain]at this;rw[this];simp[f]
end ord
namespace mdl
open Go.ChangeShapes Go.WideShapes Go.ChangeAt Go.RowKit
open face
section
variable {H:Type} {enc:TypeId × Value->H} {W:World} {n:Nat}
theorem ybb:Tryz.prog.cellsOf 2=1:=oB
theorem open_intsL {v:Value} {x:DataW H × List MemPlace} (a:DataW.trod enc Tryz.prog W 0 (fun _=>true) true n 42 [v]=some x):∃m,IntsIn W v m:=by
 rcases open_ints Tryz.underlying42 Tryz.underlying2 ybb a with⟨b,_⟩|⟨g,len,h,f,b,_,p,q,k,_,e,_⟩
 ·simp only[jq,and_true]at b;exact⟨[],none,0,b,oC,fun a=>absurd rfl a⟩
 ·simp only[jq,and_true]at b;simp only[if_true]at k;have c:(f.take len).length=len:=oT;refine⟨f.take len,some g,h,by rw[c];exact b,by rw[c];have:=face.maxLen_le;omega,fun j=>?_⟩
  have r:0<len:=by
   rcases Nat.eq_zero_or_pos len with a | a
   ·subst a;simp at j
   ·exact a
  have d:=e 0 oA;rw[Addr.add,jv rfl]at d;obtain⟨i,o,rfl⟩:=face.plain_addr d;refine⟨i,o,rfl,fun l hi=>?_⟩;rw[c]at hi;have:=e l oA;rw[add_plain]at this;rw[this,List.getElem_take,List.getD_eq_getElem?_getD,List.getElem?_eq_getElem oA];rfl
end
theorem zwz:Tryz.prog.bytesOf 9=16:=oB
theorem zyj:reachBytes<=140737488355328:=oD
theorem strs_bound {H:Type} {enc:TypeId × Value->H} {W:World} {n:Nat} {v:Value} {x:DataW H × List MemPlace} {d:List ByteArray} (e:DataW.trod enc Tryz.prog W 0 (fun _=>true) true n 33 [v]=some x) (g:∀c∈x.1.weights Tryz.prog 33,c<=reachBytes) (f:zH W v d):d.length*16<=140737488355328:=by
 obtain⟨k,l,b,_⟩:=f;rcases Deep.open_slice Tryz.underlying33 e with⟨a,_⟩|⟨j,len,m,h,c,i,Pl,a,_,q,r,s,rfl,p⟩
 ·simp only[jq,and_true]at a;rw[a]at b;injection b with _ e2 _;omega
 ·simp only[jq,and_true]at a;have o:=g ((len+(h - len))*16) (by simp[DataW.weights,Tryz.underlying33,zwz]);rw[a]at b;injection b with _ e2 _;have:=zyj;omega
end mdl
end Go.Proofs.YtbjppepjmcfkaaaGreatDoor
