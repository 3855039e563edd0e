/- What is handed in, and the law ModelLonger: its walk for whatever is handed in. -/
import Derived.Test.YtbjppepjmcfkaaaGreatDoorNQr
import Derived.Test.YtbjppepjmcfkaaaGreatDoorNQ15
import Derived.Deep.Onto
set_option maxHeartbeats 4000000
set_option linter.unusedVariables false
set_option linter.unusedSimpArgs false
set_option maxRecDepth 100000
namespace Go.Proofs.YtbjppepjmcfkaaaGreatDoor
theorem zmo {a3:Prop} (ab:a3:=by
 have:=BoxC.new (w.alloc (.cells #[.int .i64 0,.slice none 0 0,.slice none 0 0,.int .i64 0,.int .i64 0,.int .i64 0] 44)) #[.int .i64 0,.int .i64 0,.int .i64 0] 36;rw[jO]at this
 exact this):a3:=ab
theorem oz16y173 {g:Prop} (E:g:=by
 have:=(f.rh.lt _ p).1;omega):g:=E
theorem zd0 {g:Prop} (E:g:=by
 have:=(f.rl.lt _ p).1;omega):g:=E
theorem zdz {g:Prop} (E:g:=by
 rw[s];exact(f.stc.box b1 aW).other oA _):g:=E
theorem zmr {g:Prop} (E:g:=by
 rw[s];exact(f.stc.box j aV).other oA _):g:=E
theorem zmq {g:Prop} (E:g:=by
 show Value.int .i64 ((fuel.toNat:Nat):Int)=_;rw[Int.toNat_of_nonneg ae.1]):g:=E
theorem zmm {g:Prop} (E:g:=by
 have da:=L.cell 2 (v:=intV V) (by simp[yO]);have db:=L.cell 3 (v:=.slice la h.oL.length lc) (by simp[yO]);have dc:=L.cell 4 (v:=.slice ha h.oH.length hc) (by simp[yO]);have dd:=L.cell 5 (v:=natV h.uL) (by simp[yO]);have de:=L.cell 6 (v:=natV h.uH) (by simp[yO]);have df:=L.cell 7 (v:=natV h.st) (by simp[yO]);have cH:=K.cell 0 rfl;have cL:=K.cell 1 rfl;have cR:=K.cell 2 rfl;have d0:=K.cell 3 rfl;have d1:=K.cell 4 rfl;have d2:=K.cell 5 rfl;have d3:=a2.cell 0 rfl;have d4:=a2.cell 1 rfl;have d5:=a2.cell 2 rfl;have dh:=K.fz;have d6:=a2.fz;have cf:w.heap.size<x.heap.size:=K.lt;have cg:w.heap.size+1<x.heap.size:=a2.lt;clear f ab L s aE aV aW ag af j b1 t T;go_wp2;refine jT (zh4 _ (zri (zrs K _ _ _ _ _ _) oA _ _ _) (zrr (zrj a2 oA _ _ _ _ _ _) _ _ _)) rfl ?_
 exact⟨.slice la h.oL.length lc,.slice ha h.oH.length hc,rfl,zrp (zrq bq aR.1 _ _ _ _ _ _) aR.2 _ _ _,zrp (zrq bp aP.1 _ _ _ _ _ _) aP.2 _ _ _,below3 (below6 bb (jE _) _ _ _ _ _ _) (Nat.le_succ _) _ _ _⟩):g:=E
theorem zml {r:Prop} (h:r:=by
 go_enter Tryz.func5,Tryz.ntmps5;go_wp2_with (fail);refine(R.out w (Below.refl _ _)).mono ?_;rintro q a ⟨d,g,c,f,rfl,G,jA,k⟩;have u:=show Hid (IntsIn a (.slice d sA.oL.length g) sA.oL)from G
 have v:=show Hid (IntsIn a (.slice c sA.oH.length f) sA.oH)from jA
 have E:=k.size;have e:BoxC ((a.alloc (.cells #[.int .i64 kA,.slice d sA.oL.length g,.slice c sA.oH.length f,natV sA.uL,natV sA.uH,natV sA.st] 44)).alloc (.cells #[.int .i64 a1,.int .i64 a2,.int .i64 a3] 36)) a.heap.size #[.int .i64 kA,.slice d sA.oL.length g,.slice c sA.oH.length f,natV sA.uL,natV sA.uH,natV sA.st] 44:=(BoxC.new a _ _).alloc _
 have j:BoxC ((a.alloc (.cells #[.int .i64 kA,.slice d sA.oL.length g,.slice c sA.oH.length f,natV sA.uL,natV sA.uH,natV sA.st] 44)).alloc (.cells #[.int .i64 a1,.int .i64 a2,.int .i64 a3] 36)) (a.heap.size+1) #[.int .i64 a1,.int .i64 a2,.int .i64 a3] 36:=by
  exact zmn
 have l:Below a.heap.size a ((a.alloc (.cells #[.int .i64 kA,.slice d sA.oL.length g,.slice c sA.oH.length f,natV sA.uL,natV sA.uH,natV sA.st] 44)).alloc (.cells #[.int .i64 a1,.int .i64 a2,.int .i64 a3] 36)):=(bal _).alloc oC _;have V:((a.alloc (.cells #[.int .i64 kA,.slice d sA.oL.length g,.slice c sA.oH.length f,natV sA.uL,natV sA.uH,natV sA.st] 44)).alloc (.cells #[.int .i64 a1,.int .i64 a2,.int .i64 a3] 36)).heap.size=a.heap.size+2:=oC;clear G jA;go_wp2_with (fail);generalize (a.alloc (.cells #[.int .i64 kA,.slice d sA.oL.length g,.slice c sA.oH.length f,natV sA.uL,natV sA.uH,natV sA.st] 44)).alloc (.cells #[.int .i64 a1,.int .i64 a2,.int .i64 a3] 36)=a6 at *;refine(S.out a6 (k.trans (l.mono E))).mono ?_;rintro q b ⟨n,p,m,o,rfl,K,jB,i⟩;have ad:=show Hid (IntsIn b (.slice n sB.oL.length p) sB.oL)from K
 have af:=show Hid (IntsIn b (.slice m sB.oH.length o) sB.oH)from jB
 have ac:=show Hid (IntsIn b (.slice d sA.oL.length g) sA.oL)from xV u.out (l.trans (i.mono oA))
 have ae:=show Hid (IntsIn b (.slice c sA.oH.length f) sA.oH)from xV v.out (l.trans (i.mono oA))
 have aR:=i.size;have y:Below w.heap.size w b:=(k.trans (l.mono E)).trans (i.mono oA);replace e:=e.below i;replace j:=j.below i;have a7:=e.cell 0 rfl;have aA:=e.cell 1 rfl;have a8:=e.cell 2 rfl;have a9:=e.cell 3 rfl;have aa:=e.cell 4 rfl;have aB:=e.cell 5 rfl;have ax:=j.cell 0 rfl;have ay:=j.cell 1 rfl;have az:=j.cell 2 rfl;have aN:a.heap.size<b.heap.size:=oA;have aO:a.heap.size+1<b.heap.size:=oA;have s:=show Hid _ from y
 have aJ:=kc44;have aI:=kc36;have Q:Hid (BoxC b a.heap.size #[.int .i64 kA,.slice d sA.oL.length g,.slice c sA.oH.length f,natV sA.uL,natV sA.uH,natV sA.st] 44):=e;clear K jB e j u v i k l V y;go_wp2;go_ret
 exact⟨rfl,(s.out.alloc s.out.size _).alloc (by have:=s.out.size;simp;omega) _⟩):r:=h
theorem zmn {r:Prop} (h:r:=by
 have:=BoxC.new (a.alloc (.cells #[.int .i64 kA,.slice d sA.oL.length g,.slice c sA.oH.length f,natV sA.uL,natV sA.uH,natV sA.st] 44)) #[.int .i64 a1,.int .i64 a2,.int .i64 a3] 36;rw[jO]at this
 exact this):r:=h
theorem oz16x168 {r:Prop} (h:r:=by
 rcases aP with rfl|⟨rfl,aL⟩|⟨rfl,aL,aX⟩
 ·skip;exact zml
 ·skip;exact zml
 ·skip
  exact zml):r:=h
namespace mdl
open Go.RowKit Go.Maps Go.WideMaps
open syn face mac
open chk hiding BoxC BoxC.new BoxC.below BoxC.lt BoxC.cell BoxC.fz BoxC.set
open ord (tkd gU strs_below OrE zet orderF)
def vN:Nat:=1000000
def xI (xs:List ByteArray) (iL iH:List Int) (fuel:Int):Cx:=⟨psF (kQ (xs.map mdM)),iL,iH,fuel.toNat⟩
def noR:Int × RS:=(0,rs0 (fun _=>[]))
def zR (xs:List ByteArray) (iL iH:List Int) (fuel:Int):(Int × RS) × ord.Tr :=
 if qV iL.length iH.length fuel 1000≠0 then(noR,(0,qV iL.length iH.length fuel 1000,0))else
 match orderF xs with
 | some t=>(noR,t)
 | none=>(xR (clM (xI xs iL iH fuel) vN 0 yB [] (rs0 (vsF (kQ (xs.map mdM))))),(0,0,0))
def fV (w:World) (R:(Int × RS) × ord.Tr) (e:Ending) (w':World):Prop :=
 ∃a hi,e=.returned (.tuple #[.agg #[intV R.1.1,a,hi,natV R.1.2.uL,natV R.1.2.uH,natV R.1.2.st],.agg #[.int .i64 R.2.1,.int .i64 R.2.2.1,.int .i64 R.2.2.2]])/\w'.ownsRow w.heap.size 2 1 a R.1.2.oL.length (R.1.2.oL.map intV)/\w'.ownsRow w.heap.size 2 1 hi R.1.2.oH.length (R.1.2.oH.map intV)/\Below w.heap.size w w'
variable {a b:Nat}
theorem fV.bad {w b:World} (a:ord.Tr) (c:Below w.heap.size w b):fV w (noR,a) (.returned (.tuple #[.agg #[.int .i64 0,.slice none 0 0,.slice none 0 0,.int .i64 0,.int .i64 0,.int .i64 0],.agg #[.int .i64 a.1,.int .i64 a.2.1,.int .i64 a.2.2]])) b :=
 ⟨.slice none 0 0,.slice none 0 0,rfl,World.ownsRow_nil _ _ _ _,World.ownsRow_nil _ _ _ _,c⟩
theorem zh4 {W:World} {n o:TypeId} {e f g h i j k l m p a1 a2 a3 q r s t:Value} (x:List Value) (c:BoxC W a #[e,f,g,h,i,j] n) (d:BoxC W b #[k,l,m] o) : (results Tryz.f12 (List.toArray (p :: a1 :: a2 :: a3 :: q :: r :: s :: t :: .pointer (some ⟨a,0,none⟩) :: .pointer (some ⟨b,0,none⟩) :: x))).run Tryz.prog W=.ok (.tuple #[.agg #[e,f,g,h,i,j],.agg #[k,l,m]]) W:=by
 have G:=kc44;have K:=kc36;have y:=c.cell 0 rfl;have z:=c.cell 1 rfl;have B:=c.cell 2 rfl;have C:=c.cell 3 rfl;have D:=c.cell 4 rfl;have E:=c.cell 5 rfl;have u:=d.cell 0 rfl;have v:=d.cell 1 rfl;have w:=d.cell 2 rfl;simp[results,Tryz.f12,go_sem,y,z,B,C,D,E,u,v,w]
theorem zrs {W:World} {h:TypeId} {j k l m n o:Value} (i:BoxC W a #[j,k,l,m,n,o] h) (b c d e f g:Value) : BoxC ((((((W.setCell ⟨a,0,none⟩ b).setCell ⟨a,1,none⟩ c).setCell ⟨a,2,none⟩ d).setCell ⟨a,3,none⟩ e).setCell ⟨a,4,none⟩ f).setCell ⟨a,5,none⟩ g) a #[b,c,d,e,f,g] h:=by
 have:=(((((i.set 0 b).set 1 c).set 2 d).set 3 e).set 4 f).set 5 g;simpa only[List.setIfInBounds_toArray,List.set_cons_zero,List.set_cons_succ] using this
theorem zrr {W:World} {e:TypeId} {g h i:Value} (f:BoxC W a #[g,h,i] e) (b c d:Value) : BoxC (((W.setCell ⟨a,0,none⟩ b).setCell ⟨a,1,none⟩ c).setCell ⟨a,2,none⟩ d) a #[b,c,d] e:=by
 have:=((f.set 0 b).set 1 c).set 2 d;simpa only[List.setIfInBounds_toArray,List.set_cons_zero,List.set_cons_succ] using this
theorem zrj {W:World} {d:TypeId} {e:Array Value} (l:BoxC W b e d) (c:b≠a) (f g h i j k:Value) : BoxC ((((((W.setCell ⟨a,0,none⟩ f).setCell ⟨a,1,none⟩ g).setCell ⟨a,2,none⟩ h).setCell ⟨a,3,none⟩ i).setCell ⟨a,4,none⟩ j).setCell ⟨a,5,none⟩ k) b e d :=
 (((((l.other c f).other c g).other c h).other c i).other c j).other c k
theorem zri {W:World} {d:TypeId} {e:Array Value} (i:BoxC W b e d) (c:b≠a) (f g h:Value) : BoxC (((W.setCell ⟨a,0,none⟩ f).setCell ⟨a,1,none⟩ g).setCell ⟨a,2,none⟩ h) b e d:=((i.other c f).other c g).other c h
theorem below6 {w W:World} (d:Below a w W) (c:a<=b) (e f g h i j:Value) : Below a w ((((((W.setCell ⟨b,0,none⟩ e).setCell ⟨b,1,none⟩ f).setCell ⟨b,2,none⟩ g).setCell ⟨b,3,none⟩ h).setCell ⟨b,4,none⟩ i).setCell ⟨b,5,none⟩ j) :=
 (((((d.setCell c _).setCell c _).setCell c _).setCell c _).setCell c _).setCell c _
theorem below3 {w W:World} (d:Below a w W) (c:a<=b) (e f g:Value) : Below a w (((W.setCell ⟨b,0,none⟩ e).setCell ⟨b,1,none⟩ f).setCell ⟨b,2,none⟩ g):=((d.setCell c _).setCell c _).setCell c _
section
variable {w:World} {xs:List ByteArray} {iL iH:List Int} {fuel:Int}
theorem zzy (k l:Option Addr) (n m:Nat) (tv:Value) (o:Int) (x:qV iL.length iH.length fuel 1000=o) (L:o≠0) : Calls Tryz.prog 12 #[tv,.slice k iL.length n,.slice l iH.length m,.int .i64 fuel] w (fV w (noR,(0,o,0))):=by
 have ah:(o != 0)=true:=by simpa using L
 have a8:=kc44;have aa:=kc36;have a9:=kc71;have e:=fun W=>zif k l iL.length iH.length n m fuel 1000 W
 unfold dV at e;rw[x,ju L]at e;unfold bK bZ at e;have r:=show Hid _ from e
 clear e;go_enter Tryz.func12,Tryz.ntmps12
 go_upto_region 1 with fail
 have a:BoxC ((w.alloc (.cells #[.int .i64 0,.slice none 0 0,.slice none 0 0,.int .i64 0,.int .i64 0,.int .i64 0] 44)).alloc (.cells #[.int .i64 0,.int .i64 0,.int .i64 0] 36)) w.heap.size #[.int .i64 0,.slice none 0 0,.slice none 0 0,.int .i64 0,.int .i64 0,.int .i64 0] 44:=(BoxC.new w _ _).alloc _
 have b1:BoxC ((w.alloc (.cells #[.int .i64 0,.slice none 0 0,.slice none 0 0,.int .i64 0,.int .i64 0,.int .i64 0] 44)).alloc (.cells #[.int .i64 0,.int .i64 0,.int .i64 0] 36)) (w.heap.size+1) #[.int .i64 0,.int .i64 0,.int .i64 0] 36:=by
  exact zmo
 have g:Below w.heap.size w ((w.alloc (.cells #[.int .i64 0,.slice none 0 0,.slice none 0 0,.int .i64 0,.int .i64 0,.int .i64 0] 44)).alloc (.cells #[.int .i64 0,.int .i64 0,.int .i64 0] 36)):=(bal _).alloc oC _;have ac:((w.alloc (.cells #[.int .i64 0,.slice none 0 0,.slice none 0 0,.int .i64 0,.int .i64 0,.int .i64 0] 44)).alloc (.cells #[.int .i64 0,.int .i64 0,.int .i64 0] 36)).heap.size=w.heap.size+2:=oC;generalize (w.alloc (.cells #[.int .i64 0,.slice none 0 0,.slice none 0 0,.int .i64 0,.int .i64 0,.int .i64 0] 44)).alloc (.cells #[.int .i64 0,.int .i64 0,.int .i64 0] 36)=P at *;go_wp2_with (fail);refine(r.out P).mono ?_;rintro R p ⟨rfl,f⟩;clear r;replace a:=a.below f;replace b1:=b1.below f;have ad:=f.size;replace g:=g.trans (f.mono oA);clear f;clear x L;have az:=a.cell 0 rfl;have aA:=a.cell 1 rfl;have aB:=a.cell 2 rfl;have aC:=a.cell 3 rfl;have aD:=a.cell 4 rfl;have aE:=a.cell 5 rfl;have av:=b1.cell 0 rfl;have aw:=b1.cell 1 rfl;have ax:=b1.cell 2 rfl;have aF:=a.fz;have ay:=b1.fz;have ai:w.heap.size<p.heap.size:=oA;have aj:w.heap.size+1<p.heap.size:=oA;go_wp2;refine jT (v:=.tuple #[.agg #[.int .i64 0,.slice none 0 0,.slice none 0 0,.int .i64 0,.int .i64 0,.int .i64 0],.agg #[.int .i64 0,.int .i64 o,.int .i64 0]]) (zh4 _ ((zri (zrs a _ _ _ _ _ _) oA _ _ _).alloc _) ((zrr (zrj b1 oA _ _ _ _ _ _) _ _ _).alloc _)) rfl ?_;exact fV.bad (0,o,0) ((below3 (below6 g (jE _) _ _ _ _ _ _) (Nat.le_succ _) _ _ _).alloc (by have:=g.size;simpa using this) _)
theorem zd3 {i:Program} {j:Array Oper} {b:Oper} {a:Act} {w:World} {h:Act->World->Prop} {m:Exit->Act->World->Prop} {l:Prop} (q:b.guard=none) (e:TypeId) (f g:Operand) (r:b.op=.store e f g) (c:Nat) (cells:Array Value) (u:a.eval f=.pointer (some ⟨c,0,none⟩)) (v:a.eval g=.agg cells) (k:TypeId) (d:Array Value) (p:w.heap[c]?=some (.cells d k (0,0))) (hi:(i.info? e).map (·.size)=some cells.size) (s:d.size=cells.size) (o:cells.all (·.oneCell')=true) (n:h (a.put b.dst undef) (w.setRow c cells)) : if Region.wanted b (yielded j a.tmps)=true then Oper.wp i b a w h m else l:=by
 have t:Region.wanted b (yielded j a.tmps)=true:=by simp[Region.wanted,q]
 rw[jv t];exact wp_store_row e f g r c cells u v k d p hi s o n
theorem zzz (k l:Option Addr) (n m:Nat) (tv:Value) (x:qV iL.length iH.length fuel 1000=0) (V:HasAll w) (a2:zS w tv xs) (N:ord.Tr) (M:orderF xs=some N) : Calls Tryz.prog 12 #[tv,.slice k iL.length n,.slice l iH.length m,.int .i64 fuel] w (fV w (noR,N)):=by
 have a5:=show Hid _ from V
 have a7:=show Hid _ from a2
 have hc:=ord.order_code M;have a6:=show Hid _ from M
 obtain⟨c,b,d⟩:=N;have ag:(b != 0)=true:=by simpa using hc
 clear V a2 M hc;have a8:=kc44;have aa:=kc36;have a9:=kc71;have e:=fun W=>zif k l iL.length iH.length n m fuel 1000 W
 unfold dV at e;rw[x,jv rfl]at e;unfold bZ at e;have r:=show Hid _ from e
 clear e;go_enter Tryz.func12,Tryz.ntmps12
 go_upto_region 1 with fail
 have a:BoxC ((w.alloc (.cells #[.int .i64 0,.slice none 0 0,.slice none 0 0,.int .i64 0,.int .i64 0,.int .i64 0] 44)).alloc (.cells #[.int .i64 0,.int .i64 0,.int .i64 0] 36)) w.heap.size #[.int .i64 0,.slice none 0 0,.slice none 0 0,.int .i64 0,.int .i64 0,.int .i64 0] 44:=(BoxC.new w _ _).alloc _
 have b1:BoxC ((w.alloc (.cells #[.int .i64 0,.slice none 0 0,.slice none 0 0,.int .i64 0,.int .i64 0,.int .i64 0] 44)).alloc (.cells #[.int .i64 0,.int .i64 0,.int .i64 0] 36)) (w.heap.size+1) #[.int .i64 0,.int .i64 0,.int .i64 0] 36:=by
  exact zmo
 have g:Below w.heap.size w ((w.alloc (.cells #[.int .i64 0,.slice none 0 0,.slice none 0 0,.int .i64 0,.int .i64 0,.int .i64 0] 44)).alloc (.cells #[.int .i64 0,.int .i64 0,.int .i64 0] 36)):=(bal _).alloc oC _;have ac:((w.alloc (.cells #[.int .i64 0,.slice none 0 0,.slice none 0 0,.int .i64 0,.int .i64 0,.int .i64 0] 44)).alloc (.cells #[.int .i64 0,.int .i64 0,.int .i64 0] 36)).heap.size=w.heap.size+2:=oC;generalize (w.alloc (.cells #[.int .i64 0,.slice none 0 0,.slice none 0 0,.int .i64 0,.int .i64 0,.int .i64 0] 44)).alloc (.cells #[.int .i64 0,.int .i64 0,.int .i64 0] 36)=P at *;go_wp2_with (fail);refine(r.out P).mono ?_;rintro R p ⟨rfl,f⟩;clear r;replace a:=a.below f;replace b1:=b1.below f;have ad:=f.size;replace g:=g.trans (f.mono oA);clear f;clear x;have t:=(Below.refl p.heap.size p).alloc (jE _) (.cells #[.int .i64 0,.slice none 0 0,.slice none 0 0,.int .i64 0,.int .i64 0,.int .i64 0,.slice k iL.length n,.slice l iH.length m,.int .i64 fuel] 71);replace a:=a.below t;replace b1:=b1.below t;have B:=g.trans (t.mono oA);clear g;have K:=zet _ (hasAll_below a5.out B) xs tv (strs_below a7.out B);rw[a6.out]at K;go_wp2_with (fail);refine K.mono ?_;clear K;rintro R q ⟨u,rfl⟩;have am:=t.size;have an:=u.size;replace a:=a.below u;replace b1:=b1.below u;have T:=B.trans (u.mono oA);clear B u t;generalize p.alloc (.cells #[.int .i64 0,.slice none 0 0,.slice none 0 0,.int .i64 0,.int .i64 0,.int .i64 0,.slice k iL.length n,.slice l iH.length m,.int .i64 fuel] 71)=au at *;have D:=(Below.refl q.heap.size q).alloc (jE _) (.cells #[.int .i64 c,.int .i64 b,.int .i64 d] 36);have Q:=BoxC.new q #[.int .i64 c,.int .i64 b,.int .i64 d] 36;replace a:=a.below D;replace b1:=b1.below D;have h:=T.trans (D.mono oA);clear D T;go_wp2_with (fail);have ak:w.heap.size+2<=q.heap.size:=oA;generalize q.alloc (.cells #[.int .i64 c,.int .i64 b,.int .i64 d] 36)=W at *;generalize q.heap.size=E at *;refine wp_region_held_drew (S:=fun W=>BoxC W E #[.int .i64 c,.int .i64 b,.int .i64 d] 36) oB (Q.below (Below.refl _ _).drew) (fun j=>?_);replace a:=a.below (Below.refl _ _).drew;replace b1:=b1.below (Below.refl _ _).drew;replace h:=h.drew;generalize W.drew=y at *;clear Q;refine tkS (i:=0) (v:=.agg #[.int .i64 0,.slice none 0 0,.slice none 0 0,.int .i64 0,.int .i64 0,.int .i64 0] ) rfl rfl (Or.inl ⟨oG,fun ae C=>oF⟩) j ?_;simp only[jA,jB,jC];refine tkS (i:=1) (v:=.agg #[.int .i64 c,.int .i64 b,.int .i64 d] ) rfl rfl (Or.inl ⟨oG,fun ae C=>by have ao:=C.cell 0 rfl;have ap:=C.cell 1 rfl;have ar:=C.cell 2 rfl;go_simp⟩) j ?_;simp only[jA,jB,jC];refine oneH 2 fun G s=>?_
 refine zd3 oG 44 (.tmp 8) (.tmp 35) oG w.heap.size #[.int .i64 0,.slice none 0 0,.slice none 0 0,.int .i64 0,.int .i64 0,.int .i64 0] oG oG 44 _ a oB oG oB ?_;replace b1:BoxC (y.setRow w.heap.size #[.int .i64 0,.slice none 0 0,.slice none 0 0,.int .i64 0,.int .i64 0,.int .i64 0]) (w.heap.size+1) #[.int .i64 0,.int .i64 0,.int .i64 0] 36:=(setRow_other _ _ _ _ oA).trans b1;replace h:=zbr (cs:=#[.int .i64 0,.slice none 0 0,.slice none 0 0,.int .i64 0,.int .i64 0,.int .i64 0]) h (jE _) h.size;replace j:BoxC (y.setRow w.heap.size #[.int .i64 0,.slice none 0 0,.slice none 0 0,.int .i64 0,.int .i64 0,.int .i64 0]) E #[.int .i64 c,.int .i64 b,.int .i64 d] 36:=(setRow_other _ _ _ _ oA).trans j;replace a:BoxC (y.setRow w.heap.size #[.int .i64 0,.slice none 0 0,.slice none 0 0,.int .i64 0,.int .i64 0,.int .i64 0]) w.heap.size #[.int .i64 0,.slice none 0 0,.slice none 0 0,.int .i64 0,.int .i64 0,.int .i64 0] 44:=setRow_heap _ _ _ _ _ _ a;refine s.out _ _ j (fun _=>?_);clear s G;generalize y.setRow w.heap.size #[.int .i64 0,.slice none 0 0,.slice none 0 0,.int .i64 0,.int .i64 0,.int .i64 0]=z at *;refine oneH 3 fun G s=>?_
 refine zd3 oG 36 (.tmp 9) (.tmp 36) oG (w.heap.size+1) #[.int .i64 c,.int .i64 b,.int .i64 d] oG oG 36 _ b1 oB oG oB ?_;replace a:BoxC (z.setRow (w.heap.size+1) #[.int .i64 c,.int .i64 b,.int .i64 d]) w.heap.size #[.int .i64 0,.slice none 0 0,.slice none 0 0,.int .i64 0,.int .i64 0,.int .i64 0] 44:=(setRow_other _ _ _ _ oA).trans a;replace h:=zbr (cs:=#[.int .i64 c,.int .i64 b,.int .i64 d]) h (Nat.le_succ w.heap.size) h.size;replace j:BoxC (z.setRow (w.heap.size+1) #[.int .i64 c,.int .i64 b,.int .i64 d]) E #[.int .i64 c,.int .i64 b,.int .i64 d] 36:=(setRow_other _ _ _ _ oA).trans j;replace b1:BoxC (z.setRow (w.heap.size+1) #[.int .i64 c,.int .i64 b,.int .i64 d]) (w.heap.size+1) #[.int .i64 c,.int .i64 b,.int .i64 d] 36:=setRow_heap _ _ _ _ _ _ b1;refine s.out _ _ j (fun _=>?_);clear s G;generalize z.setRow (w.heap.size+1) #[.int .i64 c,.int .i64 b,.int .i64 d]=af at *;refine wpAnyH_done oB ?_ _;go_wp2;refine jT (zh4 _ a b1) rfl ?_;exact fV.bad (c,b,d) h
end
end mdl
namespace mdl
open Go.RowKit Go.Maps Go.WideMaps
open syn face mac
open chk hiding BoxC BoxC.new BoxC.below BoxC.lt BoxC.cell BoxC.fz BoxC.set
def cxL (L:List (ByteArray × Kid)) (iL iH:List Int) (F:Nat):Cx:=⟨psF L,iL,iH,F⟩
theorem zkr {i a5 o n a3 a2 g F:Nat} {x M:ByteArray->Option Value} {y:List (ByteArray × Kid)} {w W b:World} {G ih:Value} {iL iH:List Int} (e:Dcl i a5 o n x M a3 a2 y W) (ak:W.heap.size<=b.heap.size) (B:∀a,i<=a->a<W.heap.size->b.heap[a]?=W.heap[a]?) (ai:g<i\/W.heap.size<=g) (a8:g<b.heap.size) (a9:BoxC b g #[.map (some o),.map (some n),.int .i64 0,.slice none 0 0,.slice none 0 0,.int .i64 0,.int .i64 0,.int .i64 0,G,ih,natV F,.int .i64 0] 80) (ad:IntsIn w G iL) (ac:IntsIn w ih iH) (aa:Below w.heap.size w b) (ah:w.heap.size<=i) (aj:w.heap.size<=g) (a7:F<=1000) (ag:iL.length<=1000) (af:iH.length<=1000) : ∃c:Pl,c.R=g/\c.D=b.heap.size/\(∀h,h<i->h≠g->Stc c h)/\Gv c (cxL y iL iH F) b/\Beg c (cxL y iL iH F) (vsF y) b:=by
 have C:∀a,i<=a->a<W.heap.size->a≠g:=fun a j k=>oA
 have E:=e.ne;have R:=e.hV.lt;have Q:=e.hP.lt;obtain⟨c,hp⟩:∃c:Pl,c=⟨g,b.heap.size,a8,o,n,a3,a2,G,ih,x,M⟩:=⟨_,rfl⟩
 have L:∀a,Mut c a->a<W.heap.size/\i<=a/\a≠o/\a≠n:=fun a ⟨f,v,j,k⟩=>by
  rw[hp]at j;have d:=e.wd f;rw[show x f=some v from j]at d;unfold WdQ at d;obtain⟨b2,p,t,q,P⟩:=d;rw[p]at k;have r:b2=a:=by injection k
  subst r;exact⟨q.lt,t.1,t.2.2⟩
 have T:∀h,h<i->h≠g->Stc c h:=fun h j k=>⟨by rw[hp];show h<b.heap.size;have:=e.ne.1;have:=e.bx.lt;omega,by rw[hp];exact k,fun l=>by have:=(L h l).2.1;omega⟩
 have z:∀v K,IntsIn w v K->zcq c b v K:=fun v K ⟨N,a6,p,_,hc⟩=>⟨N,a6,p,fun S=>by
  obtain⟨s,u,r,d⟩:=hc S;have ae:0<K.length:=List.length_pos_iff.2 S;have ab:s<w.heap.size:=jR w ⟨s,u+0,none⟩ (d 0 ae)
  exact⟨s,u,r,T s oA oA,fun V hi=>(aa.cell (p:=⟨s,u+V,none⟩) ab).trans (d V hi)⟩⟩
 refine⟨c,by rw[hp],by rw[hp],T,?_,?_⟩
 ·refine⟨?_,?_,?_,?_,?_,?_,ag,af,fun f=>?_,a7⟩;·rw[hp];exact kI.same e.hV (B o E.2.1 R)
  ·exact⟨by rw[hp];show o<b.heap.size;omega,by rw[hp];exact C o E.2.1 R,fun l=>(L _ l).2.2.1 (by rw[hp])⟩
  ·rw[hp];exact kI.same e.hP (B n E.2.2.1 Q)
  ·exact⟨by rw[hp];show n<b.heap.size;omega,by rw[hp];exact C n E.2.2.1 Q,fun l=>(L _ l).2.2.2 (by rw[hp])⟩
  ·rw[hp];rw[hp]at z;exact z G iL ad
  ·rw[hp];rw[hp]at z;exact z ih iH ac
  ·rw[show c.pf=M by rw[hp]];exact(e.pr f).to (fun a m=>⟨by rw[hp];show a<b.heap.size;have:=m.2.1;omega,by rw[hp];exact C a m.1 m.2.1,fun l=>m.2.2.2.2.2 (by obtain⟨f,v,j,k⟩:=l;rw[hp]at j;exact⟨f,v,j,k⟩)⟩) (fun a m u=>jM (a:=⟨a,u,none⟩) (B a m.1 m.2.1))
 ·refine⟨by rw[hp],?_,fun f=>?_,?_⟩;·rw[hp];exact a9
  ·have d:=e.wd f;unfold WdQ at d;unfold vW;rw[show c.vf f=x f by rw[hp]]
   cases p:x f with
   | none=>rw[p]at d;exact d
   | some v =>
    rw[p]at d;obtain⟨a,r,t,q,P⟩:=d;exact⟨a,r,⟨by rw[hp];show a<b.heap.size;have:=q.lt;omega,by rw[hp];exact C a t.1 q.lt⟩,(B a t.1 q.lt).trans q,P⟩
  ·rw[hp];exact e.one
end mdl
namespace mdl
open Go.RowKit Go.Maps Go.WideMaps
open syn face mac
open chk hiding BoxC BoxC.new BoxC.below BoxC.lt BoxC.cell BoxC.fz BoxC.set
open ord (tkd gU strs_below OrE zet orderF)
section
variable {w:World} {xs:List ByteArray} {iL iH:List Int} {fuel:Int}
theorem zep (a:orderF xs=none) (c:fuel.toNat<=1000):clM (xI xs iL iH fuel) vN 0 yB [] (rs0 (vsF (kQ (xs.map mdM))))≠.lost:=by
 have b:=zzo (zrd a) iL iH fuel.toNat
 refine(snd (xI xs iL iH fuel) b vN).cl 0 yB [] _ ?_ (jz _) oA ?_;·show(psF (kQ (xs.map mdM)) yB).pars.length<=0;rw[zu6 a];exact jE _
 ·unfold qP vN;show(((fuel.toNat - 0:Nat):Int))+(30 - ((0:Nat):Int))*3000+1<=_;omega
theorem zrq {W:World} {c a n:Nat} {d:TypeId} {v:Value} {xs:List Value} (k:W.ownsRow c d 1 v n xs) (b:v.ownBlock≠some a) (e f g h i j:Value) : ((((((W.setCell ⟨a,0,none⟩ e).setCell ⟨a,1,none⟩ f).setCell ⟨a,2,none⟩ g).setCell ⟨a,3,none⟩ h).setCell ⟨a,4,none⟩ i).setCell ⟨a,5,none⟩ j).ownsRow c d 1 v n xs :=
 (((((k.kept (zZ _ a 0 e) (.inr b)).kept (zZ _ a 1 f) (.inr b)).kept (zZ _ a 2 g) (.inr b)).kept (zZ _ a 3 h) (.inr b)).kept (zZ _ a 4 i) (.inr b)).kept (zZ _ a 5 j) (.inr b)
theorem zrp {W:World} {c a n:Nat} {d:TypeId} {v:Value} {xs:List Value} (h:W.ownsRow c d 1 v n xs) (b:v.ownBlock≠some a) (e f g:Value) : (((W.setCell ⟨a,0,none⟩ e).setCell ⟨a,1,none⟩ f).setCell ⟨a,2,none⟩ g).ownsRow c d 1 v n xs :=
 ((h.kept (zZ _ a 0 e) (.inr b)).kept (zZ _ a 1 f) (.inr b)).kept (zZ _ a 2 g) (.inr b)
theorem ybg (b c:Option Addr) (e d:Nat) (tv:Value) (a6:qV iL.length iH.length fuel 1000=0) (bc:HasAll w) (bf:zS w tv xs) (bj:IntsIn w (.slice b iL.length e) iL) (bi:IntsIn w (.slice c iH.length d) iH) (aI:orderF xs=none) : Calls Tryz.prog 12 #[tv,.slice b iL.length e,.slice c iH.length d,.int .i64 fuel] w (fV w (xR (clM (xI xs iL iH fuel) vN 0 yB [] (rs0 (vsF (kQ (xs.map mdM))))),(0,0,0))):=by
 obtain⟨aF,aL⟩:∃aF,aF=xR (clM (xI xs iL iH fuel) vN 0 yB [] (rs0 (vsF (kQ (xs.map mdM))))):=⟨_,rfl⟩
 rw[<- aL];have aC:=show Hid _ from aL
 clear aL;have aZ:=show Hid _ from bc
 have b8:=show Hid _ from bf
 have bs:=show Hid _ from aI
 have b2:=show Hid (IntsIn w (.slice b iL.length e) iL)from bj
 have b0:=show Hid (IntsIn w (.slice c iH.length d) iH)from bi
 have bh:0<=fuel/\fuel<=1000/\iL.length<=1000/\iH.length<=1000:=by
  unfold qV at a6;split at a6;·cases a6
  split at a6;·cases a6
  omega
 have aY:=show Hid _ from bh
 have bm:=zep (iL:=iL) (iH:=iH) (fuel:=fuel) aI oA;have b6:=show Hid _ from bm
 have aK:=zh1 aI;have bn:∀aB∈xs,RdOk aB:=fun aB bG=>(zid (aK.ri.ec aB bG)).rd
 have bu:=show Hid (∀aB∈xs,RdOk aB)from bn
 have bv:=show Hid _ from aK.ri.top
 clear bc bf aI bj bi bm aK bn bh;have c6:=kc44;have c8:=kc36;have c7:=kc71;have ao:=fun W=>zif b c iL.length iH.length e d fuel 1000 W
 unfold dV at ao;rw[a6,jv rfl]at ao;unfold bZ at ao;have b7:=show Hid _ from ao
 clear ao;go_enter Tryz.func12,Tryz.ntmps12
 go_upto_region 1 with fail
 have j:BoxC ((w.alloc (.cells #[.int .i64 0,.slice none 0 0,.slice none 0 0,.int .i64 0,.int .i64 0,.int .i64 0] 44)).alloc (.cells #[.int .i64 0,.int .i64 0,.int .i64 0] 36)) w.heap.size #[.int .i64 0,.slice none 0 0,.slice none 0 0,.int .i64 0,.int .i64 0,.int .i64 0] 44:=(BoxC.new w _ _).alloc _
 have b1:BoxC ((w.alloc (.cells #[.int .i64 0,.slice none 0 0,.slice none 0 0,.int .i64 0,.int .i64 0,.int .i64 0] 44)).alloc (.cells #[.int .i64 0,.int .i64 0,.int .i64 0] 36)) (w.heap.size+1) #[.int .i64 0,.int .i64 0,.int .i64 0] 36:=by
  have:=BoxC.new (w.alloc (.cells #[.int .i64 0,.slice none 0 0,.slice none 0 0,.int .i64 0,.int .i64 0,.int .i64 0] 44)) #[.int .i64 0,.int .i64 0,.int .i64 0] 36;rw[jO]at this;exact this
 have aG:Below w.heap.size w ((w.alloc (.cells #[.int .i64 0,.slice none 0 0,.slice none 0 0,.int .i64 0,.int .i64 0,.int .i64 0] 44)).alloc (.cells #[.int .i64 0,.int .i64 0,.int .i64 0] 36)):=(bal _).alloc oC _;have ci:((w.alloc (.cells #[.int .i64 0,.slice none 0 0,.slice none 0 0,.int .i64 0,.int .i64 0,.int .i64 0] 44)).alloc (.cells #[.int .i64 0,.int .i64 0,.int .i64 0] 36)).heap.size=w.heap.size+2:=oC;generalize (w.alloc (.cells #[.int .i64 0,.slice none 0 0,.slice none 0 0,.int .i64 0,.int .i64 0,.int .i64 0] 44)).alloc (.cells #[.int .i64 0,.int .i64 0,.int .i64 0] 36)=bX at *;go_wp2_with (fail);refine(b7.out bX).mono ?_;rintro p a7 ⟨rfl,ar⟩;clear b7;replace j:=j.below ar;replace b1:=b1.below ar;have cj:=ar.size;replace aG:=aG.trans (ar.mono oA);clear ar;clear a6;have au:=(Below.refl a7.heap.size a7).alloc (jE _) (.cells #[.int .i64 0,.slice none 0 0,.slice none 0 0,.int .i64 0,.int .i64 0,.int .i64 0,.slice b iL.length e,.slice c iH.length d,.int .i64 fuel] 71);have aa:=BoxC.new a7 #[.int .i64 0,.slice none 0 0,.slice none 0 0,.int .i64 0,.int .i64 0,.int .i64 0,.slice b iL.length e,.slice c iH.length d,.int .i64 fuel] 71;replace j:=j.below au;replace b1:=b1.below au;have aH:=aG.trans (au.mono oA);clear aG;have aM:=zet _ (hasAll_below aZ.out aH) xs tv (strs_below b8.out aH);rw[bs.out]at aM;go_wp2_with (fail);refine aM.mono ?_;clear aM;rintro p a8 ⟨ad,cy,rfl,_⟩;have cm:=au.size;have cn:=ad.size;replace j:=j.below ad;replace b1:=b1.below ad;replace aa:=aa.below ad;have ba:=aH.trans (ad.mono oA);have ck:a7.heap.size<(a7.alloc (.cells #[.int .i64 0,.slice none 0 0,.slice none 0 0,.int .i64 0,.int .i64 0,.int .i64 0,.slice b iL.length e,.slice c iH.length d,.int .i64 fuel] 71)).heap.size:=oC;clear aH ad au;generalize a7.alloc (.cells #[.int .i64 0,.slice none 0 0,.slice none 0 0,.int .i64 0,.int .i64 0,.int .i64 0,.slice b iL.length e,.slice c iH.length d,.int .i64 fuel] 71)=cz at *;have av:=(Below.refl a8.heap.size a8).alloc (jE _) (.cells #[.int .i64 0,.int .i64 0,.int .i64 0] 36);replace j:=j.below av;replace b1:=b1.below av;replace aa:=aa.below av;have a3:=ba.trans (av.mono oA);have bB:(a8.alloc (.cells #[.int .i64 0,.int .i64 0,.int .i64 0] 36)).heap.size=a8.heap.size+1:=oC;clear av ba;go_wp2_with (fail);have ch:w.heap.size+2<=a8.heap.size:=oA;generalize a8.alloc (.cells #[.int .i64 0,.int .i64 0,.int .i64 0] 36)=W at *;generalize ca:a7.heap.size=a9 at *;have cb:w.heap.size+2<=a9:=oA;have cc:a9<a8.heap.size:=oA;refine wp_region_held_drew (S:=fun W=>BoxC W a9 #[.int .i64 0,.slice none 0 0,.slice none 0 0,.int .i64 0,.int .i64 0,.int .i64 0,.slice b iL.length e,.slice c iH.length d,.int .i64 fuel] 71) oB (aa.below (Below.refl _ _).drew) (fun k=>?_);replace j:=j.below (Below.refl _ _).drew;replace b1:=b1.below (Below.refl _ _).drew;replace a3:=a3.drew;have bC:W.drew.heap.size=W.heap.size:=oC;generalize W.drew=y at *;have aO:w.heap.size+2<=y.heap.size:=oA;have ce:a9<y.heap.size:=oA;clear aa bB bC;have be:∀ah,Below w.heap.size w ah->Calls Tryz.prog 30 #[tv] ah (RdE xs ah):=fun ah bg=>oRead ah (zbd aZ.out.1 bg) xs tv (strs_below b8.out bg) bv.out bu.out
 have aD:=show Hid _ from be
 clear be;refine tkS (i:=0) (v:=tv) rfl rfl (Or.inl ⟨oG,fun aX B=>oF⟩) k ?_;simp only[jA,jB,jC];refine tkS (i:=2) (v:=.agg #[.int .i64 0,.slice none 0 0,.slice none 0 0,.int .i64 0,.int .i64 0,.int .i64 0,.slice b iL.length e,.slice c iH.length d,.int .i64 fuel] ) rfl rfl (Or.inl ⟨oG,fun aX B=>by have co:=B.cell 0 rfl;have cp:=B.cell 1 rfl;have cq:=B.cell 2 rfl;have cr:=B.cell 3 rfl;have ct:=B.cell 4 rfl;have cu:=B.cell 5 rfl;have cv:=B.cell 6 rfl;have cw:=B.cell 7 rfl;have cx:=B.cell 8 rfl;go_simp⟩) k ?_;simp only[jA,jB,jC];refine wpAnyH_ready (rs:=[1,4]) oB oC ?_;refine(AllReadyH.cons rfl (fun C o=>?_) (AllReadyH.cons rfl (fun C o=>?_) AllReadyH.nil))
 ·skip;go_simp;go_at_call 30;refine(aD.out y a3).mono ?_;clear aD;rintro p a ⟨br,m,l,bR,bN,bS,bP,rfl,r,am⟩;have bF:=r.size;replace j:=j.below r;replace b1:=b1.below r;replace k:=k.below r;have ac:=a3.trans (r.mono oA);refine o.out _ _ k (fun G=>?_);clear o C G r a3;refine tkS (i:=3) (v:=.agg #[.map (some m),.map (some l),.int .i64 0,.slice none 0 0,.slice none 0 0,.int .i64 0,.int .i64 0,.int .i64 0,.slice b iL.length e,.slice c iH.length d,.int .i64 fuel,.int .i64 0] ) rfl rfl (Or.inl ⟨oG,fun aX B=>oF⟩) k ?_;simp only[jA,jB,jC];refine oneH 4 fun C o=>?_
  go_simp;have u:=(Below.refl a.heap.size a).alloc (jE _) (.cells #[.map none,.map none,.int .i64 0,.slice none 0 0,.slice none 0 0,.int .i64 0,.int .i64 0,.int .i64 0,.slice none 0 0,.slice none 0 0,.int .i64 0,.int .i64 0] 80);have t:=BoxC.new a #[.map none,.map none,.int .i64 0,.slice none 0 0,.slice none 0 0,.int .i64 0,.int .i64 0,.int .i64 0,.slice none 0 0,.slice none 0 0,.int .i64 0,.int .i64 0] 80;replace j:=j.below u;replace b1:=b1.below u;replace k:=k.below u;have R:=ac.trans (u.mono oA);have bo:(a.alloc (.cells #[.map none,.map none,.int .i64 0,.slice none 0 0,.slice none 0 0,.int .i64 0,.int .i64 0,.int .i64 0,.slice none 0 0,.slice none 0 0,.int .i64 0,.int .i64 0] 80)).heap.size=a.heap.size+1:=oC;refine o.out _ _ k (fun G=>?_);clear o C G ac;obtain⟨q,aO⟩:∃q,q=a.alloc (.cells #[.map none,.map none,.int .i64 0,.slice none 0 0,.slice none 0 0,.int .i64 0,.int .i64 0,.int .i64 0,.slice none 0 0,.slice none 0 0,.int .i64 0,.int .i64 0] 80):=⟨_,rfl⟩
  rw[<- aO]at j b1 k R t u bo |-;clear aO;refine oneH 5 fun C o=>?_
  refine zd3 oG 80 (.tmp 14) (.tmp 40) oG a.heap.size #[.map (some m),.map (some l),.int .i64 0,.slice none 0 0,.slice none 0 0,.int .i64 0,.int .i64 0,.int .i64 0,.slice b iL.length e,.slice c iH.length d,.int .i64 fuel,.int .i64 0] oG oG 80 _ t oB oG oB ?_;replace j:BoxC (q.setRow a.heap.size #[.map (some m),.map (some l),.int .i64 0,.slice none 0 0,.slice none 0 0,.int .i64 0,.int .i64 0,.int .i64 0,.slice b iL.length e,.slice c iH.length d,.int .i64 fuel,.int .i64 0]) w.heap.size _ _:=(setRow_other _ _ _ _ oA).trans j;replace b1:BoxC (q.setRow a.heap.size #[.map (some m),.map (some l),.int .i64 0,.slice none 0 0,.slice none 0 0,.int .i64 0,.int .i64 0,.int .i64 0,.slice b iL.length e,.slice c iH.length d,.int .i64 fuel,.int .i64 0]) (w.heap.size+1) _ _:=(setRow_other _ _ _ _ oA).trans b1;replace k:BoxC (q.setRow a.heap.size #[.map (some m),.map (some l),.int .i64 0,.slice none 0 0,.slice none 0 0,.int .i64 0,.int .i64 0,.int .i64 0,.slice b iL.length e,.slice c iH.length d,.int .i64 fuel,.int .i64 0]) a9 _ _:=(setRow_other _ _ _ _ oA).trans k;replace t:BoxC (q.setRow a.heap.size #[.map (some m),.map (some l),.int .i64 0,.slice none 0 0,.slice none 0 0,.int .i64 0,.int .i64 0,.int .i64 0,.slice b iL.length e,.slice c iH.length d,.int .i64 fuel,.int .i64 0]) a.heap.size _ _:=setRow_heap _ _ _ _ _ _ t;have T:=zbr (cs:=#[.map (some m),.map (some l),.int .i64 0,.slice none 0 0,.slice none 0 0,.int .i64 0,.int .i64 0,.int .i64 0,.slice b iL.length e,.slice c iH.length d,.int .i64 fuel,.int .i64 0]) R (by omega:w.heap.size<=a.heap.size) R.size;have a5:∀z,y.heap.size+1<=z->z<a.heap.size->(q.setRow a.heap.size #[.map (some m),.map (some l),.int .i64 0,.slice none 0 0,.slice none 0 0,.int .i64 0,.int .i64 0,.int .i64 0,.slice b iL.length e,.slice c iH.length d,.int .i64 fuel,.int .i64 0]).heap[z]?=a.heap[z]?:=fun z _ b9=>(setRow_other _ _ _ _ oA).trans (u.block z b9)
  have ay:a.heap.size<=(q.setRow a.heap.size #[.map (some m),.map (some l),.int .i64 0,.slice none 0 0,.slice none 0 0,.int .i64 0,.int .i64 0,.int .i64 0,.slice b iL.length e,.slice c iH.length d,.int .i64 fuel,.int .i64 0]).heap.size:=oE;have aN:a.heap.size<(q.setRow a.heap.size #[.map (some m),.map (some l),.int .i64 0,.slice none 0 0,.slice none 0 0,.int .i64 0,.int .i64 0,.int .i64 0,.slice b iL.length e,.slice c iH.length d,.int .i64 fuel,.int .i64 0]).heap.size:=oE;have ap:a.heap.size<y.heap.size+1\/a.heap.size<=a.heap.size:=.inr (jE _);refine o.out _ _ k (fun G=>?_);clear o C G R u k;refine wpAnyH_done oB ?_ _;generalize q.setRow a.heap.size #[.map (some m),.map (some l),.int .i64 0,.slice none 0 0,.slice none 0 0,.int .i64 0,.int .i64 0,.int .i64 0,.slice b iL.length e,.slice c iH.length d,.int .i64 fuel,.int .i64 0]=bw at *;have ae:=aY.out;have aw:natV fuel.toNat=.int .i64 fuel:=zmq;obtain⟨g,P,aT,N,an,ak⟩:=zkr (F:=fuel.toNat) am ay a5 ap aN (by rw[aw];exact t) b2.out b0.out T oA oA oA ae.2.2.1 ae.2.2.2;have M:=zll (p:=g) vN oD an ak b6.out;have aV:=N w.heap.size oA oA;have aW:=N (w.heap.size+1) oA oA;have bA:w.heap.size+2<=g.D:=by rw[aT];omega
  have ax:∀Q,Q<w.heap.size->Stc g Q:=fun Q a5=>N Q oA oA
  have aE:=show Hid _ from ax
  have aJ:Hid (cxL (kQ (xs.map mdM)) iL iH fuel.toNat=xI xs iL iH fuel):=rfl;rw[aJ.out,P]at M;rw[<- aC.out]at M;have aS:∀(aj:Fn) (first ai:Array Value) (w:World),(Instr.makeFunc aj first ai).run Tryz.prog w=.ok (.func aj first ai) w:=fun _ _ _ _=>rfl
  clear an ak aC N ax am ay a5 ap aw;go_wp2_with (fail);refine M.mono ?_;clear M aS;rintro p x ⟨rfl,bM,hi,aA,⟨bz,f⟩,s⟩;obtain⟨V,h⟩:=aF;obtain⟨la,lc,rfl⟩:=f.lshape;obtain⟨ha,hc,rfl⟩:=f.hshape;have aU:=g.rd;rw[P]at s aU;have ab:=f.box;rw[P]at ab;have K:BoxC x w.heap.size #[.int .i64 0,.slice none 0 0,.slice none 0 0,.int .i64 0,.int .i64 0,.int .i64 0] 44:=zmr;have a2:BoxC x (w.heap.size+1) #[.int .i64 0,.int .i64 0,.int .i64 0] 36:=zdz;have L:=ab.set 2 (intV V);rw[<- s]at L;have ag:=f.loNe;have af:=f.hiNe;rw[P]at ag af;have bq:x.ownsRow w.heap.size 2 1 (.slice la h.oL.length lc) h.oL.length (h.oL.map intV):=by rw[s];exact(f.rl.kept (zZ aA a.heap.size 2 (intV V)) (.inr ag)).mono oA
  have bp:x.ownsRow w.heap.size 2 1 (.slice ha h.oH.length hc) h.oH.length (h.oH.map intV):=by rw[s];exact(f.rh.kept (zZ aA a.heap.size 2 (intV V)) (.inr af)).mono oA
  have aR:(Value.slice la h.oL.length lc).ownBlock≠some w.heap.size/\(Value.slice la h.oL.length lc).ownBlock≠some (w.heap.size+1):=⟨fun p=>zd0,fun p=>zd0⟩
  have aP:(Value.slice ha h.oH.length hc).ownBlock≠some w.heap.size/\(Value.slice ha h.oH.length hc).ownBlock≠some (w.heap.size+1):=⟨fun p=>oz16y173,fun p=>oz16y173⟩
  have bb:Below w.heap.size w x:=by
   rw[s];refine Below.setCell (T.trans ⟨f.stc.os,f.stc.tape,f.stc.output,f.stc.size,fun az aQ=>f.stc.block az (by have:=T.size;omega) (aE.out az aQ)⟩) (by show w.heap.size<=a.heap.size;omega) _
  exact zmm
 ·skip;go_simp;have u:=(Below.refl y.heap.size y).alloc (jE _) (.cells #[.map none,.map none,.int .i64 0,.slice none 0 0,.slice none 0 0,.int .i64 0,.int .i64 0,.int .i64 0,.slice none 0 0,.slice none 0 0,.int .i64 0,.int .i64 0] 80);have t:=BoxC.new y #[.map none,.map none,.int .i64 0,.slice none 0 0,.slice none 0 0,.int .i64 0,.int .i64 0,.int .i64 0,.slice none 0 0,.slice none 0 0,.int .i64 0,.int .i64 0] 80;replace j:=j.below u;replace b1:=b1.below u;replace k:=k.below u;have R:=a3.trans (u.mono oA);have bo:(y.alloc (.cells #[.map none,.map none,.int .i64 0,.slice none 0 0,.slice none 0 0,.int .i64 0,.int .i64 0,.int .i64 0,.slice none 0 0,.slice none 0 0,.int .i64 0,.int .i64 0] 80)).heap.size=y.heap.size+1:=oC;refine o.out _ _ k (fun G=>?_);clear o C G a3 u;generalize cd:y.heap.size=n at *;generalize y.alloc (.cells #[.map none,.map none,.int .i64 0,.slice none 0 0,.slice none 0 0,.int .i64 0,.int .i64 0,.int .i64 0,.slice none 0 0,.slice none 0 0,.int .i64 0,.int .i64 0] 80)=q at *;refine oneH 1 fun C o=>?_
  go_simp;go_at_call 30;refine(aD.out q R).mono ?_;clear aD;rintro p a ⟨br,m,l,bR,bN,bS,bP,rfl,r,am⟩;have bF:=r.size;replace j:=j.below r;replace b1:=b1.below r;replace t:=t.below r;replace k:=k.below r;have ac:=R.trans (r.mono oA);refine o.out _ _ k (fun G=>?_);clear o C G r R;refine tkS (i:=3) (v:=.agg #[.map (some m),.map (some l),.int .i64 0,.slice none 0 0,.slice none 0 0,.int .i64 0,.int .i64 0,.int .i64 0,.slice b iL.length e,.slice c iH.length d,.int .i64 fuel,.int .i64 0] ) rfl rfl (Or.inl ⟨oG,fun aX B=>oF⟩) k ?_;simp only[jA,jB,jC];refine oneH 5 fun C o=>?_
  refine zd3 oG 80 (.tmp 14) (.tmp 40) oG n #[.map (some m),.map (some l),.int .i64 0,.slice none 0 0,.slice none 0 0,.int .i64 0,.int .i64 0,.int .i64 0,.slice b iL.length e,.slice c iH.length d,.int .i64 fuel,.int .i64 0] oG oG 80 _ t oB oG oB ?_;replace j:BoxC (a.setRow n #[.map (some m),.map (some l),.int .i64 0,.slice none 0 0,.slice none 0 0,.int .i64 0,.int .i64 0,.int .i64 0,.slice b iL.length e,.slice c iH.length d,.int .i64 fuel,.int .i64 0]) w.heap.size _ _:=(setRow_other _ _ _ _ oA).trans j;replace b1:BoxC (a.setRow n #[.map (some m),.map (some l),.int .i64 0,.slice none 0 0,.slice none 0 0,.int .i64 0,.int .i64 0,.int .i64 0,.slice b iL.length e,.slice c iH.length d,.int .i64 fuel,.int .i64 0]) (w.heap.size+1) _ _:=(setRow_other _ _ _ _ oA).trans b1;replace k:BoxC (a.setRow n #[.map (some m),.map (some l),.int .i64 0,.slice none 0 0,.slice none 0 0,.int .i64 0,.int .i64 0,.int .i64 0,.slice b iL.length e,.slice c iH.length d,.int .i64 fuel,.int .i64 0]) a9 _ _:=(setRow_other _ _ _ _ oA).trans k;replace t:BoxC (a.setRow n #[.map (some m),.map (some l),.int .i64 0,.slice none 0 0,.slice none 0 0,.int .i64 0,.int .i64 0,.int .i64 0,.slice b iL.length e,.slice c iH.length d,.int .i64 fuel,.int .i64 0]) n _ _:=setRow_heap _ _ _ _ _ _ t;have T:=zbr (cs:=#[.map (some m),.map (some l),.int .i64 0,.slice none 0 0,.slice none 0 0,.int .i64 0,.int .i64 0,.int .i64 0,.slice b iL.length e,.slice c iH.length d,.int .i64 fuel,.int .i64 0]) ac (by omega:w.heap.size<=n) ac.size;have a5:∀z,q.heap.size+1<=z->z<a.heap.size->(a.setRow n #[.map (some m),.map (some l),.int .i64 0,.slice none 0 0,.slice none 0 0,.int .i64 0,.int .i64 0,.int .i64 0,.slice b iL.length e,.slice c iH.length d,.int .i64 fuel,.int .i64 0]).heap[z]?=a.heap[z]?:=fun z c9 b9=>setRow_other _ _ _ _ oA
  have ay:a.heap.size<=(a.setRow n #[.map (some m),.map (some l),.int .i64 0,.slice none 0 0,.slice none 0 0,.int .i64 0,.int .i64 0,.int .i64 0,.slice b iL.length e,.slice c iH.length d,.int .i64 fuel,.int .i64 0]).heap.size:=oC;have aN:n<(a.setRow n #[.map (some m),.map (some l),.int .i64 0,.slice none 0 0,.slice none 0 0,.int .i64 0,.int .i64 0,.int .i64 0,.slice b iL.length e,.slice c iH.length d,.int .i64 fuel,.int .i64 0]).heap.size:=oE;have ap:n<q.heap.size+1\/a.heap.size<=n:=.inl oA;refine o.out _ _ k (fun G=>?_);clear o C G ac k;refine wpAnyH_done oB ?_ _;generalize a.setRow n #[.map (some m),.map (some l),.int .i64 0,.slice none 0 0,.slice none 0 0,.int .i64 0,.int .i64 0,.int .i64 0,.slice b iL.length e,.slice c iH.length d,.int .i64 fuel,.int .i64 0]=bw at *;have ae:=aY.out;have aw:natV fuel.toNat=.int .i64 fuel:=zmq;obtain⟨g,P,aT,N,an,ak⟩:=zkr (F:=fuel.toNat) am ay a5 ap aN (by rw[aw];exact t) b2.out b0.out T oA oA oA ae.2.2.1 ae.2.2.2;have M:=zll (p:=g) vN oD an ak b6.out;have aV:=N w.heap.size oA oA;have aW:=N (w.heap.size+1) oA oA;have bA:w.heap.size+2<=g.D:=by rw[aT];omega
  have ax:∀Q,Q<w.heap.size->Stc g Q:=fun Q a5=>N Q oA oA
  have aE:=show Hid _ from ax
  have aJ:Hid (cxL (kQ (xs.map mdM)) iL iH fuel.toNat=xI xs iL iH fuel):=rfl;rw[aJ.out,P]at M;rw[<- aC.out]at M;have aS:∀(aj:Fn) (first ai:Array Value) (w:World),(Instr.makeFunc aj first ai).run Tryz.prog w=.ok (.func aj first ai) w:=fun _ _ _ _=>rfl
  clear an ak aC N ax am ay a5 ap aw;go_wp2_with (fail);refine M.mono ?_;clear M aS;rintro p x ⟨rfl,bM,hi,aA,⟨bz,f⟩,s⟩;obtain⟨V,h⟩:=aF;obtain⟨la,lc,rfl⟩:=f.lshape;obtain⟨ha,hc,rfl⟩:=f.hshape;have aU:=g.rd;rw[P]at s aU;have ab:=f.box;rw[P]at ab;have K:BoxC x w.heap.size #[.int .i64 0,.slice none 0 0,.slice none 0 0,.int .i64 0,.int .i64 0,.int .i64 0] 44:=zmr;have a2:BoxC x (w.heap.size+1) #[.int .i64 0,.int .i64 0,.int .i64 0] 36:=zdz;have L:=ab.set 2 (intV V);rw[<- s]at L;have ag:=f.loNe;have af:=f.hiNe;rw[P]at ag af;have bq:x.ownsRow w.heap.size 2 1 (.slice la h.oL.length lc) h.oL.length (h.oL.map intV):=by rw[s];exact(f.rl.kept (zZ aA n 2 (intV V)) (.inr ag)).mono oA
  have bp:x.ownsRow w.heap.size 2 1 (.slice ha h.oH.length hc) h.oH.length (h.oH.map intV):=by rw[s];exact(f.rh.kept (zZ aA n 2 (intV V)) (.inr af)).mono oA
  have aR:(Value.slice la h.oL.length lc).ownBlock≠some w.heap.size/\(Value.slice la h.oL.length lc).ownBlock≠some (w.heap.size+1):=⟨fun p=>zd0,fun p=>zd0⟩
  have aP:(Value.slice ha h.oH.length hc).ownBlock≠some w.heap.size/\(Value.slice ha h.oH.length hc).ownBlock≠some (w.heap.size+1):=⟨fun p=>oz16y173,fun p=>oz16y173⟩
  have bb:Below w.heap.size w x:=by
   rw[s];refine Below.setCell (T.trans ⟨f.stc.os,f.stc.tape,f.stc.output,f.stc.size,fun az aQ=>f.stc.block az (by have:=T.size;omega) (aE.out az aQ)⟩) (by show w.heap.size<=n;omega) _
  exact zmm
end
end mdl
namespace mdl
open syn face mac chk
open ord (orderF)
variable {xs:List ByteArray} {iL iH:List Int}
theorem ztr {nl nh:Nat} {few more:Int} (c:few<=more):qV nl nh few 1000=qV nl nh more 1000\/few<0\/1000<more:=by
 unfold qV;by_cases a:few<0;·exact .inr (.inl a)
 by_cases b:1000<more;·exact .inr (.inr b)
 rw[ju (show ¬(few<0\/1000<few) by omega),ju (show ¬(more<0\/1000<more) by omega)];exact .inl rfl
theorem zb9 {fuel:Int} (a:qV iL.length iH.length fuel 1000≠0):zR xs iL iH fuel=(noR,(0,qV iL.length iH.length fuel 1000,0)):=by
 unfold zR;rw[jv a]
theorem zca {fuel:Int} {a:ord.Tr} (b:qV iL.length iH.length fuel 1000=0) (c:orderF xs=some a):zR xs iL iH fuel=(noR,a):=by
 unfold zR;rw[ju (by simp[b]),c]
theorem zau {fuel:Int} (a:qV iL.length iH.length fuel 1000=0) (b:orderF xs=none):zR xs iL iH fuel=(xR (clM (xI xs iL iH fuel) vN 0 yB [] (rs0 (vsF (kQ (xs.map mdM))))),(0,0,0)):=by
 unfold zR;rw[ju (by simp[a]),b]
theorem zft {c b:Nat} {fuel:Int} (a:qV c b fuel 1000=0):0<=fuel/\fuel<=1000/\c<=1000/\b<=1000:=by
 unfold qV at a;split at a;·cases a
 split at a;·cases a
 omega
theorem zkj {fuel:Int} (a:(zR xs iL iH fuel).2.2.1=0):qV iL.length iH.length fuel 1000=0/\orderF xs=none:=by
 by_cases b:qV iL.length iH.length fuel 1000=0
 ·cases c:orderF xs with
  | none=>exact⟨b,rfl⟩
  | some d =>
   rw[zca b c]at a;exact absurd a (ord.order_code c)
 ·rw[zb9 b]at a;exact absurd a b
theorem zsa {few more:Int} (e:few<=more):(zR xs iL iH few).2=(zR xs iL iH more).2\/few<0\/1000<more:=by
 rcases ztr (nl:=iL.length) (nh:=iH.length) e with a | a
 ·left;by_cases b:qV iL.length iH.length few 1000=0
  ·have c:qV iL.length iH.length more 1000=0:=by rw[<- a];exact b
   cases d:orderF xs with
   | none=>rw[zau b d,zau c d]
   | some f=>rw[zca b d,zca c d]
  ·have c:qV iL.length iH.length more 1000≠0:=by rw[<- a];exact b
   rw[zb9 b,zb9 c,a]
 ·exact .inr a
theorem zur {f F:Nat} {b c:Out Int} (g:Lg f F b c) (n:b≠.lost) (o:c≠.lost) (p:∀i a,b=.stop i a->a.st<=f):((xR b).1=0->(xR b).2.st=f/\(xR b).2.st<=(xR c).2.st/\(xR b).2.oL <+: (xR c).2.oL/\(xR b).2.oH <+: (xR c).2.oH)/\((xR b).1≠0->xR c=xR b):=by
 cases b with
 | lost=>exact absurd rfl n
 | go j a =>
  have e:c=.go j a:=g;rw[e]
  exact⟨fun h=>absurd (show(1:Int)=0 from h) oD,fun _=>rfl⟩
 | back j a =>
  have e:c=.back j a:=g;rw[e]
  exact⟨fun h=>absurd (show(1:Int)=0 from h) oD,fun _=>rfl⟩
 | stop i a =>
  by_cases hc:i=0
  ·subst hc;have e:a.st=f/\Gd F a c:=g;refine⟨fun _=>?_,fun h=>absurd rfl h⟩;obtain⟨m,d⟩:=e;show a.st=f/\a.st<=_/\a.oL <+: _/\a.oH <+: _;refine⟨m,?_⟩
   cases c with
   | lost=>exact absurd rfl o
   | go l k=>exact⟨d.st,d.oL,d.oH⟩
   | back l k=>exact⟨d.st,d.oL,d.oH⟩
   | stop l k=>exact⟨d.st,d.oL,d.oH⟩
  ·have e:c=.stop i a:=by
    unfold Lg at g;dsimp only at g;rw[ju hc]at g;exact g
   rw[e];exact⟨fun h=>absurd h hc,fun _=>rfl⟩
theorem zw5 {few more:Int} (s:few<=more) (ha:(zR xs iL iH few).2.2.1=0) (l:(zR xs iL iH more).2.2.1=0) : ((zR xs iL iH few).1.1=0->((zR xs iL iH few).1.2.st:Int)=few/\(zR xs iL iH few).1.2.st<=(zR xs iL iH more).1.2.st/\(zR xs iL iH few).1.2.oL <+: (zR xs iL iH more).1.2.oL/\(zR xs iL iH few).1.2.oH <+: (zR xs iL iH more).1.2.oH)/\((zR xs iL iH few).1.1≠0->(zR xs iL iH more).1=(zR xs iL iH few).1):=by
 obtain⟨d,a⟩:=zkj ha;obtain⟨c,_⟩:=zkj l;rw[zau d a,zau c a];have q:=zft d;have r:=zft c;have m:=zep (iL:=iL) (iH:=iH) (fuel:=few) a oA;have n:=zep (iL:=iL) (iH:=iH) (fuel:=more) a oA;have o:=(lgs (xI xs iL iH few) (F:=more.toNat) (by show few.toNat<=_;omega) vN).cl 0 yB [] (rs0 (vsF (kQ (xs.map mdM)))) (jz _)
 have b:=zur (f:=few.toNat) (F:=more.toNat) o m n (fun p t e=>by
  have:=(gds (xI xs iL iH few) vN).cl 0 yB [] (rs0 (vsF (kQ (xs.map mdM))));rw[e]at this
  exact this.le (jz _))
 refine⟨fun g=>?_,b.2⟩;obtain⟨h,i,j,k⟩:=b.1 g;refine⟨?_,i,j,k⟩;show((xR (clM (xI xs iL iH few) vN 0 yB [] (rs0 (vsF (kQ (xs.map mdM)))))).2.st:Int)=few;rw[h];omega
theorem zji (fuel:Int):(zR xs iL iH fuel).1.2.oL.length<=1000/\(zR xs iL iH fuel).1.2.oH.length<=1000:=by
 by_cases e:qV iL.length iH.length fuel 1000=0
 ·cases g:orderF xs with
  | some o=>rw[zca e g];exact⟨jz _,jz _⟩
  | none =>
   rw[zau e g];have n:=zft e;have l:=zep (iL:=iL) (iH:=iH) (fuel:=fuel) g oA;have k:Inv (xI xs iL iH fuel) (rs0 (vsF (kQ (xs.map mdM)))):=⟨jz _,jz _,jz _,jz _,jz _⟩
   have b:=(gds (xI xs iL iH fuel) vN).cl 0 yB [] (rs0 (vsF (kQ (xs.map mdM))));have c:=(gks (xI xs iL iH fuel) vN).cl 0 yB [] (rs0 (vsF (kQ (xs.map mdM))))
   have key:∀a,mdl.Ext (xI xs iL iH fuel).fuel (rs0 (vsF (kQ (xs.map mdM)))) a->Sk (xI xs iL iH fuel) 0 (rs0 (vsF (kQ (xs.map mdM)))) a->a.oL.length<=1000/\a.oH.length<=1000:=fun a i j=>by
    have f:=k.of i j;have m:(xI xs iL iH fuel).fuel=fuel.toNat:=rfl;have:=f.st;have:=f.oL;have:=f.oH;omega
   cases d:clM (xI xs iL iH fuel) vN 0 yB [] (rs0 (vsF (kQ (xs.map mdM))))with
   | lost=>exact absurd d l
   | go h a=>rw[d]at b c;exact key a b c
   | back h a=>rw[d]at b c;exact key a b c
   | stop h a=>rw[d]at b c;exact key a b c
 ·rw[zb9 e];exact⟨jz _,jz _⟩
end mdl
namespace mdl
open Go.RowKit
open syn face mac
open chk hiding BoxC BoxC.new BoxC.below BoxC.lt BoxC.cell BoxC.fz BoxC.set
open ord (tkd gU)
theorem zg4 (e b:List Int) (v x:Value) (w:World) (E:IntsIn w v e) (D:IntsIn w x b) (hp:b <+: e) (R:e.length<=90000) : Calls Tryz.prog 13 #[v,x] w fun d G=>d=.returned (.bool true)/\Below w.heap.size w G:=by
 have s:=hp.length_le;obtain⟨K,y,rfl,_,p⟩:=E;obtain⟨L,z,rfl,_,r⟩:=D;have Q:¬((e.length:Int)<(b.length:Int)):=oA;go_enter Tryz.func13,Tryz.ntmps13;go_wp2;go_loopw [5] (fun n wr=>∃a:Nat,a<=b.length/\n=.int .i64 a/\Below w.heap.size w wr) (fun n _=>b.length - (intOf n).toNat)
 case atStart=>exact⟨0,jz _,rfl,Below.refl _ _⟩
 case round =>
  obtain⟨a,M,rfl,h⟩:=hrel;by_cases f:a<b.length
  ·obtain⟨j,l,rfl,hc⟩:=p (by intro d;rw[d]at s;simp at s;rw[s]at f;simp at f);obtain⟨k,m,rfl,t⟩:=r (by intro d;rw[d]at f;simp at f);have q:=mac.keep (hc a oA) h;have u:=mac.keep (t a f) h
   have d:e[a]' oA=b[a]:=by
    obtain⟨n,rfl⟩:=hp;simp[f]
   rw[d]at q;generalize b[a]=g at *;have N:(a:Int)<(e.length:Int):=oA;have P:(a:Int)<(b.length:Int):=oA;have c:wr.drew.cell? ⟨j,l+a,none⟩=some (.int .i64 g)/\wr.drew.cell? ⟨k,m+a,none⟩=some (.int .i64 g):=⟨by simpa using q,by simpa using u⟩
   clear hc t p r d hp q u;go_wp2;refine wp_region_held_drew (S:=fun W=>W.cell? ⟨j,l+a,none⟩=some (.int .i64 g)/\W.cell? ⟨k,m+a,none⟩=some (.int .i64 g)) oB c (fun C=>?_);clear C;have B:=h.drew;clear h;generalize wr.drew=W at *;refine tkR 0 (.slice (some ⟨j,l,none⟩) e.length y) c ?_;simp only[jA,jB,jC];refine tkR 1 (.int .i64 a) c ?_;simp only[jA,jB,jC];refine tkR 2 (.pointer (some ⟨j,l+a,none⟩)) c ?_;simp only[jA,jB,jC];refine tkS (i:=3) (v:=.int .i64 g) rfl rfl (Or.inl ⟨oG,fun w o=>by have b:=o.1;go_simp⟩) c ?_;simp only[jA,jB,jC];refine tkR 4 (.slice (some ⟨k,m,none⟩) b.length z) c ?_;simp only[jA,jB,jC];refine tkR 5 (.int .i64 a) c ?_;simp only[jA,jB,jC];refine tkR 6 (.pointer (some ⟨k,m+a,none⟩)) c ?_;simp only[jA,jB,jC];refine tkS (i:=7) (v:=.int .i64 g) rfl rfl (Or.inl ⟨oG,fun w o=>by have b:=o.2;go_simp⟩) c ?_;simp only[jA,jB,jC];refine tkR 8 (.bool false) c ?_;simp only[jA,jB,jC];refine wpAnyH_done oB ?_ _;go_wp2;go_roundw
   case rel=>exact⟨a+1,oA,oM,B⟩
   case measure=>simp[intOf];omega
  ·clear p r hp;go_wp2;go_ret;exact⟨rfl,h⟩
theorem zq7 (a:List Int) (v b:Value) (w:World) (e:IntsIn w v a) (d:IntsIn w b a) (i:a.length<=90000) : Calls Tryz.prog 14 #[v,b] w fun c j=>c=.returned (.bool true)/\Below w.heap.size w j:=by
 have hc:=zg4 a a v b w e d List.prefix_rfl i;obtain⟨k,m,rfl,_,g⟩:=e;obtain⟨l,n,rfl,_,h⟩:=d;clear g h;go_enter Tryz.func14,Tryz.ntmps14;go_wp2_with (go_at_call 13;refine hc.mono ?_;rintro c o ⟨rfl,f⟩);go_ret;exact⟨rfl,f⟩
theorem znj {w:World} {f:Nat} {v:Value} {b:List Int} (m:b.length<=90000) (c:w.ownsRow f 2 1 v b.length (b.map intV)):IntsIn w v b:=by
 rcases c.2 with⟨a,e⟩|⟨d,g,i,a,l,_,j,k,_⟩
 ·exact⟨none,0,by rw[a,e],oA,fun h=>absurd (List.eq_nil_of_length_eq_zero e) h⟩
 ·refine⟨some ⟨d,0,none⟩,g,a,oA,fun _=>⟨d,0,rfl,fun n hi=>?_⟩⟩;rw[a]at c;rw[Nat.zero_add,c.cellAt _ oA];simp[hi]
theorem xV {w b:World} {v:Value} {a:List Int} (h:IntsIn w v a) (i:Below w.heap.size w b):IntsIn b v a:=by
 obtain⟨c,d,e,k,j⟩:=h;refine⟨c,d,e,k,fun l=>?_⟩;obtain⟨g,n,f,hc⟩:=j l;exact⟨g,n,f,fun m hi=>mac.keep (hc m hi) i⟩
theorem yc5 (w:World) (xs:List ByteArray) (iL iH:List Int) (fuel:Int) (tv k ih:Value) (g:HasAll w) (h:zS w tv xs) (j:IntsIn w k iL) (i:IntsIn w ih iH) : Calls Tryz.prog 12 #[tv,k,ih,.int .i64 fuel] w (fV w (zR xs iL iH fuel)):=by
 obtain⟨c,f,rfl,_⟩:=id j;obtain⟨d,e,rfl,_⟩:=id i;by_cases a:qV iL.length iH.length fuel 1000=0
 ·cases b:ord.orderF xs with
  | none=>rw[zau a b];exact ybg c d f e tv a g h j i b
  | some l=>rw[zca a b];exact zzz c d f e tv a g h l b
 ·rw[zb9 a];exact zzy c d f e tv _ rfl a
end mdl
namespace mdl
open Go.RowKit
open syn face mac
open chk hiding BoxC BoxC.new BoxC.below BoxC.lt BoxC.cell BoxC.fz BoxC.set
open ord (tkd gU strs_below)
def dU (w:World) (k:Int) (s:RS) (a1 a2 a3:Int) (e:Ending) (w':World):Prop :=
 ∃b d a c,e=.returned (.tuple #[.agg #[.int .i64 k,.slice b s.oL.length d,.slice a s.oH.length c,natV s.uL,natV s.uH,natV s.st],.agg #[.int .i64 a1,.int .i64 a2,.int .i64 a3]])/\IntsIn w' (.slice b s.oL.length d) s.oL/\IntsIn w' (.slice a s.oH.length c) s.oH/\Below w.heap.size w w'
theorem fV.toL {w f:World} {e:Int} {a:RS} {a1 a2 a3:Int} {b:Ending} (o:a.oL.length<=1000/\a.oH.length<=1000) (k:fV w ((e,a),(a1,a2,a3)) b f):dU w e a a1 a2 a3 b f:=by
 obtain⟨p,hi,rfl,l,m,n⟩:=k;have c:=znj (by show a.oL.length<=_;omega) l;have d:=znj (by show a.oH.length<=_;omega) m;obtain⟨h,j,rfl,_⟩:=id c;obtain⟨g,i,rfl,_⟩:=id d;exact⟨h,j,g,i,rfl,c,d,n⟩
theorem zs9 (a1 a2 a3 b1 b2 b3:Int):∃d:Bool,(∀w:World,(binOp BinOp.eql 36 (.agg #[.int .i64 a1,.int .i64 a2,.int .i64 a3]) (.agg #[.int .i64 b1,.int .i64 b2,.int .i64 b3])).run Tryz.prog w=.ok (.bool d) w)/\(a1=b1/\a2=b2/\a3=b3->d=true):=by
 refine⟨(a1==b1&&(a2==b2&&a3==b3)),fun w=>?_,fun ⟨a,b,c⟩=>by simp[a,b,c]⟩;simp[go_sem];by_cases a:a1=b1
 ·by_cases b:a2=b2;·by_cases c:a3=b3<;>simp[a,b,c]
  ·simp[a,b]
 ·simp[a]
section
variable {w:World} {few more kA kB a1 a2 a3 b1 b2 b3:Int} {sA sB:RS} {tv:Value} {la lc ha hc:Nat} {lp hp:Option Addr}
theorem zyx (z:∀W,Below w.heap.size w W->Calls Tryz.prog 12 #[tv,.slice lp la lc,.slice hp ha hc,.int .i64 few] W (dU W kA sA a1 a2 a3)) (B:∀W,Below w.heap.size w W->Calls Tryz.prog 12 #[tv,.slice lp la lc,.slice hp ha hc,.int .i64 more] W (dU W kB sB b1 b2 b3)) (aM:¬more<few) (am:a2≠0\/b2≠0) (ai:(a1=b1/\a2=b2/\a3=b3)\/few<0\/1000<more) : Calls Tryz.prog 5 #[tv,.slice lp la lc,.slice hp ha hc,.int .i64 few,.int .i64 more] w fun q a5=>q=.returned (.bool true)/\Below w.heap.size w a5:=by
 have R:=show Hid _ from z
 have S:=show Hid _ from B
 obtain⟨N,aU,ao⟩:=zs9 a1 a2 a3 b1 b2 b3
 have aP:N=true\/(N=false/\few<0)\/(N=false/\¬few<0/\1000<more):=by
  cases C:N with
  | true=>exact .inl rfl
  | false =>
   rcases ai with h | h | h
   ·rw[ao h]at C;cases C
   ·exact .inr (.inl ⟨rfl,h⟩)
   ·by_cases t:few<0;·exact .inr (.inl ⟨rfl,t⟩)
    ·exact .inr (.inr ⟨rfl,t,h⟩)
 have hc:a2≠0\/(a2=0/\b2≠0):=by
  by_cases h:a2=0
  ·rcases am with t | t
   ·exact absurd h t
   ·exact .inr ⟨h,t⟩
  ·exact .inl h
 clear z B am ai ao;rcases hc with ha | ⟨ha,C⟩
 ·have aj:(a2 != 0)=true:=by simpa using ha
  clear ha;exact oz16x168
 ·have aj:(a2 != 0)=false:=by simpa using ha
  have aK:(b2 != 0)=true:=by simpa using C
  clear ha C;exact oz16x168
theorem zyy (z:∀W,Below w.heap.size w W->Calls Tryz.prog 12 #[tv,.slice lp la lc,.slice hp ha hc,.int .i64 few] W (dU W kA sA a1 a2 a3)) (B:∀W,Below w.heap.size w W->Calls Tryz.prog 12 #[tv,.slice lp la lc,.slice hp ha hc,.int .i64 more] W (dU W kB sB b1 b2 b3)) (aM:¬more<few) (ak:a2=0) (k:b2=0) (ap:kA=0) (aw:(sA.st:Int)=few) (aQ:sA.st<=sB.st) (av:sA.oL <+: sB.oL) (au:sA.oH <+: sB.oH) (ar:sB.oL.length<=1000/\sB.oH.length<=1000) : Calls Tryz.prog 5 #[tv,.slice lp la lc,.slice hp ha hc,.int .i64 few,.int .i64 more] w fun q a5=>q=.returned (.bool true)/\Below w.heap.size w a5:=by
 have R:=show Hid _ from z
 have S:=show Hid _ from B
 have aj:(a2 != 0)=false:=by simpa using ak
 have aK:(b2 != 0)=false:=by simpa using k
 have aW:(kA==0)=true:=by simpa using ap
 have aY:((sA.st:Int)==few)=true:=by simpa using aw
 have aV:decide (few<=(sB.st:Int))=true:=decide_eq_true oA;have aH:=show Hid _ from av
 have aG:=show Hid _ from au
 have ab:=show Hid _ from ar
 clear z B ak k ap aw aQ av au ar;go_enter Tryz.func5,Tryz.ntmps5;go_wp2_with (fail);refine(R.out w (Below.refl _ _)).mono ?_;rintro q a ⟨d,g,c,f,rfl,G,jA,k⟩;have u:=show Hid (IntsIn a (.slice d sA.oL.length g) sA.oL)from G
 have v:=show Hid (IntsIn a (.slice c sA.oH.length f) sA.oH)from jA
 have E:=k.size;have e:BoxC ((a.alloc (.cells #[.int .i64 kA,.slice d sA.oL.length g,.slice c sA.oH.length f,natV sA.uL,natV sA.uH,natV sA.st] 44)).alloc (.cells #[.int .i64 a1,.int .i64 a2,.int .i64 a3] 36)) a.heap.size #[.int .i64 kA,.slice d sA.oL.length g,.slice c sA.oH.length f,natV sA.uL,natV sA.uH,natV sA.st] 44:=(BoxC.new a _ _).alloc _
 have j:BoxC ((a.alloc (.cells #[.int .i64 kA,.slice d sA.oL.length g,.slice c sA.oH.length f,natV sA.uL,natV sA.uH,natV sA.st] 44)).alloc (.cells #[.int .i64 a1,.int .i64 a2,.int .i64 a3] 36)) (a.heap.size+1) #[.int .i64 a1,.int .i64 a2,.int .i64 a3] 36:=by
  exact zmn
 have l:Below a.heap.size a ((a.alloc (.cells #[.int .i64 kA,.slice d sA.oL.length g,.slice c sA.oH.length f,natV sA.uL,natV sA.uH,natV sA.st] 44)).alloc (.cells #[.int .i64 a1,.int .i64 a2,.int .i64 a3] 36)):=(bal _).alloc oC _;have V:((a.alloc (.cells #[.int .i64 kA,.slice d sA.oL.length g,.slice c sA.oH.length f,natV sA.uL,natV sA.uH,natV sA.st] 44)).alloc (.cells #[.int .i64 a1,.int .i64 a2,.int .i64 a3] 36)).heap.size=a.heap.size+2:=oC;clear G jA;go_wp2_with (fail);generalize (a.alloc (.cells #[.int .i64 kA,.slice d sA.oL.length g,.slice c sA.oH.length f,natV sA.uL,natV sA.uH,natV sA.st] 44)).alloc (.cells #[.int .i64 a1,.int .i64 a2,.int .i64 a3] 36)=a6 at *;refine(S.out a6 (k.trans (l.mono E))).mono ?_;rintro q b ⟨n,p,m,o,rfl,K,jB,i⟩;have ad:=show Hid (IntsIn b (.slice n sB.oL.length p) sB.oL)from K
 have af:=show Hid (IntsIn b (.slice m sB.oH.length o) sB.oH)from jB
 have ac:=show Hid (IntsIn b (.slice d sA.oL.length g) sA.oL)from xV u.out (l.trans (i.mono oA))
 have ae:=show Hid (IntsIn b (.slice c sA.oH.length f) sA.oH)from xV v.out (l.trans (i.mono oA))
 have aR:=i.size;have y:Below w.heap.size w b:=(k.trans (l.mono E)).trans (i.mono oA);replace e:=e.below i;replace j:=j.below i;have a7:=e.cell 0 rfl;have aA:=e.cell 1 rfl;have a8:=e.cell 2 rfl;have a9:=e.cell 3 rfl;have aa:=e.cell 4 rfl;have aB:=e.cell 5 rfl;have ax:=j.cell 0 rfl;have ay:=j.cell 1 rfl;have az:=j.cell 2 rfl;have aN:a.heap.size<b.heap.size:=oA;have aO:a.heap.size+1<b.heap.size:=oA;have s:=show Hid _ from y
 have aJ:=kc44;have aI:=kc36;have Q:Hid (BoxC b a.heap.size #[.int .i64 kA,.slice d sA.oL.length g,.slice c sA.oH.length f,natV sA.uL,natV sA.uH,natV sA.st] 44):=e;clear K jB e j u v i k l V y;have T:Below b.heap.size b ((b.alloc (.cells #[.int .i64 kB,.slice n sB.oL.length p,.slice m sB.oH.length o,natV sB.uL,natV sB.uH,natV sB.st] 44)).alloc (.cells #[.int .i64 b1,.int .i64 b2,.int .i64 b3] 36)):=(bal _).alloc oC _;have ah:BoxC ((b.alloc (.cells #[.int .i64 kB,.slice n sB.oL.length p,.slice m sB.oH.length o,natV sB.uL,natV sB.uH,natV sB.st] 44)).alloc (.cells #[.int .i64 b1,.int .i64 b2,.int .i64 b3] 36)) b.heap.size #[.int .i64 kB,.slice n sB.oL.length p,.slice m sB.oH.length o,natV sB.uL,natV sB.uH,natV sB.st] 44:=(BoxC.new b _ _).alloc _;have ag:=Q.out.below T;have L:=show Hid _ from T
 have aF:Hid (BoxC ((b.alloc (.cells #[.int .i64 kB,.slice n sB.oL.length p,.slice m sB.oH.length o,natV sB.uL,natV sB.uH,natV sB.st] 44)).alloc (.cells #[.int .i64 b1,.int .i64 b2,.int .i64 b3] 36)) b.heap.size #[.int .i64 kB,.slice n sB.oL.length p,.slice m sB.oH.length o,natV sB.uL,natV sB.uH,natV sB.st] 44):=ah;have aE:Hid (BoxC ((b.alloc (.cells #[.int .i64 kB,.slice n sB.oL.length p,.slice m sB.oH.length o,natV sB.uL,natV sB.uH,natV sB.st] 44)).alloc (.cells #[.int .i64 b1,.int .i64 b2,.int .i64 b3] 36)) a.heap.size #[.int .i64 kA,.slice d sA.oL.length g,.slice c sA.oH.length f,natV sA.uL,natV sA.uH,natV sA.st] 44):=ag;clear T ah ag Q;go_wp2_with (fail);generalize ((b.alloc (.cells #[.int .i64 kB,.slice n sB.oL.length p,.slice m sB.oH.length o,natV sB.uL,natV sB.uH,natV sB.st] 44)).alloc (.cells #[.int .i64 b1,.int .i64 b2,.int .i64 b3] 36))=aS at *;clear a7 aA a8 a9 aa aB ax ay az;refine(zg4 sB.oL sA.oL _ _ aS (xV ad.out L.out) (xV ac.out L.out) aH.out (by have:=ab.out.1;omega)).mono ?_;rintro q aT ⟨rfl,P⟩;have x:=aE.out.below P;have M:=aF.out.below P;have a7:=x.cell 0 rfl;have a8:=x.cell 2 rfl;have a9:=x.cell 3 rfl;have aa:=x.cell 4 rfl;have b0:=M.cell 2 rfl;have b6:=M.cell 3 rfl;have b7:=M.cell 4 rfl;have aC:=show Hid _ from P
 clear x M P;go_wp2_with (fail);have D:=L.out.trans (aC.out.mono L.out.size);refine(zg4 sB.oH sA.oH _ _ aT (xV af.out D) (xV ae.out D) aG.out (by have:=ab.out.2;omega)).mono ?_;rintro q aZ ⟨rfl,an⟩;have aD:=show Hid _ from s.out.trans ((D.trans (an.mono D.size)).mono s.out.size)
 clear D an;go_wp2;go_ret;exact⟨rfl,aD.out⟩
theorem zyz (R:∀W,Below w.heap.size w W->Calls Tryz.prog 12 #[tv,.slice lp la lc,.slice hp ha hc,.int .i64 few] W (dU W kA sA a1 a2 a3)) (S:∀W,Below w.heap.size w W->Calls Tryz.prog 12 #[tv,.slice lp la lc,.slice hp ha hc,.int .i64 more] W (dU W kB sB b1 b2 b3)) (aE:¬more<few) (T:a2=0) (l:b2=0) (V:kA≠0) (ak:kB=kA) (an:sB=sA) (a5:sB.oL.length<=1000/\sB.oH.length<=1000) : Calls Tryz.prog 5 #[tv,.slice lp la lc,.slice hp ha hc,.int .i64 few,.int .i64 more] w fun p ao=>p=.returned (.bool true)/\Below w.heap.size w ao:=by
 subst ak an;have ae:=show Hid _ from R
 have af:=show Hid _ from S
 have aC:(a2 != 0)=false:=by simpa using T
 have aD:(b2 != 0)=false:=by simpa using l
 have aF:(kB==0)=false:=by simpa using V
 have K:=show Hid _ from a5
 clear R S T l V a5;go_enter Tryz.func5,Tryz.ntmps5;go_wp2_with (fail);refine(ae.out w (Below.refl _ _)).mono ?_;rintro p a ⟨d,f,c,e,rfl,a7,jA,l⟩;have L:=show Hid (IntsIn a (.slice d sB.oL.length f) sB.oL)from a7
 have M:=show Hid (IntsIn a (.slice c sB.oH.length e) sB.oH)from jA
 have a6:=l.size;have g:BoxC ((a.alloc (.cells #[.int .i64 kB,.slice d sB.oL.length f,.slice c sB.oH.length e,natV sB.uL,natV sB.uH,natV sB.st] 44)).alloc (.cells #[.int .i64 a1,.int .i64 a2,.int .i64 a3] 36)) a.heap.size #[.int .i64 kB,.slice d sB.oL.length f,.slice c sB.oH.length e,natV sB.uL,natV sB.uH,natV sB.st] 44:=(BoxC.new a _ _).alloc _
 have n:BoxC ((a.alloc (.cells #[.int .i64 kB,.slice d sB.oL.length f,.slice c sB.oH.length e,natV sB.uL,natV sB.uH,natV sB.st] 44)).alloc (.cells #[.int .i64 a1,.int .i64 a2,.int .i64 a3] 36)) (a.heap.size+1) #[.int .i64 a1,.int .i64 a2,.int .i64 a3] 36:=by
  have:=BoxC.new (a.alloc (.cells #[.int .i64 kB,.slice d sB.oL.length f,.slice c sB.oH.length e,natV sB.uL,natV sB.uH,natV sB.st] 44)) #[.int .i64 a1,.int .i64 a2,.int .i64 a3] 36;rw[jO]at this;exact this
 have q:Below a.heap.size a ((a.alloc (.cells #[.int .i64 kB,.slice d sB.oL.length f,.slice c sB.oH.length e,natV sB.uL,natV sB.uH,natV sB.st] 44)).alloc (.cells #[.int .i64 a1,.int .i64 a2,.int .i64 a3] 36)):=(bal _).alloc oC _;have am:((a.alloc (.cells #[.int .i64 kB,.slice d sB.oL.length f,.slice c sB.oH.length e,natV sB.uL,natV sB.uH,natV sB.st] 44)).alloc (.cells #[.int .i64 a1,.int .i64 a2,.int .i64 a3] 36)).heap.size=a.heap.size+2:=oC;clear a7 jA;go_wp2_with (fail);generalize (a.alloc (.cells #[.int .i64 kB,.slice d sB.oL.length f,.slice c sB.oH.length e,natV sB.uL,natV sB.uH,natV sB.st] 44)).alloc (.cells #[.int .i64 a1,.int .i64 a2,.int .i64 a3] 36)=ap at *;refine(af.out ap (l.trans (q.mono a6))).mono ?_;rintro p b ⟨i,k,h,j,rfl,a8,jB,m⟩;have ah:=show Hid (IntsIn b (.slice i sB.oL.length k) sB.oL)from a8
 have aj:=show Hid (IntsIn b (.slice h sB.oH.length j) sB.oH)from jB
 have ag:=show Hid (IntsIn b (.slice d sB.oL.length f) sB.oL)from xV L.out (q.trans (m.mono oA))
 have ai:=show Hid (IntsIn b (.slice c sB.oH.length e) sB.oH)from xV M.out (q.trans (m.mono oA))
 have aI:=m.size;have Q:Below w.heap.size w b:=(l.trans (q.mono a6)).trans (m.mono oA);replace g:=g.below m;replace n:=n.below m;have a9:=g.cell 0 rfl;have ay:=g.cell 1 rfl;have aa:=g.cell 2 rfl;have ab:=g.cell 3 rfl;have ac:=g.cell 4 rfl;have az:=g.cell 5 rfl;have av:=n.cell 0 rfl;have aw:=n.cell 1 rfl;have ax:=n.cell 2 rfl;have aG:a.heap.size<b.heap.size:=oA;have aH:a.heap.size+1<b.heap.size:=oA;have C:=show Hid _ from Q
 have aB:=kc44;have aA:=kc36;have D:Hid (BoxC b a.heap.size #[.int .i64 kB,.slice d sB.oL.length f,.slice c sB.oH.length e,natV sB.uL,natV sB.uH,natV sB.st] 44):=g;clear a8 jB g n L M m l q am Q;have B:Below b.heap.size b ((b.alloc (.cells #[.int .i64 kB,.slice i sB.oL.length k,.slice h sB.oH.length j,natV sB.uL,natV sB.uH,natV sB.st] 44)).alloc (.cells #[.int .i64 b1,.int .i64 b2,.int .i64 b3] 36)):=(bal _).alloc oC _;have P:BoxC ((b.alloc (.cells #[.int .i64 kB,.slice i sB.oL.length k,.slice h sB.oH.length j,natV sB.uL,natV sB.uH,natV sB.st] 44)).alloc (.cells #[.int .i64 b1,.int .i64 b2,.int .i64 b3] 36)) b.heap.size #[.int .i64 kB,.slice i sB.oL.length k,.slice h sB.oH.length j,natV sB.uL,natV sB.uH,natV sB.st] 44:=(BoxC.new b _ _).alloc _;have N:=D.out.below B;have s:=show Hid _ from B
 have G:Hid (BoxC ((b.alloc (.cells #[.int .i64 kB,.slice i sB.oL.length k,.slice h sB.oH.length j,natV sB.uL,natV sB.uH,natV sB.st] 44)).alloc (.cells #[.int .i64 b1,.int .i64 b2,.int .i64 b3] 36)) b.heap.size #[.int .i64 kB,.slice i sB.oL.length k,.slice h sB.oH.length j,natV sB.uL,natV sB.uH,natV sB.st] 44):=P;have E:Hid (BoxC ((b.alloc (.cells #[.int .i64 kB,.slice i sB.oL.length k,.slice h sB.oH.length j,natV sB.uL,natV sB.uH,natV sB.st] 44)).alloc (.cells #[.int .i64 b1,.int .i64 b2,.int .i64 b3] 36)) a.heap.size #[.int .i64 kB,.slice d sB.oL.length f,.slice c sB.oH.length e,natV sB.uL,natV sB.uH,natV sB.st] 44):=N;clear B P N D;go_wp2_with (fail);generalize ((b.alloc (.cells #[.int .i64 kB,.slice i sB.oL.length k,.slice h sB.oH.length j,natV sB.uL,natV sB.uH,natV sB.st] 44)).alloc (.cells #[.int .i64 b1,.int .i64 b2,.int .i64 b3] 36))=ar at *;clear a9 ay aa ab ac az av aw ax;refine(zq7 sB.oL _ _ ar (xV ah.out s.out) (xV ag.out s.out) (by have:=K.out.1;omega)).mono ?_;rintro p au ⟨rfl,u⟩;have o:=E.out.below u;have t:=G.out.below u;have a9:=o.cell 0 rfl;have aa:=o.cell 2 rfl;have ab:=o.cell 3 rfl;have ac:=o.cell 4 rfl;have aO:=t.cell 2 rfl;have aP:=t.cell 3 rfl;have aQ:=t.cell 4 rfl;have x:=show Hid _ from u
 clear o t u;go_wp2_with (fail);have r:=s.out.trans (x.out.mono s.out.size);refine(zq7 sB.oH _ _ au (xV aj.out r) (xV ai.out r) (by have:=K.out.2;omega)).mono ?_;rintro p aN ⟨rfl,v⟩;have y:=(E.out.below x.out).below v;have z:=(G.out.below x.out).below v;have aL:=y.cell 3 rfl;have aM:=y.cell 4 rfl;have aJ:=z.cell 3 rfl;have aK:=z.cell 4 rfl;have ad:=show Hid _ from C.out.trans ((r.trans (v.mono r.size)).mono C.out.size)
 clear r v y z;go_wp2;go_ret;exact⟨rfl,ad.out⟩
end
end mdl
namespace ord
open Go.RowKit Go.ChangeShapes Go.WideShapes
open syn face chk
theorem open_strsS {H:Type} {enc:TypeId × Value->H} {W:World} {n:Nat} {v:Value} {x:DataW H × List MemPlace} (a:DataW.trod enc Tryz.prog W 0 (fun _=>true) true n 33 [v]=some x):∃p,zS W v p:=by
 rcases open_strings Tryz.underlying33 Tryz.underlying9 oB a with⟨b,_⟩|⟨h,len,i,c,b,_,r,k,o,_,hc,_⟩
 ·simp only[jq,and_true]at b;exact⟨[],none,0,b,oC,fun a=>absurd rfl a⟩
 ·simp only[jq,and_true]at b;simp only[if_true]at o;have f:(c.take len).length=len:=oE;refine⟨c.take len,some h,i,by rw[f];exact b,by unfold maxLen at k;omega,fun l=>?_⟩
  have m:0<c.length:=by
   rcases Nat.eq_zero_or_pos c.length with a | a
   ·exact absurd (by simp[List.eq_nil_of_length_eq_zero a]) l
   ·exact a
  have d:=hc 0 m;rw[Addr.add,jv rfl]at d;obtain⟨j,q,rfl⟩:=plain_addr d;refine⟨j,q,rfl,fun g hi=>?_⟩;have e:g<c.length:=by rw[f]at hi;omega
  have:=hc g e;rw[add_plain]at this;rw[this];simp[e]
end ord
namespace mdl
open Go.ChangeShapes Go.WideShapes Go.ChangeAt Go.RowKit
open face
section
variable {H:Type} {enc:TypeId × Value->H} {W:World} {n:Nat}
theorem yal:Tryz.prog.cellsOf 2=1:=oB
theorem open_intsL {v:Value} {x:DataW H × List MemPlace} (a:DataW.trod enc Tryz.prog W 0 (fun _=>true) true n 42 [v]=some x):∃l,IntsIn W v l:=by
 rcases open_ints Tryz.underlying42 Tryz.underlying2 yal a with⟨b,_⟩|⟨f,len,g,e,b,_,o,p,j,_,hc,_⟩
 ·simp only[jq,and_true]at b;exact⟨[],none,0,b,oC,fun a=>absurd rfl a⟩
 ·simp only[jq,and_true]at b;simp only[if_true]at j;have c:(e.take len).length=len:=oT;refine⟨e.take len,some f,g,by rw[c];exact b,by rw[c];have:=face.maxLen_le;omega,fun i=>?_⟩
  have q:0<len:=by
   rcases Nat.eq_zero_or_pos len with a | a
   ·subst a;simp at i
   ·exact a
  have d:=hc 0 oA;rw[Addr.add,jv rfl]at d;obtain⟨h,m,rfl⟩:=face.plain_addr d;refine⟨h,m,rfl,fun k hi=>?_⟩;rw[c]at hi;have:=hc k oA;rw[add_plain]at this;rw[this,List.getElem_take,List.getD_eq_getElem?_getD,List.getElem?_eq_getElem oA];rfl
end
theorem longer_walk (w:World) (p:chk.HasAll w) (xs:List ByteArray) (tv t ih:Value) (iL iH:List Int) (few more:Int) (r:zS w tv xs) (h:IntsIn w t iL) (i:IntsIn w ih iH) : Calls Tryz.prog 5 #[tv,t,ih,.int .i64 few,.int .i64 more] w fun e o=>e=.returned (.bool true)/\Below w.heap.size w o:=by
 obtain⟨la,lc,rfl,_⟩:=id h;obtain⟨ha,hc,rfl,_⟩:=id i;by_cases m:more<few;·clear p r h i;go_enter Tryz.func5,Tryz.ntmps5;go_wp2;go_ret;exact⟨rfl,Below.refl _ _⟩
 have s:few<=more:=oA;have q:=fun (fuel:Int) (W:World) (b:Below w.heap.size w W)=>yc5 W xs iL iH fuel tv _ _ (chk.hasAll_below p b) (ord.strs_below r b) (xV h b) (xV i b)
 have D:=q few;have E:=q more;have L:=zsa (xs:=xs) (iL:=iL) (iH:=iH) s;have G:=zw5 (xs:=xs) (iL:=iL) (iH:=iH) s;have K:=zji (xs:=xs) (iL:=iL) (iH:=iH) few;have n:=zji (xs:=xs) (iL:=iL) (iH:=iH) more;generalize zR xs iL iH few=u at *;generalize zR xs iL iH more=v at *;obtain⟨⟨kA,sA⟩,a1,a2,a3⟩:=u;obtain⟨⟨kB,sB⟩,b1,b2,b3⟩:=v;dsimp only at *;have f:∀W,Below w.heap.size w W->Calls Tryz.prog 12 #[tv,.slice la iL.length lc,.slice ha iH.length hc,.int .i64 few] W (dU W kA sA a1 a2 a3):=fun W b=>(D W b).mono fun e o a=>a.toL K
 have g:∀W,Below w.heap.size w W->Calls Tryz.prog 12 #[tv,.slice la iL.length lc,.slice ha iH.length hc,.int .i64 more] W (dU W kB sB b1 b2 b3):=fun W b=>(E W b).mono fun e o a=>a.toL n
 by_cases k:a2≠0\/b2≠0
 ·refine zyx f g m k ?_;rcases L with a | a
  ·simp only[Prod.mk.injEq]at a;exact .inl a
  ·exact .inr a
 have j:a2=0:=Decidable.not_not.1 fun a=>k (.inl a)
 have l:b2=0:=Decidable.not_not.1 fun a=>k (.inr a)
 obtain⟨x,y⟩:=G j l;by_cases d:kA=0;·obtain⟨c,z,B,C⟩:=x d;exact zyy f g m j l d c z B C n
 ·have c:=y d;simp only[Prod.mk.injEq]at c;exact zyz f g m j l d c.1 c.2 n
end mdl
end Go.Proofs.YtbjppepjmcfkaaaGreatDoor
