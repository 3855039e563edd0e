/- What the reference's unary answers, once those that it calls do: a contract. -/
import Derived.Test.YtjkcecppnmlhjaaGreatDoorNQr
import Derived.WalkLawsBesides
import Derived.Test.YtjkcecppnmlhjaaGreatDoorNQ00
import Derived.BigQuiet
import Derived.Lib.Bytealg
import Derived.Test.YtjkcecppnmlhjaaGreatDoorNQ02
open Go.Proofs.Tryz
open Go.Value renaming int → U, string → I, slice → J, bool → Y, agg → Za, pointer → Zp
open Go.IntKind renaming i64 → O
open Go.Obj renaming cells → Zc
open Go.Addr renaming mk → A
open Option renaming none → F, some → Z
open Bool renaming false → X
open Go renaming World → Zw, Value → Zv
set_option maxHeartbeats 4000000
set_option linter.unusedVariables false
namespace Go.Proofs.YtjkcecppnmlhjaaGreatDoor
theorem oz03x14 {i:Prop} (f:i:=by
 go_wp2_with (go_at_call 94;refine(zrv a q m.out (zgz k) o.out _ y).mono ?_;rintro j B ⟨K,D,C,rfl,p⟩);go_ret
 exact⟨fE n.out.symm,p⟩):i:=f
theorem oz03x15 {i:Prop} (f:i:=by
 go_wp2_with (go_at_call 94;refine(parse_ok a q m.out (zgz k) o.out _).mono ?_;rintro j B ⟨rfl,p⟩);go_ret
 exact⟨fE n.out.symm,p⟩):i:=f
theorem oz03y18 {a:Prop} (c:a:=by
 rw[h];exact e):a:=c
theorem oz03y19 {j:Prop} (c:j:=by
 first | exact .inl ‹_› | exact .inr oA):j:=c
theorem oz03x16 {e:Prop} (c:e:=by
 go_wp2
 go_quiet (fail)
 go_wp2;go_ret
 exact⟨rfl,_,rfl⟩):e:=c
theorem oz03x12 {C:Prop} (d:C:=by
 go_enter func24,ntmps24;go_wp2_with (go_at_call 53;refine(uT _ _).mono ?_;rintro k l ⟨rfl,f⟩;obtain rfl:=f.symm);go_ret
 exact⟨rfl,Below.refl _ _⟩):C:=d
theorem zdt {E:Prop} (i:E:=by
 go_enter func61,ntmps61;go_wp2
 go_quiet (fail)
 go_wp2;refine jT (v:=fR 0) (by simp[results,results61,go_sem,fR,empty]) rfl ⟨rfl,?_,?_⟩;·exact((((d.alloc _).alloc _).drewN _).setBad).put4 (d.old (jE _)).1 (d.old (jE _)).2 _ _ _ _
 ·exact(((((Fr.refl _ _).alloc _).alloc _).drewN _).set _ _).put4 (jE _) _ _ _ _):E:=i
theorem oz03y20 {h:Prop} (e:h:=by
 simp[results,results143,go_sem,D,E,G,K,aF,empty]):h:=e
theorem zpv {h:Prop} (e:h:=by
 rintro c bc ⟨bb,rfl,az,aN,ax⟩;obtain⟨a7,b0,a8,_,rfl,aL,aS,aM,rfl⟩:=az.shape;obtain⟨D,E,G,K,ag,ah,ai,aj⟩:=(an.drewN a9).fr ax oA;go_wp2
 exact jT (v:=Za #[U O a7,I b0,U O a8,J aL aS aM]) (by simp[results,results143,go_sem,D,E,G,K]) rfl
  (Ans.fin i (((o.drewN _).trans (m.drewN a9)).trans ax) aN an.lt az)):h:=e
theorem zpw {h:Prop} (e:h:=by
 go_wp2
 go_quiet (fail)
 go_wp2_with (fail);refine(ad (b.drewN _)).mono ?_;rintro c ap ⟨rfl,t,m⟩;have an:=(f.drewN _).fr m oA;go_wp2_with (fail);refine(ac t).mono ?_;rintro c aX ⟨rfl,a9,rfl⟩;go_wp2_with (fail);refine(aQ _ (t.drewN a9) a).mono ?_
 exact zpv):h:=e
theorem zpx {h:Prop} (e:h:=by
 go_wp2
 go_quiet (fail)
 go_wp2_with (fail);refine(ad (b.drewN _)).mono ?_;rintro c ap ⟨rfl,t,m⟩;have an:=(f.drewN _).fr m oA;go_wp2_with (fail);refine(ac t).mono ?_;rintro c aX ⟨rfl,a9,rfl⟩;go_wp2_with (fail);refine(aR _ (t.drewN a9) a).mono ?_
 exact zpv):h:=e
theorem znc {h:Prop} (e:h:=by
 exact Ans.row (((o.trans W).put4 (jE _) _ _ _ _).alloc _) ((aA.put4 (i.old (jE _)).1 (i.old (jE _)).2 _ _ _ _).alloc _)
  (((ab.fr (show w.heap.size<a3.heap.size by omega) (Fr.put _ _ _ _ _ _)).fr (r:=r) oA (Fr.al _ _)).low oA) oB):h:=e
theorem oz03x17 {d:Prop} (e:d:=by
 go_wp2
 all_goals
  go_ret
  exact⟨ret_bool (by first | rfl | (rw[Bool.eq_iff_iff];simp<;>omega) | (simp_all)),rfl⟩):d:=e
theorem oz03x11 {r:Prop} (i:r:=by
 go_round
 case rel=>exact⟨a+1,oA,oA,oJ,fun b i l q=>by
  rcases jL b a with m | m
  ·exact j.out b i l m
  ·have:b=a:=oA;subst this
   exact h⟩
 case measure=>simp[intOf];omega):r:=i
theorem oz03x13 {r:Prop} (i:r:=by
 go_ret
 exact⟨a,rfl,⟨n,o,j.out,.inl oA⟩,rfl⟩):r:=i
namespace lexs
open Go.RowKit
variable {a b d m:Nat} {o:List Zv} {q t:Obj} {u x:Int} {y:List Tok}
theorem ret_bool {a b:Bool} (c:a=b):Ending.returned (Y a)=.returned (Y b):=by rw[c]
theorem fE (a:u=x):Ending.returned (U O u)=.returned (U O x):=by rw[a]
/-! ### numeral's ways -/
theorem getL (s:ByteArray) (a:Nat) (b:a<s.size):s.data.toList[a]'(by simpa using b)=s[a]:=rfl
theorem zak (s:ByteArray):s.data.toList.length=s.size:=oB
theorem zm7 (s:ByteArray) (a:Nat) (b:a<s.size) (c:zL (s[a].toNat:Int)=X):2=numE s.data.toList:=by
 have:s.data.toList.all kX=X:=by
  rw[List.all_eq_false];exact⟨s[a],by rw[<- getL s a b];exact jH _,by unfold kX;simp[c]⟩
 unfold numE;rw[jv this]
theorem zwd (s:ByteArray) (a:Nat) (b:a<s.size) (d:zL (s[a].toNat:Int)=true) (c:(s.data.toList.take a).all kX=true):(s.data.toList.take (a+1)).all kX=true:=by
 rw[List.take_succ_eq_append_getElem (by simpa using b),List.all_append,c,getL s a b];simp[kX,d]
theorem headL (s:ByteArray) (b:0<s.size):s.data.toList.headD 0=s[0]:=by
 rw[<- getL s 0 b];have:s.data.toList≠[]:=by intro a;have:=zak s;rw[a]at this;simp at this;omega
 obtain⟨c,r,a⟩:=List.exists_cons_of_ne_nil this;simp only[a,List.headD_cons,jI]
theorem zzc (a b:UInt8) (d:Int) (e:d=(b.toNat:Int)):((a.toNat:Int)==d)=(a==b):=by
 subst e;rw[Bool.eq_iff_iff];simp only[beq_iff_eq];constructor;·intro c;exact UInt8.toNat_inj.1 oA
 ·intro c;rw[c]
theorem zcs (s:ByteArray) (a:0<s.size) (b:s.data.toList.all kX=true):numE s.data.toList = if decide (1<s.size)&&(s[0].toNat:Int)==48 then 2 else if decide (19<s.size)||(s.size==19&&(!Op.bytesLess s.toList kD&&!(s.toList==kD)))then 6 else 0:=by
 unfold numE;rw[ju (by simp[b]),headL s a,zak,ByteArray.toList_eq,zzc _ 48 48 rfl]
theorem nA {s:ByteArray} (a:0<s.size) (c:s.data.toList.all kX=true) (d:(1:Int)<(s.size:Int)) (b:((s[0].toNat:Int)==48)=true):2=numE s.data.toList:=by
 rw[zcs s a c,b,jv oE]
theorem nz {s:ByteArray} (c:0<s.size) (b:((s[0].toNat:Int)==48)=X\/(s.size:Int)<=1):¬(decide (1<s.size)&&(s[0].toNat:Int)==48)=true:=by
 rcases b with a | a
 ·simp[a]
 ·simp;omega
theorem nB {s:ByteArray} (a:0<s.size) (b:s.data.toList.all kX=true) (c:((s[0].toNat:Int)==48)=X\/(s.size:Int)<=1) (d:(19:Int)<(s.size:Int)):6=numE s.data.toList:=by
 rw[zcs s a b,ju (nz a c),jv oE]
theorem nC {s:ByteArray} (a:0<s.size) (d:s.data.toList.all kX=true) (e:((s[0].toNat:Int)==48)=X\/(s.size:Int)<=1) (f:(s.size:Int)=19) (b:(!Op.bytesLess s.toList kD)=true/\(!(s.toList==kD))=true):6=numE s.data.toList:=by
 have c:s.size=19:=oA;rw[zcs s a d,ju (nz a e),jv (by rw[c,b.1,b.2];rfl)]
theorem nD {s:ByteArray} (b:0<s.size) (c:s.data.toList.all kX=true) (e:((s[0].toNat:Int)==48)=X\/(s.size:Int)<=1) (f:(s.size:Int)<=19) (d:¬(s.size:Int)=19\/((!Op.bytesLess s.toList kD)=X\/(!(s.toList==kD))=X)):0=numE s.data.toList:=by
 rw[zcs s b c,ju (nz b e),ju];have:¬ 19<s.size:=oA;simp only[this,decide_false,Bool.false_or];rcases d with a | a | a
 ·have:(s.size==19)=X:=oE;simp[this]
 ·rw[a];simp
 ·rw[a];simp
def sgL (k:Nat):List UInt8:=if k=0 then[61,61] else[uO.getD (k - 1) 0]
def sg (k:Nat):ByteArray:=⟨(sgL k).toArray⟩
theorem zyw (a:Nat):(sg a).size<=2:=by unfold sg sgL;split<;>simp[ByteArray.size]
theorem yai (a:Nat):0<(sg a).size:=by unfold sg sgL;split<;>simp[ByteArray.size]
theorem zbc (c:TypeId) (d:prog.underlying c=Z .string) (s:ByteArray) (a b:Nat) (e:a+b<=s.size) (w:Zw) : (Instr.slice c (.string s) (Z (U O (a:Int))) (Z (U O ((a:Int)+(b:Int)))) F).run prog w=.ok (.string (s.extract a (a+b))) w:=by
 have:=run_slice_string (P:=prog) (w:=w) c s O O (a:Int) ((a:Int)+(b:Int)) d oA oA oA;rw[this];simp only[Int.toNat_natCast]
 congr 4
theorem getD_at (b:List UInt8) (a:Nat) (c:a<b.length):b.getD a 0=b[a]:=by simp[List.getD,c]
def uW (l:List UInt8) (k:Nat):Bool:=(sgL k).isPrefixOf l
theorem zqu (a:UInt8) (c:a≠0) (b:List UInt8):[a].isPrefixOf b=(b.headD 0==a):=by
 cases b with
 | nil=>simp[List.isPrefixOf,c.symm]
 | cons d r=>simp[List.isPrefixOf,Bool.beq_comm]
theorem zhh (a:List UInt8):[61,61].isPrefixOf a=(a.headD 0==61&&(a.drop 1).headD 0==61):=by
 rcases a with _ | ⟨b,_ | ⟨c,r⟩⟩<;>simp[List.isPrefixOf,Bool.beq_comm]
theorem zka:∀a,a<19->uO.getD a 0≠0:=oC
theorem zrf (c:List UInt8) (a:Nat) (j:a<20) (f:∀h,h<a->uW c h=X) (b:uW c a=true):yR c=(sgL a).length:=by
 unfold uW at f b;unfold yR;by_cases e:a=0;·subst e;have:sgL 0=[61,61]:=rfl;rw[this,zhh]at b;rw[jv b,this];rfl
 ·have d:=f 0 oA;have:sgL 0=[61,61]:=rfl;rw[this,zhh]at d;have g:sgL a=[uO.getD (a - 1) 0]:=by unfold sgL;rw[ju e]
  rw[g,zqu _ (zka _ oA)]at b
  have i:uO.contains (c.headD 0)=true:=by
   rw[beq_iff_eq.1 b,List.contains_iff_mem,getD_at _ _ (show a - 1<19 by omega)];exact jH _
  rw[ju (by rw[d];simp),jv i,g];rfl
theorem zr0 (g:List UInt8) (b:∀a,a<20->uW g a=X):yR g=0:=by
 unfold uW at b;unfold yR;have c:=b 0 oA;have:sgL 0=[61,61]:=rfl;rw[this,zhh]at c;rw[ju (by rw[c];simp),ju];intro e;rw[List.contains_iff_mem]at e;obtain⟨a,d,h⟩:=List.mem_iff_getElem.1 e;have i:a<19:=d;have f:=b (a+1) oA;have j:sgL (a+1)=[uO.getD a 0]:=rfl;rw[j,zqu _ (zka _ i),getD_at _ _ d,h]at f;simp at f
theorem zo0 (a:Nat):(sg a).data.toList=sgL a:=by simp[sg]
theorem zs7 (s:ByteArray) (b d:Nat) (hi:b<=s.size) (a:ByteArray) (h:a=sg d):uW (s.data.toList.drop b) d=true ↔ b+a.size<=s.size/\((s.extract b (b+a.size)).toList==a.toList)=true:=by
 have e:a.data.toList=sgL d:=by rw[h,zo0]
 have g:a.size=(sgL d).length:=by rw[<- e,zak]
 unfold uW;rw[List.isPrefixOf_iff_prefix,List.prefix_iff_eq_take,beq_iff_eq,Lib.extract_toList,ByteArray.toList_eq,e,g,Nat.add_sub_cancel_left];constructor;·intro c;refine⟨?_,c.symm⟩;have f:=congrArg List.length c;rw[List.length_take,List.length_drop,zak]at f;omega
 ·intro c;exact c.2.symm
theorem zo7:(prog.info? 76).map (fun a=>(a.zero,a.size,a.bytes))=Z (Z (Za #[U O 0,I ⟨#[]⟩,U O 0]),3,32):=oD
theorem boxes {w wr:Zw} {b c:Zv} {d:TypeId} (a:Below (w.heap.size+1) (w.alloc (Zc #[b,c] d)) wr) : wr.cell? (A w.heap.size 0 F)=Z b/\wr.cell? (A w.heap.size 1 F)=Z c/\wr.frozen? (A w.heap.size 0 F)=X/\wr.frozen? (A w.heap.size 1 F)=X/\w.heap.size+1<=wr.heap.size:=by
 refine⟨?_,?_,?_,?_,?_⟩;·rw[a.cell (p:=(A w.heap.size 0 F)) oB];simp
 ·rw[a.cell (p:=(A w.heap.size 1 F)) oB];simp
 ·rw[a.frozen (p:=(A w.heap.size 0 F)) oB];simp
 ·rw[a.frozen (p:=(A w.heap.size 1 F)) oB];simp
 ·have:=a.size;simpa using this
theorem zbz (w:Zw) (d e f:Zv) (i:TypeId) (g:Nat) (h:g=w.heap.size):∀b c,[d,e,f][b]?=Z c->(w.alloc (Zc #[d,e,f] i)).cell? (((A g 0 F):Addr).add b)=Z c:=by
 subst h;intro b c a
 match b,a with
 | 0,a=>simp at a;subst a;simp[Addr.add]
 | 1,a=>simp at a;subst a;simp[Addr.add]
 | 2,a=>simp at a;subst a;simp[Addr.add]
theorem zcg (c d:Int) (e:ByteArray):∀b∈[Value.int O c,I e,U O d],b.oneCell'=true:=by
 intro b a;simp at a;rcases a with rfl | rfl | rfl<;>rfl
theorem zdm {e c f:Zw} {g:TypeId} {v:Zv} (i:Below (a+1) e c) (h:a+1<=c.heap.size) (l:c.ownsRow (a+1) g b v d o) (j:c.grownBy f v.ownBlock):Below (a+1) e f :=
 i.grown j h fun m k=>(l.lt _ k).1
theorem dT {w wr:Zw} (a:Below (w.heap.size+1) (w.alloc q) wr):Below w.heap.size w wr :=
 (bal q).trans (a.mono oA)
theorem ownsRow_le {w:Zw} {b c size e:Nat} {d:TypeId} {v:Zv} (i:w.ownsRow b d size v e o) (m:c<=b):w.ownsRow c d size v e o:=by
 obtain⟨j,a⟩:=i;refine⟨j,?_⟩;rcases a with a | ⟨h,f,g,l,n,k,r⟩
 ·exact Or.inl a
 ·exact Or.inr ⟨h,f,g,l,oA,k,r⟩
theorem znb {w:Zw} {c:TypeId} {v:Zv} {s:ByteArray} (e:w.ownsRow a c 3 v (y.length+1) (cellsOf y++[U O u,I (s.extract b (b+d)),U O (b:Int)])) : w.ownsRow a c 3 v (y++[(⟨u,(s.data.toList.drop b).take d,b⟩:Tok)]).length (cellsOf (y++[⟨u,(s.data.toList.drop b).take d,b⟩])):=by
 rw[zq3,<- zsd,jb];exact e
theorem zmw {s:ByteArray} (d:a<s.size) (c:zL (s[a].toNat:Int)=true) (e:run kN (s.data.toList.drop a)=b):0<b:=by
 rw[<- e,drop_cons s a d];exact zbn _ _ _ (zer c)
theorem own_below {e:TypeId} {v:Zv} {w f:Zw} (g:w.ownsRow a e b v d o) (c:Below w.heap.size w f):f.ownsRow a e b v d o :=
 g.kept (row:=F) ⟨c.os,c.tape,c.output,c.size,fun i h _=>c.block i h⟩ (by cases j:v.ownBlock<;>simp)
theorem own_ne {w:Zw} {c:TypeId} {v:Zv} (e:w.ownsRow a c b v d o) {g:Option Nat}:v.ownBlock≠Z (⟨w.heap.size,m,g⟩:Addr).block:=by
 intro f;have:=(e.lt _ f).2;simp at this
theorem zs5 {s c:ByteArray} {w wr e:Zw} {g:TypeId} {v:Zv} (n:a<s.size) (l:wr.ownsRow (w.heap.size+1) g 3 v b o) (k:Below (w.heap.size+1) (w.alloc q) wr) (m:w.heap.size+1<=wr.heap.size) (j:c.size=yR (s.data.toList.drop a)) (d:Below (wr.alloc t).heap.size (wr.alloc t) e) : (∀c q,c<wr.heap.size+1->e.cell? (A c q F)=(wr.alloc t).cell? (A c q F))/\(∀c q,c<wr.heap.size+1->e.frozen? (A c q F)=(wr.alloc t).frozen? (A c q F))/\wr.heap.size+1<=e.heap.size /\ Hid (yR (s.data.toList.drop a)=c.size)/\a+c.size<=s.size /\ (∀w,(Instr.slice 9 (I s) (Z (U O (a:Int))) (Z (U O ((a:Int)+(c.size:Int)))) F).run prog w=.ok (I (s.extract a (a+c.size))) w) /\ Hid (e.ownsRow (w.heap.size+1) g 3 v b o/\Below (w.heap.size+1) (w.alloc q) e):=by
 have i:=d.size;rw[jO]at i d
 have h:a+c.size<=s.size:=by
  have:=zik (s.data.toList.drop a);rw[List.length_drop,len_L]at this;omega
 refine⟨fun c q f=>d.cell (p:=(A c q F)) f,fun c q f=>d.frozen (p:=(A c q F)) f,i,j.symm,h,zbc 9 underlying9 s a c.size h,?_,?_⟩;·exact own_below (l.alloc _) (by rw[jO];exact d)
 ·exact(k.alloc oA _).trans (d.mono oA)
theorem ych {s:ByteArray} {h:Res} {i f:Zw} {j:TypeId} {v:Zv} (p:a<s.size) (r:y.length<=a) (t:s.size<=a+(d+1)) (q:kU (s.data.toList.drop a)=.tok u b) (l:qH (d+1) (s.data.toList.drop a) a y=h) (o:f.ownsRow (m+1) j 3 v (y.length+1) (cellsOf y++[U O u,I (s.extract a (a+b)),U O (a:Int)])) (n:Below (m+1) i f) : 0<b/\∃(c k:Nat) (e:List Tok),c<=s.size/\Value.int O ((a:Int)+(b:Int))=U O (c:Int)/\s.size<=c+k/\Hid (qH k (s.data.toList.drop c) c e=h)/\f.ownsRow (m+1) j 3 v e.length (cellsOf e)/\e.length<=c/\Below (m+1) i f:=by
 have g:=zpj p q l;exact⟨g.2.1,a+b,d,y++[(⟨u,(s.data.toList.drop a).take b,a⟩:Tok)],g.2.2,by rw[Int.natCast_add],oA,by exact g.1,znb o,oL,n⟩
theorem dE (a:Int) (w:Zw) : Calls prog 73 #[U .u8 a] w fun b c=>b=.returned (Y (qB a))/\c=w:=by
 go_enter func73,ntmps73;go_wp2
 all_goals
  go_ret;exact⟨ret_bool (by rw[Bool.eq_iff_iff];simp[qB]<;>omega),rfl⟩
theorem fJ (a:Int) (w:Zw) : Calls prog 74 #[U .u8 a] w fun b c=>b=.returned (Y (zL a))/\c=w:=by
 go_enter func74,ntmps74;go_wp2
 all_goals
  go_ret;exact⟨ret_bool (by rw[Bool.eq_iff_iff];simp[zL]<;>omega),rfl⟩
theorem zg1 (a:Int) (w:Zw) : Calls prog 71 #[U .u8 a] w fun b c=>b=.returned (Y (a==32||a==10))/\c=w:=by
 go_enter func71,ntmps71;exact oz03x17
theorem zg2 (a:Int) (w:Zw) : Calls prog 72 #[U .u8 a] w fun b c=>b=.returned (Y (a != 10))/\c=w:=by
 go_enter func72,ntmps72;exact oz03x17
theorem ze8 (a:Int) (w:Zw) : Calls prog 75 #[U .u8 a] w fun b c=>b=.returned (Y (zF a))/\c=w:=by
 cases d:qB a<;>cases e:zL a
 all_goals
  go_enter func75,ntmps75;go_wp2_with (first | (go_at_call 73;refine(dE _ _).mono ?_;rintro b c ⟨rfl,rfl⟩) | (go_at_call 74;refine(fJ _ _).mono ?_;rintro b c ⟨rfl,rfl⟩));go_ret;exact⟨ret_bool (by unfold zF;rw[d,e];simp),rfl⟩
structure Stops (P:UInt8->Bool) (s:ByteArray) (i j:Nat):Prop where
 le:i<=j
 top:j<=s.size
 all:∀k (h:k<s.size),i<=k->k<j->P s[k]=true
 stop:j=s.size\/∃h:j<s.size,P s[j]=X
theorem Stops.run {d:UInt8->Bool} {s:ByteArray} (c:Stops d s a b):run d (s.data.toList.drop a)=b - a:=by
 have e:a+(b - a)=b:=by have:=c.le;omega
 exact fL d s a (b - a) (by have:=c.top;omega) (fun h g f i=>c.all h g f oA) (by simp only[e];exact c.stop)
set_option maxRecDepth 100000 in
theorem zrx (s:ByteArray) (c:Nat) (t:s.size<=3000) (hi:c<=s.size) (w:Zw) : Calls prog 42 #[I s,U O c,.func (.func 74) #[] #[]] w fun e f=>∃a:Nat,e=.returned (U O a)/\Stops kX s c a/\f=w:=by
 go_enter func42,ntmps42;go_wp2;go_loop [1] (fun g=>∃a:Nat,c<=a/\a<=s.size/\g=U O a/\Hid (∀b (i:b<s.size),c<=b->b<a->kX s[b]=true)) (fun g=>s.size - (intOf g).toNat)
 case atStart=>exact⟨c,oA,hi,rfl,fun b _ l q=>oA⟩
 case round =>
  obtain⟨a,n,o,rfl,j⟩:=hrel;by_cases p:a<s.size
  ·cases h:zL (s[a].toNat:Int);·go_wp2_with (go_at_call 74;refine(fJ _ _).mono ?_;rintro e f ⟨rfl,d⟩;obtain rfl:=d.symm);go_ret;exact⟨a,rfl,⟨n,o,j.out,.inr ⟨p,by exact h⟩⟩,rfl⟩
   ·go_wp2_with (go_at_call 74;refine(fJ _ _).mono ?_;rintro e f ⟨rfl,d⟩;obtain rfl:=d.symm);exact oz03x11
  ·go_wp2_with (go_at_call 74;refine(fJ _ _).mono ?_;rintro e f ⟨rfl,d⟩;obtain rfl:=d.symm);exact oz03x13
set_option maxRecDepth 100000 in
theorem zrc (s:ByteArray) (c:Nat) (t:s.size<=3000) (hi:c<=s.size) (w:Zw) : Calls prog 42 #[I s,U O c,.func (.func 75) #[] #[]] w fun e f=>∃a:Nat,e=.returned (U O a)/\Stops kN s c a/\f=w:=by
 go_enter func42,ntmps42;go_wp2;go_loop [1] (fun g=>∃a:Nat,c<=a/\a<=s.size/\g=U O a/\Hid (∀b (i:b<s.size),c<=b->b<a->kN s[b]=true)) (fun g=>s.size - (intOf g).toNat)
 case atStart=>exact⟨c,oA,hi,rfl,fun b _ l q=>oA⟩
 case round =>
  obtain⟨a,n,o,rfl,j⟩:=hrel;by_cases p:a<s.size
  ·cases h:zF (s[a].toNat:Int);·go_wp2_with (go_at_call 75;refine(ze8 _ _).mono ?_;rintro e f ⟨rfl,d⟩;obtain rfl:=d.symm);go_ret;exact⟨a,rfl,⟨n,o,j.out,.inr ⟨p,by exact h⟩⟩,rfl⟩
   ·go_wp2_with (go_at_call 75;refine(ze8 _ _).mono ?_;rintro e f ⟨rfl,d⟩;obtain rfl:=d.symm);exact oz03x11
  ·go_wp2_with (go_at_call 75;refine(ze8 _ _).mono ?_;rintro e f ⟨rfl,d⟩;obtain rfl:=d.symm);exact oz03x13
theorem zcm (a:UInt8):((a.toNat:Int)==32||(a.toNat:Int)==10)=(a==32||a==10):=by rw[xP _ 32 32 rfl,xP _ 10 10 rfl]
theorem zj7 (a:UInt8):((a.toNat:Int) != 10)=(a != 10):=by rw[bne,xP _ 10 10 rfl];rfl
set_option maxRecDepth 100000 in
theorem zrw (s:ByteArray) (c:Nat) (t:s.size<=3000) (hi:c<=s.size) (w:Zw) : Calls prog 42 #[I s,U O c,.func (.func 71) #[] #[]] w fun e f=>∃a:Nat,e=.returned (U O a)/\Stops (fun k=>k==32||k==10) s c a/\f=w:=by
 go_enter func42,ntmps42;go_wp2;go_loop [1] (fun g=>∃a:Nat,c<=a/\a<=s.size/\g=U O a/\Hid (∀b (i:b<s.size),c<=b->b<a->(fun k=>k==32||k==10) s[b]=true)) (fun g=>s.size - (intOf g).toNat)
 case atStart=>exact⟨c,oA,hi,rfl,fun b _ l q=>oA⟩
 case round =>
  obtain⟨a,n,o,rfl,j⟩:=hrel;by_cases p:a<s.size
  ·cases h:((s[a].toNat:Int)==32||(s[a].toNat:Int)==10);·go_wp2_with (go_at_call 71;refine(zg1 _ _).mono ?_;rintro e f ⟨rfl,d⟩;obtain rfl:=d.symm);go_ret;exact⟨a,rfl,⟨n,o,j.out,.inr ⟨p,by rw[zcm]at h;exact h⟩⟩,rfl⟩
   ·go_wp2_with (go_at_call 71;refine(zg1 _ _).mono ?_;rintro e f ⟨rfl,d⟩;obtain rfl:=d.symm)
    go_round
    case rel=>exact⟨a+1,oA,oA,oJ,fun b i l q=>by
     rcases jL b a with m | m
     ·exact j.out b i l m
     ·have:b=a:=oA;subst this
      rw[zcm]at h;exact h⟩
    case measure=>simp[intOf];omega
  ·go_wp2_with (go_at_call 71;refine(zg1 _ _).mono ?_;rintro e f ⟨rfl,d⟩;obtain rfl:=d.symm);exact oz03x13
set_option maxRecDepth 100000 in
theorem zry (s:ByteArray) (c:Nat) (t:s.size<=3000) (hi:c<=s.size) (w:Zw) : Calls prog 42 #[I s,U O c,.func (.func 72) #[] #[]] w fun e f=>∃a:Nat,e=.returned (U O a)/\Stops (fun k=>k != 10) s c a/\f=w:=by
 go_enter func42,ntmps42;go_wp2;go_loop [1] (fun g=>∃a:Nat,c<=a/\a<=s.size/\g=U O a/\Hid (∀b (i:b<s.size),c<=b->b<a->(fun k=>k != 10) s[b]=true)) (fun g=>s.size - (intOf g).toNat)
 case atStart=>exact⟨c,oA,hi,rfl,fun b _ l q=>oA⟩
 case round =>
  obtain⟨a,n,o,rfl,j⟩:=hrel;by_cases p:a<s.size
  ·cases h:((s[a].toNat:Int) != 10);·go_wp2_with (go_at_call 72;refine(zg2 _ _).mono ?_;rintro e f ⟨rfl,d⟩;obtain rfl:=d.symm);go_ret;exact⟨a,rfl,⟨n,o,j.out,.inr ⟨p,by rw[zj7]at h;exact h⟩⟩,rfl⟩
   ·go_wp2_with (go_at_call 72;refine(zg2 _ _).mono ?_;rintro e f ⟨rfl,d⟩;obtain rfl:=d.symm)
    go_round
    case rel=>exact⟨a+1,oA,oA,oJ,fun b i l q=>by
     rcases jL b a with m | m
     ·exact j.out b i l m
     ·have:b=a:=oA;subst this
      rw[zj7]at h;exact h⟩
    case measure=>simp[intOf];omega
  ·go_wp2_with (go_at_call 72;refine(zg2 _ _).mono ?_;rintro e f ⟨rfl,d⟩;obtain rfl:=d.symm);exact oz03x13
/-! ### what is passed by -/
structure Goes (s:ByteArray) (p j:Nat):Prop where
 le:p<=j
 top:j<=s.size
 on:∀(f:Nat) (acc:List Tok) (R:Res),s.size<=p+f->qH f (s.data.toList.drop p) p acc=R->∃f',s.size<=j+f'/\qH f' (s.data.toList.drop j) j acc=R
theorem Goes.rfl' {s:ByteArray} (c:a<=s.size):Goes s a a:=⟨jE _,c,fun b f R d e=>⟨b,d,e⟩⟩
theorem Goes.trans {s:ByteArray} (g:Goes s a b) (c:Goes s b d):Goes s a d :=
 ⟨jp g.le c.le,c.top,fun l f e h j=>by
  obtain⟨m,i,k⟩:=g.on l f e h j
  exact c.on m f e i k⟩
theorem ziy {s:ByteArray} (f:a<s.size) (d:kU (s.data.toList.drop a)=.skip b):Goes s a (a+b)/\0<b:=by
 have e:=go_skip f (f:=0) (acc:=[]) d rfl;refine⟨⟨oA,e.2.2,fun c g R k h=>?_⟩,e.2.1⟩;obtain⟨c,rfl⟩:∃i,c=i+1:=⟨c - 1,oA⟩
 have j:=go_skip f d h;exact⟨c,oA,j.1⟩
theorem zrp {s:ByteArray} (e:Stops (fun f=>f==32||f==10) s a b):Goes s a b:=by
 obtain⟨c,rfl⟩:∃c,b=a+c:=⟨b - a,by have:=e.le;omega⟩
 have j:∀c,a+c<=s.size->(∀d (e:d<s.size),a<=d->d<a+c->(s[d]==32||s[d]==10)=true)->Goes s a (a+c):=by
  intro c
  induction c with
  | zero=>intro g _;exact Goes.rfl' g
  | succ c ih =>
   intro g h;have l:=ih oA (fun d m k f=>h d m k oA);have i:=h (a+c) oA oA oA;rw[<- zcm,Bool.or_eq_true]at i;exact l.trans (ziy oA (zft oA i)).1
 exact j c e.top e.all
theorem ztr {s:ByteArray} (f:a<s.size) (e:((s[a].toNat:Int)==35)=true) (d:Stops (fun h=>h != 10) s a b):Goes s a b/\a<b:=by
 have g:(s[a].toNat:Int)=35:=by simpa using e
 have j:=zo3 f (by rw[g];rfl) (by rw[g];rfl) e d.run;have c:=ziy f j;have k:=d.le;have i:a+(b - a)=b:=oA;rw[i]at c;exact⟨c.1,oA⟩
set_option maxRecDepth 100000 in
theorem zml (s:ByteArray) (c:Nat) (p:s.size<=3000) (hi:c<=s.size) (w:Zw) : Calls prog 41 #[I s,U O c] w fun g l=>∃a:Nat,g=.returned (U O a)/\Goes s c a/\(∀d:a<s.size,((s[a].toNat:Int)==32)=X/\((s[a].toNat:Int)==10)=X/\((s[a].toNat:Int)==35)=X)/\l=w:=by
 go_enter func41,ntmps41;go_wp2;go_loop [1] (fun k=>∃a:Nat,a<=s.size/\k=U O a/\Hid (Goes s c a)) (fun k=>s.size - (intOf k).toNat)
 case atStart=>exact⟨c,hi,rfl,Goes.rfl' hi⟩
 case round =>
  obtain⟨a,u,rfl,r⟩:=hrel;go_wp2_with (fail);refine(zrw s a p u _).mono ?_;rintro g l ⟨b,rfl,e,j⟩;obtain rfl:=j.symm;have f:Hid (Goes s c b):=r.out.trans (zrp e);have z:=e.le;have x:=e.top;have HS:=e.stop;by_cases o:b<s.size
  ·have m:Hid (((s[b].toNat:Int)==32)=X/\((s[b].toNat:Int)==10)=X):=by
    rcases HS with d | ⟨_,d⟩
    ·omega
    ·rw[<- zcm,Bool.or_eq_false_iff]at d;exact d
   clear HS e;cases n:((s[b].toNat:Int) != 35)
   case true =>
    go_wp2;go_ret;exact⟨b,rfl,f.out,fun _=>⟨m.out.1,m.out.2,by simpa[bne] using n⟩,rfl⟩
   case false =>
    go_wp2_with (fail);refine(zry s b p x _).mono ?_;rintro g l ⟨q,rfl,i,j⟩;obtain rfl:=j.symm;have h:=ztr o (by simpa[bne] using n) i;have t:Hid (Goes s c q):=f.out.trans h.1;have B:=h.2;have y:=i.top;clear i h;go_wp2
    go_round
    case rel=>exact⟨q,y,rfl,t.out⟩
    case measure=>simp[intOf];omega
  ·have v:b=s.size:=oA;subst v;clear HS e;go_wp2;go_ret;exact⟨s.size,rfl,f.out,fun d=>absurd d o,rfl⟩
theorem zr5 (a:Int) (e:(qB a||zL a)=true) (w:Zw) : Calls prog 43 #[U .u8 a] w fun b d=>b=.returned (.func (.func 75) #[] #[])/\Below w.heap.size w d:=by
 cases f:qB a<;>cases g:zL a
 case false.false=>simp[f,g]at e
 all_goals
  go_enter func43,ntmps43;go_wp2_with (first | (go_at_call 73;refine(dE _ _).mono ?_;rintro b d ⟨rfl,c⟩;obtain rfl:=c.symm) | (go_at_call 74;refine(fJ _ _).mono ?_;rintro b d ⟨rfl,c⟩;obtain rfl:=c.symm));go_ret;exact⟨rfl,bal _⟩
def Boxed (w w':Zw) (c:Int):Prop:=w'.cell? (A (w.heap.size+1) 0 F)=Z (U O 1)/\w'.cell? (A w.heap.size 0 F)=Z (U .u8 c)/\w'.frozen? (A (w.heap.size+1) 0 F)=X/\Below w.heap.size w w'
theorem zri (a:Int) (g:qB a=X) (h:zL a=X) (w:Zw) : Calls prog 43 #[U .u8 a] w fun b d=>b=.returned (.func (.func 76) #[] #[Zp (Z (A (w.heap.size+1) 0 F)),Zp (Z (A w.heap.size 0 F))])/\Boxed w d a:=by
 have i:∀(f:Fn) (first e:Array Zv) (w:Zw),(Instr.makeFunc f first e).run prog w=.ok (.func f first e) w:=fun _ _ _ _=>rfl
 go_enter func43,ntmps43;go_wp2_with (first | (go_at_call 73;refine(dE _ _).mono ?_;rintro b d ⟨rfl,c⟩;obtain rfl:=c.symm) | (go_at_call 74;refine(fJ _ _).mono ?_;rintro b d ⟨rfl,c⟩;obtain rfl:=c.symm));go_ret;refine⟨rfl,?_,?_,?_,?_⟩;·simp
 ·simp
 ·simp
 ·exact(bal _).alloc oB _
theorem za6 (f a d:Int) (b c:Addr) (w:Zw) (q:0<=a/\a<=5) (h:w.cell? b=Z (U O a)) (j:w.cell? c=Z (U .u8 d)) (p:w.frozen? b=X) (i:b≠c) : Calls prog 76 #[U .u8 f,Zp (Z b),Zp (Z c)] w fun e k=>e=.returned (Y (a==1&&d==61&&f==61))/\k=w.setCell b (U O (a+1)):=by
 have r:IntKind.i64.wrap (a+1)=a+1:=oU;have n:=jS w b (U O (a+1)) h;have o:=(jD w b c (U O (a+1)) i).trans j;have e:(a+1==2)=(a==1):=by rw[Bool.eq_iff_iff];simp;omega
 cases g:(a==1)<;>cases l:(d==61)<;>cases m:(f==61)
 all_goals
  rw[g]at e;go_enter func76,ntmps76;go_wp2;go_ret;exact⟨rfl,rfl⟩
def more (l:List UInt8) (c:Int):Nat:=if c==61&&l.headD 0==61 then 1 else 0
theorem zxp (s:ByteArray) (a:Nat) (b:a<s.size):((s.data.toList.drop a).headD 0==61)=((s[a].toNat:Int)==61):=by
 rw[drop_cons s a b,List.headD_cons,xP _ 61 61 rfl]
theorem zjy (s:ByteArray) (a:Nat) (b:s.size<=a):((s.data.toList.drop a).headD 0==61)=X:=by
 rw[List.drop_eq_nil_of_le (by rw[len_L];exact b)];rfl
set_option maxRecDepth 100000 in
theorem zs1 (s:ByteArray) (b:Nat) (c:Int) (a d:Addr) (z:s.size<=3000) (hi:b<=s.size) (w:Zw) (j:w.cell? a=Z (U O 1)) (k:w.cell? d=Z (U .u8 c)) (l:w.frozen? a=X) (h:a≠d) : Calls prog 42 #[I s,U O b,.func (.func 76) #[] #[Zp (Z a),Zp (Z d)]] w fun g i=>g=.returned (U O ((b+more (s.data.toList.drop b) c:Nat):Int))/\Below a.block w i:=by
 have r:=jS w a (U O 2) j;have t:=(jD w a d (U O 2) h).trans k;have u:(w.setCell a (U O 2)).frozen? a=X:=by simp[l]
 have q:Below a.block w w:=Below.refl _ _;have o:Below a.block w (w.setCell a (U O 2)):=q.setCell (jE _) _;have x:Below a.block w ((w.setCell a (U O 2)).setCell a (U O 3)):=o.setCell (jE _) _;go_enter func42,ntmps42;go_wp2;go_loopw [1] (fun n wr=>(n=U O b/\wr=w)\/(n=U O ((b:Int)+1)/\b<s.size/\Hid (more (s.data.toList.drop b) c=1)/\wr=w.setCell a (U O 2))) (fun n _=>b+1 - (intOf n).toNat)
 case atStart=>exact .inl ⟨rfl,rfl⟩
 case round =>
  rcases hrel with⟨rfl,rfl⟩|⟨rfl,y,f,rfl⟩
  ·by_cases p:b<s.size
   ·have m:=zxp s b p;cases v:(c==61&&(s[b].toNat:Int)==61)
    ·have f:Hid (more (s.data.toList.drop b) c=0):=by show _=_;unfold more;rw[m,v];rfl
     clear m;go_wp2_with (go_at_call 76;refine(za6 _ 1 c a d _ oA j k l h).mono ?_;rintro g i ⟨rfl,e⟩;obtain rfl:=e.symm);go_ret;exact⟨by rw[f.out];rfl,o⟩
    ·have f:Hid (more (s.data.toList.drop b) c=1):=by show _=_;unfold more;rw[m,v];rfl
     clear m;go_wp2_with (go_at_call 76;refine(za6 _ 1 c a d _ oA j k l h).mono ?_;rintro g i ⟨rfl,e⟩;obtain rfl:=e.symm);go_roundw
     case rel=>exact .inr ⟨oJ,p,f.out,oW⟩
     case measure=>simp[intOf]<;>omega
   ·have f:Hid (more (s.data.toList.drop b) c=0):=by show _=_;unfold more;rw[zjy s b oA];simp
    go_wp2_with (go_at_call 76;refine(za6 _ 1 c a d _ oA j k l h).mono ?_;rintro g i ⟨rfl,e⟩;obtain rfl:=e.symm);go_ret;exact⟨by rw[f.out];rfl,q⟩
  ·by_cases p:b+1<s.size;·go_wp2_with (go_at_call 76;refine(za6 _ 2 c a d _ oA r t u h).mono ?_;rintro g i ⟨rfl,e⟩;obtain rfl:=e.symm);go_ret;exact⟨by rw[f.out];rfl,x⟩
   ·go_wp2_with (go_at_call 76;refine(za6 _ 2 c a d _ oA r t u h).mono ?_;rintro g i ⟨rfl,e⟩;obtain rfl:=e.symm);go_ret;exact⟨by rw[f.out];rfl,o⟩
theorem clone_any (a:ByteArray) (e:a.size<=3000) (w:Zw) : Calls prog 45 #[I a] w fun b c=>b=.returned (I a)/\Below w.heap.size w c:=by
 go_enter func45,ntmps45;go_wp2_with (go_at_call 79;refine(Any.stringslite_Clone laysClone a _ oA).mono ?_;rintro b c ⟨rfl,d⟩);go_ret;exact⟨rfl,d⟩
set_option maxRecDepth 100000 in
theorem zse (s:ByteArray) (a:Int) (w:Zw) : Calls prog 95 #[I s,U .u8 a] w fun b c=>b=.returned (U O (Lib.indexByte s.data.toList a.toNat.toUInt8))/\c=w:=by
 go_enter func95,ntmps95;go_wp2;rw[run_callFunc_extern func121 oD oD oD (e:=Extern.BytealgIndexByte.indexByte) oD,Lib.run_indexByteString];simp only[Result.andThen];rw[Oper.upon_value];go_wp2;go_ret;exact⟨rfl,rfl⟩
theorem zi0 (s:ByteArray) (a:Int) (w:Zw) : Calls prog 78 #[I s,U .u8 a] w fun b c=>b=.returned (U O (Lib.indexByte s.data.toList a.toNat.toUInt8))/\c=w:=by
 go_enter func78,ntmps78;go_wp2_with (go_at_call 95;refine(zse _ _ _).mono ?_;rintro b c ⟨rfl,rfl⟩);go_ret;exact⟨rfl,rfl⟩
theorem zts (b:List UInt8) (a:UInt8):decide (Lib.indexByte b a ≥ 0)=b.contains a:=by
 induction b with
 | nil=>simp[Lib.indexByte]
 | cons d b ih =>
  have h:=Lib.indexByte_ge b a;rw[List.contains_cons,<- ih,Lib.indexByte];by_cases c:d=a;·subst c;simp
  ·have e:¬(a=d):=fun g=>c g.symm
   simp only[beq_iff_eq,c,if_false];by_cases f:Lib.indexByte b a = -1;·simp[f,e]
   ·rw[ju f,Bool.eq_iff_iff];simp[e];omega
def qV (w:Zw):Prop:=∃a,w.cell? (A (laysPI_ren.g 16) 0 F)=Z a/\(a=.nilIface\/∃c b,a=.iface c b)
theorem hasErr_below {w c:Zw} (a:qV w) (f:Below w.heap.size w c):qV c:=by
 obtain⟨d,b,e⟩:=a
 have h:laysPI_ren.g 16<w.heap.size:=by
  rcases jL (laysPI_ren.g 16) w.heap.size with a | a
  ·exact a
  ·exfalso;simp only[World.cell?]at b;rw[Array.getElem?_eq_none a]at b;simp at b
 exact⟨d,by rw[f.cell (p:=(A (laysPI_ren.g 16) 0 F)) h];exact b,e⟩
theorem parse_ok (a:ByteArray) (g:a.size<=3000) (d:a.data.toList.all kX=true) (e:a.data.toList≠[]) (f:val a.data.toList<9223372036854775808) (w:Zw) : Calls prog 94 #[I a,U O 10,U O 64] w fun b c=>b=.returned (.tuple #[U O (val a.data.toList:Int),.nilIface])/\Below w.heap.size w c:=by
 refine(Any.strconv_ParseInt_10_at64_ok laysPI a oA _ (by rw[zi7 _ d e,jv f]) w).mono ?_;rintro b c ⟨rfl,rfl|⟨h,rfl⟩⟩;·exact⟨rfl,Below.refl _ _⟩
 ·exact⟨rfl,Lib.bytesWorld_below _ _ _⟩
theorem zrv (a:ByteArray) (o:a.size<=3000) (g:a.data.toList.all kX=true) (h:a.data.toList≠[]) (m:¬val a.data.toList<9223372036854775808) (w:Zw) (l:qV w) : Calls prog 94 #[I a,U O 10,U O 64] w fun c d=>∃n e b,c=.returned (.tuple #[U O n,.iface e (Zp (Z (A b 0 F)))])/\Below w.heap.size w d:=by
 obtain⟨f,i,j⟩:=l;refine(Any.strconv_ParseInt_10_at64_range laysPI a oA (by rw[zi7 _ g h,ju m]) f w i j).mono ?_;rintro c d ⟨b,rfl,_,_,k⟩;exact⟨_,_,b,rfl,k⟩
theorem zuz {b:ByteArray} (d:Stops kX b 0 a) (h:a=b.size):b.data.toList.all kX=true:=by
 rw[List.all_eq_true];intro g e;obtain⟨f,c,rfl⟩:=List.mem_iff_getElem.1 e;rw[len_L]at c;exact d.all f c oA oA
theorem zgz {a:ByteArray} (c:0<a.size):a.data.toList≠[]:=by intro b;have:=len_L a;rw[b]at this;simp at this;omega
set_option maxRecDepth 100000 in
theorem zqv (a:ByteArray) (q:a.size<=3000) (k:0<a.size) (w:Zw) (y:qV w) : Calls prog 77 #[I a] w fun j u=>j=.returned (U O (numE a.data.toList))/\Below w.heap.size w u:=by
 go_enter func77,ntmps77;go_wp2_with (fail);refine(zrx a 0 q oA _).mono ?_;rintro j u ⟨r,rfl,h,z⟩;obtain rfl:=z.symm;have E:=h.top;by_cases G:r<a.size
 ·have v:Hid (2=numE a.data.toList):=by
   rcases h.stop with f | ⟨f,x⟩
   ·omega
   ·exact zm7 a r f x
  clear h;go_wp2;go_ret;exact⟨fE v.out,Below.refl _ _⟩
 ·have t:r=a.size:=oA;have d:=zuz h t;clear h;subst t;have e:=headL a k;cases b:(decide (1<a.data.toList.length)&&a.data.toList.headD 0==48)
  ·have c:=numE_val _ d (zgz k) b;rw[len_L,e,<- xP _ 48 48 rfl]at b;by_cases g:val a.data.toList<9223372036854775808
   ·rw[jv g]at c;have n:Hid (numE a.data.toList=0):=c;have o:Hid (val a.data.toList<9223372036854775808):=g;have m:Hid (a.data.toList.all kX=true):=d;clear c g d;by_cases l:1<a.size
    ·have s:((a[0].toNat:Int)==48)=X:=by simpa[l] using b
     clear b e;exact oz03x15
    ·clear b e;exact oz03x15
   ·rw[ju g]at c;have n:Hid (numE a.data.toList=6):=c;have o:Hid (¬val a.data.toList<9223372036854775808):=g;have m:Hid (a.data.toList.all kX=true):=d;clear c g d;by_cases l:1<a.size
    ·have s:((a[0].toNat:Int)==48)=X:=by simpa[l] using b
     clear b e;exact oz03x14
    ·clear b e;exact oz03x14
  ·have c:Hid (numE a.data.toList=2):=by
    show _=_;rw[numE,ju (by simp[d]),jv b]
   rw[len_L,e,<- xP _ 48 48 rfl,jj]at b;have l:1<a.size:=by simpa using b.1
   have s:=b.2;clear b e d;go_wp2;go_ret;exact⟨fE c.out.symm,Below.refl _ _⟩
def signs:ByteArray:=⟨#[123,125,40,41,91,93,59,44,46,61,60,43,45,42,47,37,38,124,33]⟩
theorem zhw (a:UInt8):decide (Lib.indexByte signs.data.toList ((a.toNat:Int)).toNat.toUInt8 ≥ 0)=uO.contains a:=by
 have b:((a.toNat:Int)).toNat.toUInt8=a:=oB;rw[b,zts];rfl
theorem zsi (a:ByteArray) (h:a.size<=3000) (e:0<a.size) (w:Zw) (g:qB (a[0].toNat:Int)=true) (f:a.size<=16) : Calls prog 44 #[I a] w fun b c=>b=.returned (.tuple #[U O 1,U O 0])/\Below w.heap.size w c:=by
 go_enter func44,ntmps44;go_wp2_with (go_at_call 73;refine(dE _ _).mono ?_;rintro b c ⟨rfl,d⟩;obtain rfl:=d.symm);exact jT (v:=.tuple #[U O 1,U O 0]) (by simp[results,results44,go_sem]) rfl ⟨rfl,Below.refl _ _⟩
theorem zsf (a:ByteArray) (h:a.size<=3000) (e:0<a.size) (w:Zw) (g:qB (a[0].toNat:Int)=true) (f:16<a.size) : Calls prog 44 #[I a] w fun b c=>b=.returned (.tuple #[U O 0,U O 1])/\Below w.heap.size w c:=by
 go_enter func44,ntmps44;go_wp2_with (go_at_call 73;refine(dE _ _).mono ?_;rintro b c ⟨rfl,d⟩;obtain rfl:=d.symm);exact jT (v:=.tuple #[U O 0,U O 1]) (by simp[results,results44,go_sem]) rfl ⟨rfl,Below.refl _ _⟩
theorem ztx (a:ByteArray) (h:a.size<=3000) (e:0<a.size) (w:Zw) (g:qV w) (j:qB (a[0].toNat:Int)=X) (i:zL (a[0].toNat:Int)=true) : Calls prog 44 #[I a] w fun b d=>b=.returned (.tuple #[U O 2,U O (numE a.data.toList)])/\Below w.heap.size w d:=by
 go_enter func44,ntmps44
 go_wp2_with (first
  | (go_at_call 73;refine(dE _ _).mono ?_;rintro b d ⟨rfl,c⟩;obtain rfl:=c.symm)
  | (go_at_call 74;refine(fJ _ _).mono ?_;rintro b d ⟨rfl,c⟩;obtain rfl:=c.symm)
  | (go_at_call 77;refine(zqv a h e _ g).mono ?_;rintro b k ⟨rfl,f⟩))
 exact jT (v:=.tuple #[U O 2,U O (numE a.data.toList)]) (by simp[results,results44,go_sem]) rfl ⟨rfl,f⟩
theorem zsh (a:ByteArray) (l:a.size<=3000) (i:0<a.size) (w:Zw) (k:qB (a[0].toNat:Int)=X) (j:zL (a[0].toNat:Int)=X) (g:uO.contains a[0]=true) : Calls prog 44 #[I a] w fun c d=>c=.returned (.tuple #[U O 3,U O 0])/\Below w.heap.size w d:=by
 have hi:Lib.indexByte signs.data.toList ((a[0].toNat:Int)).toNat.toUInt8 ≥ 0:=of_decide_eq_true (by rw[zhw,g]);obtain⟨e,f⟩:∃e,e=Lib.indexByte signs.data.toList ((a[0].toNat:Int)).toNat.toUInt8:=⟨_,rfl⟩
 have h:=zi0 signs (a[0].toNat:Int);rw[<- f]at hi h;clear f g;go_enter func44,ntmps44
 go_wp2_with (first
  | (go_at_call 73;refine(dE _ _).mono ?_;rintro c d ⟨rfl,b⟩;obtain rfl:=b.symm)
  | (go_at_call 74;refine(fJ _ _).mono ?_;rintro c d ⟨rfl,b⟩;obtain rfl:=b.symm)
  | (go_at_call 78;refine(h _).mono ?_;rintro c d ⟨rfl,b⟩;obtain rfl:=b.symm))
 exact jT (v:=.tuple #[U O 3,U O 0]) (by simp[results,results44,go_sem]) rfl ⟨rfl,Below.refl _ _⟩
theorem zsg (a:ByteArray) (l:a.size<=3000) (i:0<a.size) (w:Zw) (k:qB (a[0].toNat:Int)=X) (j:zL (a[0].toNat:Int)=X) (g:uO.contains a[0]=X) : Calls prog 44 #[I a] w fun c d=>c=.returned (.tuple #[U O 0,U O 2])/\Below w.heap.size w d:=by
 have hi:¬Lib.indexByte signs.data.toList ((a[0].toNat:Int)).toNat.toUInt8 ≥ 0:=of_decide_eq_false (by rw[zhw,g]);obtain⟨e,f⟩:∃e,e=Lib.indexByte signs.data.toList ((a[0].toNat:Int)).toNat.toUInt8:=⟨_,rfl⟩
 have h:=zi0 signs (a[0].toNat:Int);rw[<- f]at hi h;clear f g;go_enter func44,ntmps44
 go_wp2_with (first
  | (go_at_call 73;refine(dE _ _).mono ?_;rintro c d ⟨rfl,b⟩;obtain rfl:=b.symm)
  | (go_at_call 74;refine(fJ _ _).mono ?_;rintro c d ⟨rfl,b⟩;obtain rfl:=b.symm)
  | (go_at_call 78;refine(h _).mono ?_;rintro c d ⟨rfl,b⟩;obtain rfl:=b.symm))
 exact jT (v:=.tuple #[U O 0,U O 2]) (by simp[results,results44,go_sem]) rfl ⟨rfl,Below.refl _ _⟩
theorem ext_size (s:ByteArray) (b a:Nat) (c:b+a<=s.size):(s.extract b (b+a)).size=a:=by
 rw[<- len_L,Lib.extract_data,List.length_take,List.length_drop,len_L];omega
theorem zju (s:ByteArray) (a b:Nat):(s.extract a (a+b)).data.toList=(s.data.toList.drop a).take b:=by
 rw[Lib.extract_data,Nat.add_sub_cancel_left]
theorem ze4 (s:ByteArray) (a b:Nat) (c:a+b<=s.size) (d:0<b):(s.extract a (a+b))[0]'(by rw[ext_size s a b c];exact d)=s[a]:=by
 have f:0<(s.extract a (a+b)).size:=by rw[ext_size s a b c];exact d
 have e:=headL (s.extract a (a+b)) f;rw[<- e,zju,drop_cons s a oA]
 cases b with
 | zero=>omega
 | succ b=>rfl
theorem zs9 {d:UInt8->Bool} {s:ByteArray} (k:a<s.size) (f:d s[a]=true) (c:Stops d s (a+1) b):Stops d s a b :=
 ⟨by have:=c.le;omega,c.top,fun e i j g=>by
  rcases jL a e with h | h
  ·exact c.all e i oA g
  ·have:e=a:=oA;subst this
   exact f,c.stop⟩
theorem zww (s:ByteArray) (a:Nat) (c:a<s.size) (b:uO.contains s[a]=true):yR (s.data.toList.drop a)=1+more (s.data.toList.drop (a+1)) (s[a].toNat:Int):=by
 unfold yR more;rw[drop_cons s a c,List.headD_cons,List.drop_one,List.tail_cons,xP _ 61 61 rfl];rw[jv b];split<;>rfl
theorem zux (s:ByteArray) (a:Nat) (d:a<s.size) (b:uO.contains s[a]=X):yR (s.data.toList.drop a)=0:=by
 unfold yR;rw[drop_cons s a d,List.headD_cons,List.drop_one,List.tail_cons,ju,ju (by rw[b];decide)];intro c;rw[jj,beq_iff_eq]at c;rw[c.1]at b;exact absurd b oC
theorem zx0 (s:ByteArray) (a:Nat) (d:Int) (e:a<s.size):a+(1+more (s.data.toList.drop (a+1)) d)<=s.size:=by
 unfold more;split
 ·rename_i b;rw[jj]at b;rcases jL (a+1) s.size with c | c
  ·omega
  ·have:=zjy s (a+1) c;rw[this]at b;exact absurd b.2 oC
 ·omega
def yas (s:ByteArray) (p n:Nat) (c:p<s.size) (K E:Int):Prop :=
 (∀w,Calls prog 43 #[U .u8 (s[p].toNat:Int)] w fun e a=>∃fv,e=.returned fv/\Below w.heap.size w a /\
  Calls prog 42 #[I s,U O ((p:Int)+1),fv] a fun e b=>e=.returned (U O ((p:Int)+(n:Int)))/\Below w.heap.size w b) /\
 (∀w,qV w->Calls prog 44 #[I (s.extract p (p+n))] w fun e w'=>e=.returned (.tuple #[U O K,U O E])/\Below w.heap.size w w')
theorem zen (s:ByteArray) (a:Nat) (k:s.size<=3000) (i:a<s.size) (b:(qB (s[a].toNat:Int)||zL (s[a].toNat:Int))=true) (w:Zw) : Calls prog 43 #[U .u8 (s[a].toNat:Int)] w fun c d=>∃e,c=.returned e/\Below w.heap.size w d /\ Calls prog 42 #[I s,U O ((a:Int)+1),e] d fun c h=>c=.returned (U O ((a:Int)+(run kN (s.data.toList.drop a):Int)))/\Below w.heap.size w h:=by
 refine(zr5 _ b w).mono ?_;rintro c d ⟨rfl,f⟩;refine⟨_,rfl,f,?_⟩;refine(zrc s (a+1) k oA d).mono ?_;rintro c h ⟨m,rfl,g,rfl⟩
 have hi:kN s[a]=true:=by
  rw[Bool.or_eq_true]at b;rcases b with b | b
  ·exact zet b
  ·exact zer b
 have j:=(zs9 i hi g).run;have l:=g.le;refine⟨?_,f⟩;rw[j]
 congr 2
 omega
theorem zh6 (s:ByteArray) (a:Nat) (m:s.size<=3000) (n:a<s.size) (l:qB (s[a].toNat:Int)=X) (k:zL (s[a].toNat:Int)=X) (w:Zw) : Calls prog 43 #[U .u8 (s[a].toNat:Int)] w fun b c=>∃d,b=.returned d/\Below w.heap.size w c /\ Calls prog 42 #[I s,U O ((a:Int)+1),d] c fun b f=>b=.returned (U O ((a:Int)+((1+more (s.data.toList.drop (a+1)) (s[a].toNat:Int):Nat):Int)))/\Below w.heap.size w f:=by
 refine(zri _ l k w).mono ?_;rintro b c ⟨rfl,g,h,i,e⟩;refine⟨_,rfl,e,?_⟩;refine(zs1 s (a+1) (s[a].toNat:Int) _ _ m oA c g h i oB).mono ?_;rintro b f ⟨rfl,j⟩;refine⟨?_,e.trans (j.mono oB)⟩
 congr 2
 omega
theorem zyu (s:ByteArray) (a:Nat) (l:s.size<=3000) (b:a<s.size) (j:((s[a].toNat:Int)==32)=X) (i:((s[a].toNat:Int)==10)=X) (k:((s[a].toNat:Int)==35)=X) : ∃(o:Nat) (q m:Int),0<o/\a+o<=s.size/\((m != 0)=X->kU (s.data.toList.drop a)=.tok q o)/\((m != 0)=true->kU (s.data.toList.drop a)=.fault m)/\yas s a o b q m:=by
 have v:=zg6 kN (s.data.toList.drop a);rw[List.length_drop,len_L]at v;cases e:qB (s[a].toNat:Int)
 ·cases f:zL (s[a].toNat:Int)
  ·have g:0<1+more (s.data.toList.drop (a+1)) (s[a].toNat:Int):=oA;have d:=zx0 s a (s[a].toNat:Int) b;have t:=ext_size s a _ d;have h:=ze4 s a _ d g;cases n:uO.contains s[a];·refine⟨1+more (s.data.toList.drop (a+1)) (s[a].toNat:Int),0,2,g,d,fun c=>absurd c oC,fun _=>zo2 b j i k e f (zux s a b n),fun w=>zh6 s a l b e f w,fun w _=>?_⟩;exact zsg _ oA oA w oz03y18 (by rw[h];exact f) (by rw[h];exact n)
   ·refine⟨1+more (s.data.toList.drop (a+1)) (s[a].toNat:Int),3,0,g,d,fun _=>zo4 b j i k e f (zww s a b n) oA,fun c=>absurd c oC,fun w=>zh6 s a l b e f w,fun w _=>?_⟩;exact zsh _ oA oA w oz03y18 (by rw[h];exact f) (by rw[h];exact n)
  ·have g:0<run kN (s.data.toList.drop a):=zmw b f rfl;have d:a+run kN (s.data.toList.drop a)<=s.size:=oA;have t:=ext_size s a _ d;have h:=ze4 s a _ d g;refine⟨_,2,numE ((s.data.toList.drop a).take (run kN (s.data.toList.drop a))),g,d,fun c=>zp7 b j i k e f rfl (by simpa[bne] using c),fun c=>zp6 b j i k e f rfl (by simpa[bne] using c),fun w=>zen s a l b (by rw[f,Bool.or_true]) w,fun w p=>?_⟩;have r:=ztx (s.extract a (a+run kN (s.data.toList.drop a))) oA oA w p oz03y18 (by rw[h];exact f);rw[zju]at r;exact r
 ·have g:0<run kN (s.data.toList.drop a):=by rw[drop_cons s a b];exact zbn _ _ _ (zet e)
  have d:a+run kN (s.data.toList.drop a)<=s.size:=oA;have t:=ext_size s a _ d;have h:=ze4 s a _ d g;by_cases u:run kN (s.data.toList.drop a)<=16;·refine⟨_,1,0,g,d,fun _=>zo5 b j i k e rfl u,fun c=>absurd c oC,fun w=>zen s a l b (by rw[e,Bool.true_or]) w,fun w p=>?_⟩;exact zsi _ oA oA w oz03y18 oA
  ·refine⟨_,0,1,g,d,fun c=>absurd c oC,fun _=>zo1 b j i k e rfl oA,fun w=>zen s a l b (by rw[e,Bool.true_or]) w,fun w p=>?_⟩;exact zsf _ oA oA w oz03y18 oA
def zqb (H:Zw->Prop) (a:Nat) (s:ByteArray):Prop:=∀w:Zw,H w->Calls prog a #[I s] w fun e w'=>∃v,e=.returned (.tuple #[v,Za #[U O (scan s.data.toList).code,U O (scan s.data.toList).place]]) /\
   w'.ownsRow w.heap.size 76 3 v (scan s.data.toList).toks.length (cellsOf (scan s.data.toList).toks)/\Below w.heap.size w w'
theorem own_shape {w:Zw} {i:TypeId} {v:Zv} (f:w.ownsRow a i b v d o):∃e g,v=J e d g/\d<=9223372036854775807/\(0<d->∃c,e=Z (A c 0 F)):=by
 rcases f.2 with⟨rfl,rfl⟩|⟨c,h,k,rfl,_,_,l,j,_⟩
 ·exact⟨F,0,rfl,oA,fun f=>oA⟩
 ·exact⟨Z (A c 0 F),h,rfl,by unfold maxLen at j;omega,fun _=>⟨c,rfl⟩⟩
theorem cellsOf_at (b:List Tok) (a:Nat) (e:a<b.length):(cellsOf b)[a*3]?=Z (U O b[a].kind)/\(cellsOf b)[a*3+1]?=Z (I ⟨b[a].text.toArray⟩)/\(cellsOf b)[a*3+2]?=Z (U O (b[a].at_:Int)):=by
 induction b generalizing a with
 | nil=>simp at e
 | cons c b ih =>
  cases a with
  | zero=>simp[cellsOf]
  | succ a =>
   have d:=ih a (by simpa using e);have f:cellsOf (c :: b)=[U O c.kind,I ⟨c.text.toArray⟩,U O (c.at_:Int)]++cellsOf b:=rfl;have g:(a+1)*3=a*3+3:=oA;rw[f,g];refine⟨?_,?_,?_⟩;·rw[List.getElem?_append_right oB];simpa using d.1
   ·rw[List.getElem?_append_right oB];simpa using d.2.1
   ·rw[List.getElem?_append_right oB];simpa using d.2.2
theorem tok_cells {w:Zw} {f:TypeId} (c:w.ownsRow a f 3 (J (Z (A b 0 F)) d m) d (cellsOf y)) {k:Nat} (g:k<y.length) : w.cell? (A b (k*3) F)=Z (U O y[k].kind)/\w.cell? (A b (k*3+1) F)=Z (I ⟨y[k].text.toArray⟩)/\w.cell? (A b (k*3+2) F)=Z (U O (y[k].at_:Int)):=by
 have e:=cellsOf_at y k g;have h:d=y.length:=by have:=c.1;rw[cellsOf_length]at this;omega
 exact⟨(c.cellAt _ oA).trans e.1,(c.cellAt _ oA).trans e.2.1,(c.cellAt _ oA).trans e.2.2⟩
theorem below_next {w a c:Zw} (b:Below w.heap.size w a) (d:Below (a.alloc q).heap.size (a.alloc q) c):Below w.heap.size w c :=
 (b.alloc b.size q).trans (d.mono (by have:=b.size;rw[jO];omega))
theorem zaw {w wr c:Zw} {d:TypeId} {v:Zv} (h:wr.ownsRow (w.heap.size+1) d a v b o) (f:Below (w.heap.size+1) (w.alloc q) wr) (e:Below wr.heap.size wr c) : c.ownsRow (w.heap.size+1) d a v b o/\Below (w.heap.size+1) (w.alloc q) c:=by
 have g:=f.size;rw[jO]at g;exact⟨own_below h e,f.trans (e.mono g)⟩
theorem zjw {w wr:Zw} (b:qV w) (a:Below (w.heap.size+1) (w.alloc q) wr):qV wr:=hasErr_below b (dT a)
set_option maxRecDepth 100000 in
theorem ya3 (s:ByteArray) (w:Zw) (K:s.size<=3000) (a3:qV w) : Calls prog 19 #[I s] w fun b i=>∃v,b=.returned (.tuple #[v,Za #[U O (scan s.data.toList).code,U O (scan s.data.toList).place]]) /\ i.ownsRow w.heap.size 76 3 v (scan s.data.toList).toks.length (cellsOf (scan s.data.toList).toks)/\Below w.heap.size w i:=by
 obtain⟨aB,hi,ay,az,aA⟩:=info_parts zo7;have aT:¬(3000:Int)<(s.size:Int):=oA;obtain⟨R,y⟩:∃R,R=scan s.data.toList:=⟨_,rfl⟩
 rw[<- y]
 have aa:Hid (qH s.size (s.data.toList.drop 0) 0 []=R):=by
  show _=_;rw[y,scan,ju (by rw[len_L];omega),len_L];rfl
 have Q:Hid (qV w):=a3;clear y a3;go_enter func19,ntmps19;go_wp2_with (go_at_call 41;refine(zml s 0 K oA _).mono ?_;rintro b i ⟨aC,rfl,a5,au,M⟩;obtain rfl:=M.symm);obtain⟨af,ao,ac⟩:=a5.on s.size [] R oA aa.out;have aw:=a5.top
 go_loopw [4,5] (fun v N wr=>∃(a f:Nat) (e:List Tok),a<=s.size/\N=U O a/\s.size<=a+f/\Hid (∀n:a<s.size,((s[a].toNat:Int)==32)=X/\((s[a].toNat:Int)==10)=X/\((s[a].toNat:Int)==35)=X)/\Hid (qH f (s.data.toList.drop a) a e=R)/\wr.ownsRow (w.heap.size+1) 76 3 v e.length (cellsOf e)/\e.length<=a/\Below (w.heap.size+1) (w.alloc (Zc #[U O 0,U O 0] 28)) wr)
  (fun _ N _=>s.size - (intOf N).toNat)
 case atStart =>
  exact⟨aC,af,[],aw,rfl,ao,au,ac,World.ownsRow_nil _ _ _ _,oB,Below.refl _ _⟩
 case round =>
  obtain⟨a,f,e,aR,rfl,aO,t,HS,D,aN,o⟩:=hrel;obtain⟨ak,am,aV,aW,ah⟩:=boxes o;have aK:w.heap.size<wr.heap.size:=ah;by_cases h:a<s.size
  ·obtain⟨f,rfl⟩:∃x,f=x+1:=⟨f - 1,oA⟩
   obtain⟨d,u,p,aQ,C,q,r,P,S⟩:=zyu s a K h (t.out h).1 (t.out h).2.1 (t.out h).2.2;have aS:=zbc 9 underlying9 s a d C;have aU:=ext_size s a d C;cases V:(p != 0)
   ·have L:Hid (kU (s.data.toList.drop a)=.tok u d):=q V;clear q r
    have ax:∀w,Calls prog 41 #[I s,U O ((a:Int)+(d:Int))] w fun b i=>∃c:Nat,b=.returned (U O c)/\Goes s (a+d) c/\(∀n:c<s.size,((s[c].toNat:Int)==32)=X/\((s[c].toNat:Int)==10)=X/\((s[c].toNat:Int)==35)=X)/\i=w:=by
     intro w;have n:=zml s (a+d) K C w;rw[Int.natCast_add]at n;exact n
    go_wp2_with (first
     | (go_at_call 43;refine(P _).mono ?_;rintro b aE ⟨ag,rfl,aj,G⟩)
     | (go_at_call 42;refine G.mono ?_;rintro b aF ⟨rfl,j⟩;obtain⟨m,g⟩:=zaw D o j)
     | (go_at_call 44;refine(S _ (zjw Q.out g)).mono ?_;rintro b aG ⟨rfl,k⟩;obtain⟨E,l⟩:=zaw m g k; clear m g j k)
     | (go_at_call 45;refine(clone_any _ oA _).mono ?_;rintro b aH ⟨rfl,W⟩;obtain⟨a8,a2⟩:=zaw E l W;obtain⟨_,_,_,_,aM⟩:=boxes a2;clear E l W)
     | (at_builtin;refine wpList_append_own _ rfl (.tmp 40) (.tmp 49) 60 rfl (w.heap.size+1) 76 aB (Za #[U O 0,I ⟨#[]⟩,U O 0]) 3 32 underlying60 hi ay az aA rfl oC _ _ _ rfl (a8.alloc _) (A aH.heap.size 0 F) 1 1 [U O u,I (s.extract a (a+d)),U O (a:Int)] rfl rfl (zbz _ _ _ _ _ _ oB) (zcg _ _ _) (by unfold maxLen;omega) oA oH ?_;intro aD a9 a7 a6 ar;have T:Hid (a9.ownsRow (w.heap.size+1) 76 3 aD (e.length+1) (cellsOf e++[U O u,I (s.extract a (a+d)),U O (a:Int)])/\Below (w.heap.size+1) (w.alloc (Zc #[U O 0,U O 0] 28)) a9):=⟨a7,zdm (a2.alloc oA _) oH (a8.alloc _) a6⟩;clear a7 a6 ar)
     | (go_at_call 41;refine(ax _).mono ?_;rintro b i ⟨c,rfl,B,av,M⟩;obtain rfl:=M.symm))
    have ai:=zpj h L.out HS.out;obtain⟨x,an,ab⟩:=B.on f _ R oA ai.1;have ap:=B.top;have aP:=B.le;go_roundw
    case rel=>exact⟨c,x,_,ap,rfl,an,av,ab,znb T.out.1,oL,T.out.2⟩
    case measure=>simp[intOf];omega
   ·have L:Hid (kU (s.data.toList.drop a)=.fault p):=r V;clear q r;have z:=zcp h L.out HS.out;subst z
    go_wp2_with (first
     | (go_at_call 43;refine(P _).mono ?_;rintro b aE ⟨ag,rfl,aj,G⟩)
     | (go_at_call 42;refine G.mono ?_;rintro b aF ⟨rfl,j⟩;obtain⟨m,g⟩:=zaw D o j)
     | (go_at_call 44;refine(S _ (zjw Q.out g)).mono ?_;rintro b aG ⟨rfl,k⟩;obtain⟨E,l⟩:=zaw m g k;obtain⟨ad,ae,aI,aJ,aL⟩:=boxes l;clear m g j k))
    refine jT (v:=.tuple #[J F 0 0,Za #[U O p,U O a]]) (by simp[results,results19,go_sem,ad,ae]) rfl ⟨_,rfl,World.ownsRow_nil _ _ _ _,?_⟩;exact((dT l).setCell (jE _) _).setCell (jE _) _
  ·have z:=zpi oA HS.out;subst z;go_wp2;refine jT (v:=.tuple #[u4,Za #[U O 0,U O 0]]) (by simp[results,results19,go_sem,ak,am]) rfl ⟨u4,rfl,?_,?_⟩;·exact ownsRow_le (ownsRow_setCell_below (ownsRow_setCell_below D oB _) oB _) oA
   ·exact((dT o).setCell (jE _) _).setCell (jE _) _
theorem zsv (s:ByteArray) (w:Zw) (d:3000<s.size) : Calls prog 19 #[I s] w fun c b=>∃v,c=.returned (.tuple #[v,Za #[U O (scan s.data.toList).code,U O (scan s.data.toList).place]]) /\ b.ownsRow w.heap.size 76 3 v (scan s.data.toList).toks.length (cellsOf (scan s.data.toList).toks)/\Below w.heap.size w b:=by
 have e:(3000:Int)<(s.size:Int):=oA;have a:scan s.data.toList=.err 1 0:=by rw[scan,jv (by rw[len_L];omega)]
 rw[a];clear a;go_enter func19,ntmps19;go_wp2;refine jT (v:=.tuple #[J F 0 0,Za #[U O 1,U O 0]]) (by simp[results,results19,go_sem]) rfl ⟨_,rfl,World.ownsRow_nil _ _ _ _,?_⟩;exact bal _
theorem scan_own (s:ByteArray):zqb qV 19 s:=by
 intro w b;rcases jL 3000 s.size with a | a
 ·exact zsv s w a
 ·exact ya3 s w a b
end lexs
namespace syn
open Go
theorem zq1 {b:Program} (w:Zw) (G:Nat) (i o h:TypeId) (d:TypeInfo) (y:Zv) (size z:Nat) (t:b.underlying i=Z (.slice h)) (hi:b.info? h=Z d) (E:d.zero=Z y) (S:d.size=size) (M:d.bytes=z) (v:Zv) (e:Nat) (x:List Zv) (r:w.ownsRow G h size v e x) (j:Addr) (a m:Nat) (f:List Zv) (n:f.length=a*size) (q:∀l g,f[l]?=Z g->w.cell? (j.add l)=Z g) (K:∀g∈f,g.oneCell'=true) (L:e+a<=maxLen) (C:(e+a)*z<=140737488355328) (a2:0<a) {u:Zv} {T:Zw} (s:(Builtin.append_ #[i,i] o #[v,.slice (Z j) a m]).run b w=.ok u T):u.ownBlock=v.ownBlock\/u.ownBlock=Z w.heap.size:=by
 subst S;subst M;have a5:e+a<=9223372036854775807:=by simp only[maxLen]at L;omega
 rcases r.2 with⟨rfl,rfl⟩|⟨k,p,B,rfl,V,Q,a3,W,N,a6⟩
 ·have c:=run_append_nil (P:=b) w i o h d y t hi E j a m f n q oA oA (by simp only[Nat.zero_add]at C;omega);rw[s]at c;injection c with hv _;rw[hv];exact .inr rfl
 ·by_cases D:e+a<=p
  ·have P:e*d.size+f.length<=B.size:=by rw[n,N,<- Nat.add_mul];exact Nat.mul_le_mul_right _ D
   have c:=run_append_room (P:=b) w i o h d t hi k e p B Q j a m f n q K D P;rw[s]at c;injection c with hv _;rw[hv];exact .inl rfl
  ·have R:∀l g,x[l]?=Z g->w.cell? (((A k 0 F):Addr).add l)=Z g:=r.cells (g:=k) rfl;have c:=run_append_grow (P:=b) w i o h d y t hi E (A k 0 F) e p x r.1 R j a m f n q oA oA (growslice_fits oA C);rw[s]at c;injection c with hv _;rw[hv];exact .inr rfl
theorem uQ {b:Program} {w:Zw} {N:Array Oper} {rest:List Oper} {g:Oper} {l:Act} {t:Exit->Act->Zw->Prop} (a2:g.guard=F) (s P:Operand) (j:TypeId) (a5:g.op=.call { callee:=.builtin .append,args:=#[s,P],argTypes:=#[j,j] }) (i:Nat) (c:TypeId) (d:TypeInfo) (q:Zv) (size n:Nat) (K:b.underlying j=Z (.slice c)) (hi:b.info? c=Z d) (L:d.zero=Z q) (G:d.size=size) (y:d.bytes=n) (a9:q.cells.size=size) (a7:0<size) (v:Zv) (e:Nat) (p:List Zv) (a6:l.eval s=v) (D:w.ownsRow i c size v e p) (m:Addr) (a r:Nat) (f:List Zv) (a8:l.eval P=.slice (Z m) a r) (B:f.length=a*size) (C:∀M o,f[M]?=Z o->w.cell? (m.add M)=Z o) (u:∀o∈f,o.oneCell'=true) (x:e+a<=maxLen) (z:(e+a)*n<=140737488355328) (W:i<=w.heap.size) (a3:0<a) (Q:∀h k,k.ownsRow i c size h (e+a) (p++f)->w.grownBy k v.ownBlock->(h.ownBlock=v.ownBlock\/h.ownBlock=Z w.heap.size)->wpList b N t rest (l.put g.dst h) k):wpList b N t (g :: rest) l w:=by
 refine wpList_plain a2 fun aa V=>?_
 obtain⟨h,k,E,R,S,_⟩:=run_append_own (P:=b) w i j g.type c d q size n K hi L G y a9 a7 v e p D m a r f B C u x z W;have T:=zq1 w i j g.type c d q size n K hi L G y v e p D m a r f B C u x z a3 E;unfold Oper.wp execOp;simp only[a5,resolve,invoke,builtin,Sem.run_bind,Sem.run_pure,Result.andThen_ok,List.map_toArray,List.map_cons,List.map_nil,a6,a8,E];exact V _ _ (Q h k R S T)
end syn
namespace lexs
open Go.RowKit
theorem uT (a:Int) (w:Zw) : Calls prog 53 #[U .u8 a] w fun b c=>b=.returned (Y (qB a))/\c=w:=by
 go_enter func53,ntmps53;go_wp2
 all_goals
  go_ret;exact⟨ret_bool (by rw[Bool.eq_iff_iff];simp[qB]<;>omega),rfl⟩
theorem zbv (a:Int) (w:Zw) : Calls prog 56 #[U .u8 a] w fun b c=>b=.returned (Y (zL a))/\c=w:=by
 go_enter func56,ntmps56;go_wp2
 all_goals
  go_ret;exact⟨ret_bool (by rw[Bool.eq_iff_iff];simp[zL]<;>omega),rfl⟩
theorem vS (a:Int) (w:Zw) : Calls prog 54 #[U .u8 a] w fun b c=>b=.returned (Y (zF a))/\c=w:=by
 cases d:qB a<;>cases e:zL a
 all_goals
  go_enter func54,ntmps54;go_wp2_with (first | (go_at_call 53;refine(uT _ _).mono ?_;rintro b c ⟨rfl,rfl⟩) | (go_at_call 56;refine(zbv _ _).mono ?_;rintro b c ⟨rfl,rfl⟩));go_ret;exact⟨ret_bool (by unfold zF;rw[d,e];simp),rfl⟩
theorem zwq (s:ByteArray) (l:s.size<=maxLen) (d:0<s.size) (w:Zw) : Calls prog 57 #[I s] w fun g k=>g=.returned (U O (numE s.data.toList))/\k=w:=by
 unfold maxLen at l;go_enter func57,ntmps57;go_wp2;go_loop [3] (fun e=>∃a:Nat,a<=s.size/\e=U O a/\Hid ((s.data.toList.take a).all kX=true)) (fun e=>s.size - (intOf e).toNat)
 case atStart=>exact⟨0,jz _,rfl,by show _=_;simp⟩
 case round =>
  obtain⟨a,m,rfl,f⟩:=hrel;by_cases i:a<s.size
  ·cases h:zL (s[a].toNat:Int)
   all_goals
    go_wp2_with (go_at_call 56;refine(zbv _ _).mono ?_;rintro g k ⟨rfl,rfl⟩)
   ·go_ret;exact⟨fE (zm7 s a i h),rfl⟩
   ·go_round
    case rel=>exact⟨a+1,oA,oJ,zwd s a i h f.out⟩
    case measure=>simp[intOf];omega
  ·have b:Hid (s.data.toList.all kX=true):=by
    have c:=f.out;rw[jG (by rw[zak];omega)]at c;exact c
   go_wp2
   all_goals
    go_ret
    first
     | exact⟨fE (nA d b.out ‹_› ‹_›),rfl⟩
     | exact⟨fE (nB d b.out oz03y19 ‹_›),rfl⟩
     | exact⟨fE (nC d b.out oz03y19 ‹_› ‹_›),rfl⟩
     | exact⟨fE (nD d b.out oz03y19 ‹_› (by first | exact .inl ‹_› | exact .inr ‹_›)),rfl⟩
end lexs
namespace syn
open Go.RowKit
def cell4 (w:Zw) (g o:Nat) (v:Zv):Prop:=∃a x1 b c,v=Za #[a,x1,b,c]/\w.cell? (A g o F)=Z a/\w.cell? (A g (o+1) F)=Z x1/\w.cell? (A g (o+2) F)=Z b/\w.cell? (A g (o+3) F)=Z c
mutual
def Lies (P:Nat->Prop) (w:Zw):Tree->Zv->Prop
 | .node k x m ks,v=>∃a c,v=Za #[U O k,I x,U O m,J a ks.length c]/\(ks.length<=4611686018427387904/\ks.length<=c)/\(ks≠[]->∃g o,a=Z (A g o F)/\P g/\kQ P w ks g o)
def kQ (P:Nat->Prop) (w:Zw):List Tree->Nat->Nat->Prop
 | [],_,_=>True
 | t :: r,g,o=>(∃v,cell4 w g o v/\Lies P w t v)/\kQ P w r g (o+4)
end
mutual
theorem Lies.to {c Q:Nat->Prop} {w w':Zw} (d:∀a,c a->Q a) (s:∀a,c a->∀b,w'.cell? (A a b F)=w.cell? (A a b F)):∀ {f:Tree} {v:Zv},Lies c w f v->Lies Q w' f v
 | .node k x m ks,v,h=>by
  unfold Lies at h |-;obtain⟨g,i,j,q,p⟩:=h;refine⟨g,i,j,q,fun r=>?_⟩;obtain⟨n,b,l,e,o⟩:=p r;exact⟨n,b,l,d _ e,kQ.to d s e o⟩
theorem kQ.to {e Q:Nat->Prop} {w w':Zw} (f:∀b,e b->Q b) (c:∀b,e b->∀a,w'.cell? (A b a F)=w.cell? (A b a F)):∀ {g:List Tree} {d a:Nat},e d->kQ e w g d a->kQ Q w' g d a
 | [],d,a,hp,h=>by unfold kQ;trivial
 | t :: r,d,a,hp,h=>by
  unfold kQ at h |-;obtain⟨⟨v,⟨p,q,s,u,m,i,j,k,l⟩,n⟩,o⟩:=h;refine⟨⟨v,⟨p,q,s,u,m,?_,?_,?_,?_⟩,Lies.to f c n⟩,kQ.to f c hp o⟩;·rw[c _ hp];exact i
  ·rw[c _ hp];exact j
  ·rw[c _ hp];exact k
  ·rw[c _ hp];exact l
end
theorem kQ.get {e:Nat->Prop} {w:Zw}:∀ {d:List Tree} {c b:Nat},kQ e w d c b->∀(a:Nat) (hi:a<d.length),∃v,cell4 w c (b+a*4) v/\Lies e w d[a] v
 | [],c,b,h,a,hi=>by simp at hi
 | t :: r,c,b,h,a,hi=>by
  unfold kQ at h
  cases a with
  | zero=>simpa using h.1
  | succ a =>
   have:=kQ.get h.2 a (by simpa using hi);have f:b+(a+1)*4=b+4+a*4:=oA;rw[f];exact this
theorem Lies.below {w b:Zw} {e:Tree} {v:Zv} (f:Lies (·<w.heap.size) w e v) (d:Below w.heap.size w b):Lies (·<b.heap.size) b e v :=
 f.to (fun c a=>jo a d.size) (fun c a g=>d.cell (p:=(A c g F)) a)
theorem kQ.below {w d:Zw} {g:List Tree} {b a:Nat} (i:b<w.heap.size) (h:kQ (·<w.heap.size) w g b a) (f:Below w.heap.size w d):kQ (·<d.heap.size) d g b a :=
 h.to (fun e c=>jo c f.size) (fun e c a=>f.cell (p:=(A e a F)) c) i
theorem Lies.drew {w:Zw} {b:Tree} {v:Zv} (a:Lies (·<w.heap.size) w b v):Lies (·<w.drew.heap.size) w.drew b v :=
 Lies.to (w:=w) (w':=w.drew) (fun _ a=>a) (fun _ _ _=>rfl) a
theorem dI {c:Int} {e:ByteArray} {d:Int} {a:List Tree} {b:Nat} (hi:b<a.length):SizeOf.sizeOf a[b]<SizeOf.sizeOf (Tree.node c e d a):=by
 have f:=List.sizeOf_lt_of_mem (jH hi);simp;omega
end syn
namespace syn
open Go.RowKit
open lexs (Tok cellsOf tok_cells own_shape numE)
structure Rd (w:Zw) (r:Nat) (L:Zv) (ts:List Tok) (s:St):Prop where
 c0:w.cell? (A r 0 F)=Z L
 c1:w.cell? (A r 1 F)=Z (U O (s.i:Int))
 c2:w.cell? (A r 2 F)=Z (Y s.bad)
 f1:w.frozen? (A r 1 F)=X
 f2:w.frozen? (A r 2 F)=X
 own:w.ownsRow 0 76 3 L ts.length (cellsOf ts)
 ne:L.ownBlock≠Z r
 len:ts.length<=3000
 le:s.i<=ts.length
 num:∀t∈ts,t.kind=2->numE t.text=0/\t.text≠[]
theorem Rd.drewN {w:Zw} {r:Nat} {L:Zv} {ts:List Tok} {s:St} (a:Rd w r L ts s) (b:Nat):Rd (w.drewN b) r L ts s :=
 ⟨a.c0,a.c1,a.c2,a.f1,a.f2,a.own,a.ne,a.len,a.le,a.num⟩
theorem Rd.setAt {w:Zw} {r:Nat} {L:Zv} {ts:List Tok} {s:St} (a:Rd w r L ts s) (b:Nat) (hi:b<=ts.length):Rd (w.setCell (A r 1 F) (U O (b:Int))) r L ts { s with i:=b } :=
 ⟨by rw[jD _ _ _ _ oB];exact a.c0,jS _ _ _ a.c1,by rw[jD _ _ _ _ oB];exact a.c2,by simp[a.f1],by simp[a.f2],
  jU a.own a.ne _,a.ne,a.len,hi,a.num⟩
theorem Rd.setBad {w:Zw} {r:Nat} {L:Zv} {ts:List Tok} {s:St} (a:Rd w r L ts s):Rd (w.setCell (A r 2 F) (Y true)) r L ts s.fail :=
 ⟨by rw[jD _ _ _ _ oB];exact a.c0,by rw[jD _ _ _ _ oB];exact a.c1,jS _ _ _ a.c2,by simp[a.f1],by simp[a.f2],
  jU a.own a.ne _,a.ne,a.len,a.le,a.num⟩
abbrev Fr (r:Nat) (w w':Zw):Prop:=w.grownBy w' (Z r)
theorem Fr.refl (r:Nat) (w:Zw):Fr r w w:=World.grownBy.refl _ _
theorem Fr.drewN {r:Nat} {w b:Zw} (a:Fr r w b) (c:Nat):Fr r w (b.drewN c):=⟨a.os,a.tape,a.output,a.size,a.block⟩
theorem Fr.trans {r:Nat} {c d e:Zw} (a:Fr r c d) (b:Fr r d e):Fr r c e :=
 ⟨b.os.trans a.os,b.tape.trans a.tape,b.output.trans a.output,jp a.size b.size,fun h f g=>(b.block h (jo f a.size) g).trans (a.block h f g)⟩
theorem Fr.set {r:Nat} {w c:Zw} (a:Fr r w c) (o:Nat) (v:Zv):Fr r w (c.setCell (A r o F) v) :=
 ⟨a.os,a.tape,a.output,by rw[jQ];exact a.size,fun f e b=>(jP _ _ _ _ (fun d=>b (by rw[d]))).trans (a.block f e b)⟩
set_option maxRecDepth 100000 in
theorem yK (w:Zw) (r:Nat) (L:Zv) (ts:List Tok) (s:St) (c:Rd w r L ts s) : Calls prog 59 #[Zp (Z (A r 0 F))] w fun h n=>h=.returned (I (txt ts s))/\∃l,n=w.drewN l:=by
 have q:=kc76;obtain⟨p,f,g,u,v,own,B,len,k,num⟩:=c;obtain⟨a,bad⟩:=s;dsimp only at f g k;obtain⟨o,t,rfl,z,j⟩:=own_shape own;cases bad
 ·by_cases d:a<ts.length
  ·obtain⟨x,rfl⟩:=j oA;obtain⟨D,E,G⟩:=tok_cells own d
   have b:txt ts ⟨a,X⟩=if ts[a].kind==2 then empty else⟨ts[a].text.toArray⟩:=by
    unfold txt here;simp[d]
   rw[b];generalize ts[a].kind=m at *;generalize ts[a].text=C at *;have i:decide ((a:Int) ≥ (ts.length:Int))=X:=oE;cases y:(m==2)
   ·go_enter func59,ntmps59;go_wp2
    go_quiet (fail)
    exact oz03x16
   ·go_enter func59,ntmps59;exact oz03x16
  ·have b:txt ts ⟨a,X⟩=empty:=by
    unfold txt here;simp[d]
   rw[b];have i:decide ((a:Int) ≥ (ts.length:Int))=true:=oE;go_enter func59,ntmps59;exact oz03x16
 ·have b:txt ts ⟨a,true⟩=empty:=by unfold txt here;rfl
  rw[b];go_enter func59,ntmps59;exact oz03x16
theorem dR (w:Zw) (r:Nat) (L:Zv) (ts:List Tok) (s:St) (a:Rd w r L ts s) (c:ByteArray) (h:0<c.size) : Calls prog 30 #[Zp (Z (A r 0 F)),I c] w fun d g=>d=.returned (Y (eat ts c s).1)/\Rd g r L ts (eat ts c s).2/\Fr r w g:=by
 have f:=yK w r L ts s a;have l:=a.c1;have m:=a.f1;unfold eat
 cases e:eqS (txt ts s) c;·generalize txt ts s=k at *;unfold eqS at e;go_enter func30,ntmps30;go_wp2_with (go_at_call 59;refine f.mono ?_;rintro d j ⟨rfl,b,rfl⟩);go_ret;exact⟨rfl,a.drewN b,(Fr.refl _ _).drewN b⟩
 ·have o:=zdy h e;have n:=a.len;generalize txt ts s=k at *;unfold eqS at e;go_enter func30,ntmps30;go_wp2_with (go_at_call 59;refine f.mono ?_;rintro d j ⟨rfl,b,rfl⟩);go_ret;refine⟨rfl,?_,?_⟩;·exact(a.setAt (s.i+1) oA).drewN b
  ·exact((Fr.refl _ _).set _ _).drewN b
end syn
namespace syn
open Go.RowKit
open lexs (Tok qB zF uT vS)
def rv (k:Nat):ByteArray:=zK.getD k empty
variable {a:ByteArray}
theorem any_hit (b:ByteArray) (a:Nat) (d:a<14) (c:eqS (rv a) b=true):(zK.any fun e=>eqS e b)=true:=by
 rw[List.any_eq_true];refine⟨rv a,?_,c⟩;unfold rv;rw[List.getD_eq_getElem?_getD,List.getElem?_eq_getElem (show a<zK.length from d)];exact jH _
theorem any_none (c:ByteArray) (e:∀b,b<14->eqS (rv b) c=X):(zK.any fun d=>eqS d c)=X:=by
 rw[List.any_eq_false];intro d f;obtain⟨g,a,rfl⟩:=List.mem_iff_getElem.1 f;have:=e g a;unfold rv at this;rw[List.getD_eq_getElem?_getD,List.getElem?_eq_getElem a]at this;simpa using this
theorem ret_bool {a b:Bool} (c:a=b):Ending.returned (Y a)=.returned (Y b):=by rw[c]
theorem isName_letter (c:0<a.size) (b:qB (a[0].toNat:Int)=X):kE a=X:=by
 unfold kE;rw[lexs.headL a c,b];simp
theorem isName_inside (b:Nat) (e:b<a.size) (d:zF (a[b].toNat:Int)=X):kE a=X:=by
 have:a.data.toList.all (fun c=>zF (c.toNat:Int))=X:=by
  rw[List.all_eq_false];exact⟨a[b],by rw[<- lexs.getL a b e];exact jH _,by simp[d]⟩
 unfold kE;rw[this];simp
theorem isName_rest (d:1<=a.size/\a.size<=16) (h:qB (a[0].toNat:Int)=true) (f:∀b (j:b<a.size),zF (a[b].toNat:Int)=true):kE a=!(zK.any fun i=>eqS i a):=by
 have:a.data.toList.all (fun c=>zF (c.toNat:Int))=true:=by
  rw[List.all_eq_true];intro c g;obtain⟨b,e,rfl⟩:=List.mem_iff_getElem.1 g;rw[lexs.len_L]at e;exact f b e
 unfold kE;rw[this,lexs.headL a d.1,h,decide_eq_true d];simp
set_option maxRecDepth 100000 in
theorem rName (c:ByteArray) (w:Zw) : Calls prog 24 #[I c] w fun k l=>k=.returned (Y (kE c))/\Below w.heap.size w l:=by
 by_cases s:1<=c.size
 case neg =>
  rw[isName_short (fun d=>s d.1)];have N:(c.size:Int)<1:=oA;go_enter func24,ntmps24;go_wp2;go_ret;exact⟨rfl,Below.refl _ _⟩
 by_cases v:c.size<=16
 case neg =>
  rw[isName_short (fun d=>v d.2)];exact oz03x12
 cases r:qB (c[0].toNat:Int);·rw[isName_letter s r];exact oz03x12
 ·obtain⟨e,o⟩:∃e,e=kE c:=⟨_,rfl⟩
  rw[<- o];have n:Hid (e=kE c):=o;clear o;go_enter func24,ntmps24;go_wp2_with (go_at_call 53;refine(uT _ _).mono ?_;rintro k l ⟨rfl,f⟩;obtain rfl:=f.symm);go_loop [3] (fun g=>∃a:Nat,a<=c.size/\g=U O a/\Hid (∀b (d:b<c.size),b<a->zF (c[b].toNat:Int)=true)) (fun g=>c.size - (intOf g).toNat)
  case atStart=>exact⟨0,jz _,rfl,fun b _ d=>oA⟩
  case round =>
   obtain⟨a,m,rfl,h⟩:=hrel;by_cases K:a<c.size
   ·cases z:zF (c[a].toNat:Int);·have j:Hid (e=X):=n.out.trans (isName_inside a K z);go_wp2_with (go_at_call 54;refine(vS _ _).mono ?_;rintro k l ⟨rfl,f⟩;obtain rfl:=f.symm);go_ret;exact⟨ret_bool j.out.symm,Below.refl _ _⟩
    ·go_wp2_with (go_at_call 54;refine(vS _ _).mono ?_;rintro k l ⟨rfl,f⟩;obtain rfl:=f.symm)
     go_round
     case rel=>exact⟨a+1,oA,oJ,fun b d L=>by
      rcases jL b a with x | x
      ·exact h.out b d x
      ·have:b=a:=oA;subst this
       exact z⟩
     case measure=>simp[intOf];omega
   ·have u:Hid (e=!(zK.any fun t=>eqS t c)):=n.out.trans (isName_rest ⟨s,v⟩ r (fun b d=>h.out b d oA));clear h n r;go_wp2_with go_in;go_loopw [5] (fun g wr=>∃b:Nat,b<=14/\g=U O b/\(∀a,a<14->wr.cell? (A w.heap.size a F)=Z (I (rv a)))/\Below w.heap.size w wr/\Hid (∀a,a<b->eqS (rv a) c=X)) (fun g _=>14 - (intOf g).toNat)
    case atStart =>
     refine⟨0,oA,rfl,?_,bal _,fun a m=>oA⟩;intro a m;have G:a=0\/a=1\/a=2\/a=3\/a=4\/a=5\/a=6\/a=7\/a=8\/a=9\/a=10\/a=11\/a=12\/a=13:=oA;rcases G with rfl | rfl | rfl | rfl | rfl | rfl | rfl | rfl | rfl | rfl | rfl | rfl | rfl | rfl<;>simp<;>rfl
    case round =>
     obtain⟨b,M,rfl,q,p,h⟩:=hrel;by_cases B:b<14
     ·have y:=q b B;have D:Hid (∀a,a<14->wr.cell? (A w.heap.size a F)=Z (I (rv a))):=q;clear q;cases i:eqS (rv b) c
      ·have E:Hid (eqS (rv b) c=X):=i;unfold eqS at i;generalize rv b=t at y i;go_wp2;go_roundw
       case rel=>exact⟨b+1,oA,oJ,D.out,p,fun a m=>by
        rcases jL a b with d | d
        ·exact h.out a d
        ·have:a=b:=oA;subst this
         exact E.out⟩
       case measure=>simp[intOf];omega
      ·have j:Hid (e=X):=by
        show _=_;rw[u.out,any_hit c b B i];rfl
       unfold eqS at i;generalize rv b=t at y i;go_wp2;go_ret;exact⟨ret_bool j.out.symm,p⟩
     ·have j:Hid (e=true):=by
       show _=_;rw[u.out,any_none c (fun a m=>h.out a oA)];rfl
      go_wp2;go_ret;exact⟨ret_bool j.out.symm,p⟩
end syn
namespace syn
open Go.RowKit
open lexs (Tok qB zF)
def ztd (N:Nat) (w:Zw):Prop:=∀j,j<9->w.cell? (A N j F)=Z (I (sv j))/\w.cell? (A (N+1) j F)=Z (U O (so j))/\w.cell? (A (N+2) j F)=Z (U O (sl j))
theorem yaa (w:Zw):Calls prog 160 #[] w fun b a=>b=.returned (.tuple #[J (Z (A w.heap.size 0 F)) 9 9,J (Z (A (w.heap.size+1) 0 F)) 9 9,J (Z (A (w.heap.size+2) 0 F)) 9 9])/\ztd w.heap.size a/\Below w.heap.size w a:=by
 go_enter func160,ntmps160;go_wp2;refine jT (v:=.tuple #[J (Z (A w.heap.size 0 F)) 9 9,J (Z (A (w.heap.size+1) 0 F)) 9 9,J (Z (A (w.heap.size+2) 0 F)) 9 9]) (by simp[results,results160,go_sem]) rfl ⟨rfl,?_,((bal _).alloc oB _).alloc oH _⟩;intro d c;rcases cM c with rfl | rfl | rfl | rfl | rfl | rfl | rfl | rfl | rfl
 all_goals refine⟨?_,?_,?_⟩
 all_goals first | (simp[go_sem];done) | (simp[go_sem];rfl) | (simp[World.cell?,World.alloc];rfl)
set_option maxRecDepth 100000 in
theorem ya9 (c:ByteArray) (w:Zw) : Calls prog 144 #[I c] w fun m x=>m=.returned (.tuple #[U O (sign c).1,U O (sign c).2])/\Below w.heap.size w x:=by
 obtain⟨e,h⟩:∃e,e=sign c:=⟨_,rfl⟩
 rw[<- h];have l:Hid (e=sign c):=h;clear h;go_enter func144,ntmps144;go_wp2_with (go_at_call 160;refine(yaa _).mono ?_;rintro m D ⟨rfl,u,t⟩);go_loopw [7] (fun k wr=>∃b:Nat,b<=9/\k=U O b/\(∀a,a<9->wr.cell? (A w.heap.size a F)=Z (I (sv a))/\wr.cell? (A (w.heap.size+1) a F)=Z (U O (so a))/\wr.cell? (A (w.heap.size+2) a F)=Z (U O (sl a)))/\Below w.heap.size w wr/\Hid (∀a,a<b->eqS (sv a) c=X)) (fun k _=>9 - (intOf k).toNat)
 case atStart =>
  exact⟨0,oA,rfl,u,t,fun a o=>oA⟩
 case round =>
  obtain⟨b,C,rfl,j,i,g⟩:=hrel;by_cases p:b<9
  ·obtain⟨q,E,G⟩:=j b p;have r:Hid (∀a,a<9->wr.cell? (A w.heap.size a F)=Z (I (sv a))/\wr.cell? (A (w.heap.size+1) a F)=Z (U O (so a))/\wr.cell? (A (w.heap.size+2) a F)=Z (U O (sl a))):=j;clear j;cases d:eqS (sv b) c
   ·have s:Hid (eqS (sv b) c=X):=d;unfold eqS at d;generalize sv b=y at q d;go_wp2;go_roundw
    case rel=>exact⟨b+1,oA,oJ,r.out,i,fun a o=>by
     rcases jL a b with n | n
     ·exact g.out a n
     ·have:a=b:=oA;subst this
      exact s.out⟩
    case measure=>simp[intOf];omega
   ·have f:Hid (e=(so b,sl b)):=l.out.trans (zwv c b p g.out d);unfold eqS at d;generalize sv b=y at q d;generalize so b=B at *;generalize sl b=z at *;go_wp2
    go_quiet (fail)
    go_wp2;exact jT (v:=.tuple #[U O B,U O z]) (by simp[results,results144,go_sem]) rfl ⟨by rw[f.out],below_drewN i _⟩
  ·have f:Hid (e=(0,-1)):=l.out.trans (zci c (fun a o=>g.out a oA));go_wp2;exact jT (v:=.tuple #[U O 0,U O (-1)]) (by simp[results,results144,go_sem]) rfl ⟨by rw[f.out],i⟩
section
variable {w:Zw} {r:Nat} {L:Zv} {ts:List Tok} {s:St}
theorem Rd.below {d:Zw} (a:Rd w r L ts s) (b:Below w.heap.size w d):Rd d r L ts s:=by
 have c:r<w.heap.size:=jR w (A r 0 F) a.c0
 exact⟨(b.cell (p:=(A r 0 F)) c).trans a.c0,(b.cell (p:=(A r 1 F)) c).trans a.c1,(b.cell (p:=(A r 2 F)) c).trans a.c2,(b.frozen (p:=(A r 1 F)) c).trans a.f1,(b.frozen (p:=(A r 2 F)) c).trans a.f2,
  lexs.own_below a.own b,a.ne,a.len,a.le,a.num⟩
theorem Fr.below {b:Zw} (a:Below w.heap.size w b):Fr r w b:=⟨a.os,a.tape,a.output,a.size,fun d c _=>a.block d c⟩
theorem zI (h:Rd w r L ts s) (c:ByteArray) (i:0<c.size) : Calls prog 28 #[Zp (Z (A r 0 F)),I c] w fun d g=>d=.returned (.tuple #[])/\Rd g r L ts (kB ts c s)/\Fr r w g:=by
 have a:=dR w r L ts s h c i;unfold eat at a;unfold kB;cases f:eqS (txt ts s) c
 ·rw[f]at a;simp only[jr,if_false]at a |-;go_enter func28,ntmps28;go_wp2_with (go_at_call 30;refine a.mono ?_;rintro d j ⟨rfl,b,e⟩;have k:=b.c2;have l:=b.f2)
  go_end0
  exact⟨rfl,b.setBad,e.set _ _⟩
 ·rw[f]at a;simp only[if_true]at a |-;go_enter func28,ntmps28;go_wp2_with (go_at_call 30;refine a.mono ?_;rintro d j ⟨rfl,b,e⟩)
  go_end0
  exact⟨rfl,b,e⟩
end
theorem zoy {a b:ByteArray} (c:a=b):Ending.returned (I a)=.returned (I b):=by rw[c]
theorem zx1 {ts:List Tok} {s:St} (b:kE (txt ts s)=true):s.i<ts.length:=by
 have a:0<(txt ts s).size:=by
  rcases jL 0 (txt ts s).size with a | a
  ·exact a
  ·rw[isName_short oA]at b;exact absurd b oC
 exact zdy a (zjt _)
theorem name_size (ts:List Tok) (s:St):(name ts s).1.size<=16:=by
 unfold name;cases b:kE (txt ts s);·exact jz _
 ·simp only[if_true];rcases jL 16 (txt ts s).size with a | a
  ·rw[isName_short oA]at b;exact absurd b oC
  ·exact a
section
variable {w:Zw} {r:Nat} {L:Zv} {ts:List Tok} {s:St}
theorem gF (g:Rd w r L ts s) : Calls prog 29 #[Zp (Z (A r 0 F))] w fun b j=>b=.returned (I (name ts s).1)/\Rd j r L ts (name ts s).2/\Fr r w j:=by
 have h:=yK w r L ts s g;have t:=g.len;unfold name;cases e:kE (txt ts s)
 ·have c:=rName (txt ts s);rw[e]at c;simp only[jr,if_false];generalize txt ts s=m at *;clear e;go_enter func29,ntmps29
  go_wp2_with (first
   | (go_at_call 59;refine h.mono ?_;rintro b k ⟨rfl,f,rfl⟩)
   | (go_at_call 24;refine(c _).mono ?_;rintro b l ⟨rfl,d⟩;have a:=(g.drewN f).below d;have o:=a.c2;have q:=a.f2))
  go_ret;exact⟨rfl,a.setBad,(((Fr.refl _ _).drewN f).trans (Fr.below d)).set _ _⟩
 ·have u:=zx1 e;have c:=rName (txt ts s);rw[e]at c;simp only[if_true];generalize txt ts s=m at *;clear e;go_enter func29,ntmps29
  go_wp2_with (first
   | (go_at_call 59;refine h.mono ?_;rintro b k ⟨rfl,f,rfl⟩)
   | (go_at_call 24;refine(c _).mono ?_;rintro b l ⟨rfl,d⟩;have a:=(g.drewN f).below d;have n:=a.c1;have p:=a.f1))
  go_ret;refine⟨rfl,?_,(((Fr.refl _ _).drewN f).trans (Fr.below d)).set _ _⟩;exact a.setAt (s.i+1) oA
theorem fK (h:Rd w r L ts s) : Calls prog 60 #[Zp (Z (A r 0 F))] w fun b f=>b=.returned (U O (label ts s).1)/\Rd f r L ts (label ts s).2/\Fr r w f:=by
 have a:=dR w r L ts s h ⟨#[104,105,103,104]⟩ oC;unfold eat at a;unfold label;cases c:eqS (txt ts s) ⟨#[104,105,103,104]⟩
 ·rw[c]at a;simp only[jr,if_false]at a |-;clear c;go_enter func60,ntmps60
  go_wp2_with (first
   | (go_at_call 30;refine a.mono ?_;rintro b j ⟨rfl,e,d⟩)
   | (go_at_call 28;refine(zI e ⟨#[108,111,119]⟩ oC).mono ?_;rintro b k ⟨rfl,i,g⟩))
  go_ret;exact⟨rfl,i,d.trans g⟩
 ·rw[c]at a;simp only[if_true]at a |-;clear c;go_enter func60,ntmps60;go_wp2_with (go_at_call 30;refine a.mono ?_;rintro b j ⟨rfl,e,d⟩);go_ret;exact⟨rfl,e,d⟩
theorem zdw (t:Rd w r L ts s) : Calls prog 110 #[Zp (Z (A r 0 F))] w fun a c=>a=.returned (I (whole ts s).1)/\Rd c r L ts (whole ts s).2/\Fr r w c:=by
 have e:=gF t;have n:=name_size ts s;unfold whole;generalize name ts s=m at e n |-;obtain⟨B,b⟩:=m;simp only at e n |-;cases f:(eat ts ⟨#[46]⟩ b).1
 ·simp only[jr,if_false];have p:(eat ts ⟨#[46]⟩ b).2=b:=by unfold eat at f |-;split at f<;>simp_all
  have g:∀ {w:Zw},Rd w r L ts b->Calls prog 30 #[Zp (Z (A r 0 F)),I ⟨#[46]⟩] w fun a c=>a=.returned (Y X)/\Rd c r L ts b/\Fr r w c:=fun d=>by
   have:=dR _ _ _ _ _ d ⟨#[46]⟩ oC;rw[f,p]at this;exact this
  go_enter func110,ntmps110
  go_wp2_with (first
   | (go_at_call 29;refine e.mono ?_;rintro a v ⟨rfl,k,h⟩)
   | (go_at_call 30;refine(g k).mono ?_;rintro a x ⟨rfl,l,i⟩))
  go_ret;exact⟨rfl,l,h.trans i⟩
 ·simp only[if_true]
  have g:∀ {w:Zw},Rd w r L ts b->Calls prog 30 #[Zp (Z (A r 0 F)),I ⟨#[46]⟩] w fun a c=>a=.returned (Y true)/\Rd c r L ts (eat ts ⟨#[46]⟩ b).2/\Fr r w c:=fun d=>by
   have:=dR _ _ _ _ _ d ⟨#[46]⟩ oC;rw[f]at this;exact this
  have j:∀ {w:Zw},Rd w r L ts (eat ts ⟨#[46]⟩ b).2->Calls prog 29 #[Zp (Z (A r 0 F))] w fun a c=>a=.returned (I (name ts (eat ts ⟨#[46]⟩ b).2).1)/\Rd c r L ts (name ts (eat ts ⟨#[46]⟩ b).2).2/\Fr r w c:=fun d=>gF d
  have o:=name_size ts (eat ts ⟨#[46]⟩ b).2;generalize name ts (eat ts ⟨#[46]⟩ b).2=m at j o |-;obtain⟨C,y⟩:=m;simp only at j o |-;go_enter func110,ntmps110;go_wp2_with (fail);refine e.mono ?_;rintro a v ⟨rfl,k,h⟩;go_wp2_with (go_at_call 30;refine(g k).mono ?_;rintro a x ⟨rfl,l,i⟩);refine(j l).mono ?_;rintro a z ⟨rfl,u,q⟩;go_wp2;go_ret;refine⟨zoy ?_,u,(h.trans i).trans q⟩
  first | rfl | simp
end
end syn
namespace syn
open Go.RowKit
open lexs (Tok qB zF kX val numE tok_cells own_shape)
theorem val_append (a b:List UInt8):val (a++b)=val a*10 ^ b.length+val b:=by
 induction a with
 | nil=>simp[val]
 | cons c a ih =>
  rw[jK,val,val,ih,jb,Nat.pow_add,Nat.add_mul,Nat.mul_assoc,Nat.add_assoc]
theorem zw5 (b:List UInt8) (a:Nat) (c:a<b.length):val (b.take (a+1))=10*val (b.take a)+(b[a].toNat - 48):=by
 rw[List.take_succ_eq_append_getElem c,val_append];simp[val];omega
theorem zr1 (a:List UInt8) (b:Nat):val (a.take b)<=val a:=by
 have c:val a=val (a.take b)*10 ^ (a.drop b).length+val (a.drop b):=by rw[<- val_append,List.take_append_drop]
 have:=Nat.le_mul_of_pos_right (val (a.take b)) (Nat.pow_pos (show 0<10 by omega) (n:=(a.drop b).length));omega
theorem zx2 {b:List UInt8} (a:numE b=0):b.length<=19:=by
 unfold numE at a;split at a;·exact absurd a oC
 ·split at a;·exact absurd a oC
  ·split at a;·exact absurd a oC
   ·rename_i c;simp at c;omega
theorem zzs {b:List UInt8} (a:numE b=0) (e:b≠[]):b.all kX=true/\val b<9223372036854775808:=by
 cases c:b.all kX;·unfold numE at a;rw[jv c]at a;exact absurd a oC
 ·refine⟨rfl,?_⟩;cases d:(decide (1<b.length)&&b.headD 0==48)
  ·rw[lexs.numE_val b c e d]at a;split at a
   ·assumption
   ·exact absurd a oC
  ·unfold numE at a;rw[ju (by simp[c]),jv d]at a;exact absurd a oC
section
variable {w:Zw} {r:Nat} {L:Zv} {ts:List Tok} {s:St}
variable {b:Nat} {c d e f:Zv} {g:Zw}
theorem Rd.alloc (b:Rd w r L ts s) (a:Obj):Rd (w.alloc a) r L ts s:=b.below (bal a)
theorem Fr.alloc (b:Fr r w g) (a:Obj):Fr r w (g.alloc a):=b.trans (Fr.below (bal a))
theorem Lies.leaf (d:Nat->Prop) (w:Zw) (a:Int) (c:ByteArray) (b:Int):Lies d w (.node a c b []) (Za #[U O a,I c,U O b,J F 0 0]):=by
 unfold Lies;exact⟨F,0,rfl,⟨oB,oB⟩,fun e=>absurd rfl e⟩
structure Box4 (w:Zw) (N:Nat) (x0 x1 x2 x3:Zv):Prop where
 c0:w.cell? (A N 0 F)=Z x0
 c1:w.cell? (A N 1 F)=Z x1
 c2:w.cell? (A N 2 F)=Z x2
 c3:w.cell? (A N 3 F)=Z x3
 f0:w.frozen? (A N 0 F)=X
 f1:w.frozen? (A N 1 F)=X
 f2:w.frozen? (A N 2 F)=X
 f3:w.frozen? (A N 3 F)=X
theorem Box4.new (w:Zw) (a b c d:Zv) (T:TypeId):Box4 (w.alloc (Zc #[a,b,c,d] T)) w.heap.size a b c d:=by
 constructor<;>simp
theorem Box4.lt (a:Box4 w b c d e f):b<w.heap.size:=jR w (A b 0 F) a.c0
theorem Box4.fr (h:Box4 w b c d e f) (j:Fr r w g) (k:b≠r):Box4 g b c d e f:=by
 have i:=j.block b h.lt (by simpa using k)
 exact⟨(jM (a:=(A b 0 F)) i).trans h.c0,(jM (a:=(A b 1 F)) i).trans h.c1,(jM (a:=(A b 2 F)) i).trans h.c2,(jM (a:=(A b 3 F)) i).trans h.c3,
  (jN (a:=(A b 0 F)) i).trans h.f0,(jN (a:=(A b 1 F)) i).trans h.f1,(jN (a:=(A b 2 F)) i).trans h.f2,(jN (a:=(A b 3 F)) i).trans h.f3⟩
theorem Box4.alloc (a:Box4 w b c d e f) (g:Obj):Box4 (w.alloc g) b c d e f :=
 a.fr (r:=w.heap.size) (Fr.below (bal g)) (by have:=a.lt;omega)
theorem Box4.drewN (a:Box4 w b c d e f) (g:Nat):Box4 (w.drewN g) b c d e f:=⟨a.c0,a.c1,a.c2,a.c3,a.f0,a.f1,a.f2,a.f3⟩
theorem Box4.other {a M o:Nat} (b:Box4 w a c d e f) (g:M≠a) (v:Zv):Box4 (w.setCell (A M o F) v) a c d e f :=
 b.fr (r:=M) ((Fr.refl _ _).set o v) oA
theorem Box4.set2 (a:Box4 w b c d e f) (v:Zv):Box4 (w.setCell (A b 2 F) v) b c d v f :=
 ⟨by rw[jD _ _ _ _ oB];exact a.c0,by rw[jD _ _ _ _ oB];exact a.c1,jS _ _ _ a.c2,by rw[jD _ _ _ _ oB];exact a.c3,by simp[a.f0],by simp[a.f1],by simp[a.f2],by simp[a.f3]⟩
theorem Box4.set3 (a:Box4 w b c d e f) (v:Zv):Box4 (w.setCell (A b 3 F) v) b c d e v :=
 ⟨by rw[jD _ _ _ _ oB];exact a.c0,by rw[jD _ _ _ _ oB];exact a.c1,by rw[jD _ _ _ _ oB];exact a.c2,jS _ _ _ a.c3,by simp[a.f0],by simp[a.f1],by simp[a.f2],by simp[a.f3]⟩
theorem Rd.setNew (a:Rd w r L ts s) {N o:Nat} (c:N≠r) (b:L.ownBlock≠Z N) (v:Zv):Rd (w.setCell (A N o F) v) r L ts s :=
 ⟨by rw[jD _ _ _ _ oH];exact a.c0,by rw[jD _ _ _ _ oH];exact a.c1,by rw[jD _ _ _ _ oH];exact a.c2,by simp[a.f1],by simp[a.f2],
  jU a.own b _,a.ne,a.len,a.le,a.num⟩
theorem Fr.setNew (a:Fr r w g) {N o:Nat} (e:w.heap.size<=N) (v:Zv):Fr r w (g.setCell (A N o F) v) :=
 ⟨a.os,a.tape,a.output,by rw[jQ];exact a.size,fun d b c=>(jP _ _ _ _ oE).trans (a.block d b c)⟩
theorem Rd.put4 (g:Rd w r L ts s) {N:Nat} (b:N≠r) (a:L.ownBlock≠Z N) (c d e f:Zv):Rd ((((w.setCell (A N 0 F) c).setCell (A N 1 F) d).setCell (A N 2 F) e).setCell (A N 3 F) f) r L ts s :=
 (((g.setNew b a c).setNew b a d).setNew b a e).setNew b a f
theorem Fr.put4 (f:Fr r w g) {N:Nat} (a:w.heap.size<=N) (b c d e:Zv):Fr r w ((((g.setCell (A N 0 F) b).setCell (A N 1 F) c).setCell (A N 2 F) d).setCell (A N 3 F) e) :=
 (((f.setNew a b).setNew a c).setNew a d).setNew a e
theorem Rd.old (a:Rd w r L ts s) (d:w.heap.size<=b):b≠r/\L.ownBlock≠Z b:=by
 have e:r<w.heap.size:=jR w (A r 0 F) a.c0;exact⟨oA,fun c=>by have:=(a.own.lt b c).2;omega⟩
def fR (m:Int):Zv:=Za #[U O 15,I empty,U O m,J F 0 0]
def zal:Tree->Int
 | .node _ _ m _=>m
set_option maxRecDepth 100000 in
theorem zoz (d:Rd w r L ts s) : Calls prog 61 #[Zp (Z (A r 0 F))] w fun o K=>o=.returned (fR (zal (number ts s).1))/\Rd K r L ts (number ts s).2/\Fr r w K:=by
 have aj:=kc76;have ai:=kc25;have au:=d.setBad;have T:=d;have aC:r<w.heap.size:=jR w (A r 0 F) d.c0;obtain⟨ah,Q,R,ak,am,own,a8,len,a7,num⟩:=T;obtain⟨c,bad⟩:=s;dsimp only at Q R a7;obtain⟨ag,S,rfl,aB,W⟩:=own_shape own;cases bad
 ·by_cases q:c<ts.length
  ·obtain⟨h,rfl⟩:=W oA;obtain⟨ae,af,aQ⟩:=tok_cells own q;have az:h≠r:=fun o=>a8 (by rw[o];rfl)
   have ay:h<w.heap.size:=jR w (A h _ F) ae
   have g:number ts ⟨c,X⟩=if ts[c].kind==2 then(.node 15 empty (val ts[c].text:Int) [],St.next ⟨c,X⟩)else(.node 15 empty 0 [],St.fail ⟨c,X⟩):=by
    unfold number here;simp[q]
   rw[g];have k:=num ts[c] (jH _);generalize ts[c].kind=x at *;generalize ts[c].text=G at *;have V:decide ((c:Int) ≥ (ts.length:Int))=X:=oE;cases e:(x==2)
   ·have a3:(x != 2)=true:=by simp[bne,e]
    exact zdt
   ·have a3:(x != 2)=X:=by simp[bne,e]
    obtain⟨z,l⟩:=zzs (k (by simpa using e)).1 (k (by simpa using e)).2;have a5:=zx2 (k (by simpa using e)).1;obtain⟨a,t⟩:∃a:ByteArray,a=⟨G.toArray⟩:=⟨_,rfl⟩
    have a6:a.data.toList=G:=by rw[t]
    rw[<- t]at af;clear t k;subst a6;rw[lexs.len_L]at a5;have M:Hid (a.data.toList.all kX=true):=z;have P:Hid (val a.data.toList<9223372036854775808):=l;clear z l;go_enter func61,ntmps61;go_wp2
    go_quiet (fail)
    go_wp2
    go_quiet (fail)
    go_wp2;go_loopw [5] (fun u wr=>∃(b:Nat),b<=a.size/\u=U O b/\Box4 wr w.heap.size (U O 0) (I empty) (U O 0) (J F 0 0)/\Box4 wr (w.heap.size+1) (U O 15) (I empty) (U O (val (a.data.toList.take b):Int)) (J F 0 0)/\Rd wr r (J (Z (A h 0 F)) ts.length S) ts ⟨c,X⟩/\Fr r w wr) (fun u _=>a.size - (intOf u).toNat)
    case atStart =>
     refine⟨0,jz _,rfl,?_,?_,(((d.alloc _).alloc _).drewN _).drewN _,((((Fr.refl _ _).alloc _).alloc _).drewN _).drewN _⟩;·exact(((Box4.new _ _ _ _ _ _).alloc _).drewN _).drewN _
     ·have i:=Box4.new (w.alloc (Zc #[U O 0,I empty,U O 0,J F 0 0] 25)) (U O 15) (I empty) (U O 0) (J F 0 0) 25;rw[jO]at i;exact(i.drewN _).drewN _
    case round =>
     obtain⟨b,aA,rfl,B,p,j,y⟩:=hrel;have aD:=p.lt;have N:Hid (Box4 wr (w.heap.size+1) (U O 15) (I empty) (U O (val (a.data.toList.take b):Int)) (J F 0 0)):=p;obtain⟨aJ,aK,a9,aL,an,ao,ap,ar⟩:=p;by_cases f:b<a.size
     ·have aw:=lexs.dig_bounds (by have:=List.all_eq_true.1 M.out a[b] (by rw[<- lexs.getL a b f];exact jH _);exact this:kX a[b]=true);have m:=zw5 a.data.toList b (by rw[lexs.len_L];exact f);have D:=zr1 a.data.toList (b+1);rw[m,lexs.getL a b f]at D;rw[lexs.getL a b f]at m;have l:=P.out;have n:Hid (((val (a.data.toList.take (b+1)):Nat):Int)=10*(val (a.data.toList.take b):Int)+((a[b].toNat:Int) - 48)):=by show _=_;rw[m];omega
      have C:Hid (b+1<=a.size):=f;have aF:IntKind.i64.wrap (10*(val (a.data.toList.take b):Int))=10*(val (a.data.toList.take b):Int):=oU;have aG:IntKind.u8.wrap ((a[b].toNat:Int) - 48)=(a[b].toNat:Int) - 48:=by rw[IntKind.wrap_u8];omega
      have aH:IntKind.i64.wrap ((a[b].toNat:Int) - 48)=(a[b].toNat:Int) - 48:=oU;have aI:IntKind.i64.wrap (10*(val (a.data.toList.take b):Int)+((a[b].toNat:Int) - 48))=10*(val (a.data.toList.take b):Int)+((a[b].toNat:Int) - 48):=oU;have aE:10*(val (a.data.toList.take b):Int)+((a[b].toNat:Int) - 48)<=9223372036854775807:=oA;clear m D l;go_wp2;go_region
      all_goals
       go_wp2;go_roundw
       case rel =>
        refine⟨b+1,C.out,oJ,?_,?_,?_,?_⟩;·exact(B.other oA _).drewN 1
        ·rw[n.out];exact(N.out.set2 _).drewN 1
        ·exact(j.setNew oA (d.old oA).2 _).drewN 1
        ·exact(y.setNew oA _).drewN 1
       case measure=>have:=C.out;simp[intOf];omega
     ·have a2:b=a.size:=oA;subst a2;have n:Hid (a.data.toList.take a.size=a.data.toList):=by show _=_;rw[jG (by rw[lexs.len_L];exact jE _)]
      rw[n.out]at a9;have av:=j.c1;have ax:=j.f1;obtain⟨aa,ab,ac,ad,aM,aN,aO,aP⟩:=B;go_wp2;refine jT (v:=fR (val a.data.toList:Int)) (by simp[results,results61,go_sem,fR,empty,aa,ab,ac,ad]) rfl ⟨rfl,?_,?_⟩;·exact(j.setAt (c+1) oA).put4 (d.old (jE _)).1 (d.old (jE _)).2 _ _ _ _
      ·exact(y.set _ _).put4 (jE _) _ _ _ _
  ·have g:number ts ⟨c,X⟩=(.node 15 empty 0 [],St.fail ⟨c,X⟩):=by
    unfold number here;simp[q]
   rw[g];have V:decide ((c:Int) ≥ (ts.length:Int))=true:=oE;exact zdt
 ·have g:number ts ⟨c,true⟩=(.node 15 empty 0 [],St.fail ⟨c,true⟩):=by unfold number here;rfl
  rw[g];exact zdt
end
end syn
namespace syn
open Go.RowKit
open lexs (Tok tok_cells own_shape)
def Ans (w:Zw) (r:Nat) (L:Zv) (ts:List Tok) (q:Tree × St) (e:Ending) (w':Zw):Prop :=
 ∃v,e=.returned v/\Lies (fun b=>w.heap.size<=b/\b<w'.heap.size) w' q.1 v/\Rd w' r L ts q.2/\Fr r w w'
section
variable {w:Zw} {r:Nat} {L:Zv} {ts:List Tok} {s:St}
variable {b c:Nat} {d:Tree} {e f:Zw} {g h i j:Zv} {k:Tree × St}
theorem Rd.lt (a:Rd w r L ts s):r<w.heap.size:=jR w (A r 0 F) a.c0
theorem Lies.shape {h:Nat->Prop} {v:Zv} (g:Lies h w d v):∃c f e sl,v=Za #[U O c,I f,U O e,sl]/\∃a j b,sl=J a j b:=by
 cases d with
 | node c f e i =>
  unfold Lies at g;obtain⟨a,b,rfl,_⟩:=g;exact⟨c,f,e,_,rfl,a,i.length,b,rfl⟩
theorem Lies.fr {v:Zv} (i:Lies (fun c=>b<=c/\c<e.heap.size) e d v) (k:r<b) (h:Fr r e f):Lies (fun c=>b<=c/\c<f.heap.size) f d v :=
 i.to (fun c g=>⟨g.1,jo g.2 h.size⟩) (fun c g j=>jM (a:=(A c j F)) (h.block c g.2 oE))
theorem Lies.low {v:Zv} (f:Lies (fun a=>b<=a/\a<w.heap.size) w d v) (g:c<=b):Lies (fun a=>c<=a/\a<w.heap.size) w d v :=
 f.to (fun a e=>⟨jp g e.1,e.2⟩) (fun _ _ _=>rfl)
theorem Fr.put (w:Zw) (a:Nat) (b c d e:Zv):Fr a w ((((w.setCell (A a 0 F) b).setCell (A a 1 F) c).setCell (A a 2 F) d).setCell (A a 3 F) e) :=
 ((((Fr.refl _ _).set _ _).set _ _).set _ _).set _ _
theorem Ans.fin {s3:St} {t:Tree} (c:Rd w r L ts s) (f:Fr r w e) (l:Rd e r L ts s3) (d:w.heap.size<b) (k:Lies (fun a=>b<=a/\a<e.heap.size) e t (Za #[g,h,i,j])) : Ans w r L ts (t,s3) (.returned (Za #[g,h,i,j])) ((((e.setCell (A w.heap.size 0 F) g).setCell (A w.heap.size 1 F) h).setCell (A w.heap.size 2 F) i).setCell (A w.heap.size 3 F) j) :=
 ⟨_,rfl,(k.fr d (Fr.put _ _ _ _ _ _)).low oA,l.put4 (c.old (jE _)).1 (c.old (jE _)).2 _ _ _ _,f.put4 (jE _) _ _ _ _⟩
theorem Fr.al (w:Zw) (a:Obj):Fr r w (w.alloc a):=(Fr.refl _ _).alloc a
theorem yac (ih:∀ {w:Zw} {s:St} {k:Tree × St},Rd w r L ts s->kM ts b s=Z k->Calls prog 109 #[Zp (Z (A r 0 F))] w (Ans w r L ts k)) (g:Rd w r L ts s) (a:qY ts (b+1) s=Z k):Calls prog 107 #[Zp (Z (A r 0 F))] w (Ans w r L ts k):=by
 have G:=kc25;have K:=g.lt;unfold qY at a
 cases d:kM ts b (kB ts ⟨#[40]⟩ s)with
 | none=>rw[d]at a;simp at a
 | some R =>
  rw[d]at a;simp only[jf,jh]at a;subst a;have q:=Box4.new w (U O 0) (I empty) (U O 0) (J F 0 0) 25;go_enter func107,ntmps107;go_wp2_with (fail);refine(zI (g.alloc _) ⟨#[40]⟩ oC).mono ?_;rintro j a3 ⟨rfl,t,e⟩;go_wp2_with (fail);refine(ih t d).mono ?_;rintro j D ⟨a2,rfl,l,u,f⟩;obtain⟨m,p,n,_,rfl,h,o,i,rfl⟩:=l.shape;go_wp2_with (fail);refine(zI (u.alloc _) ⟨#[41]⟩ oC).mono ?_;rintro j a5 ⟨rfl,x,c⟩;have E:=e.size;have a6:=f.size;rw[jO]at E;obtain⟨y,z,B,C,S,T,V,W⟩:=(((q.fr e oA).fr f oA).alloc _).fr c oA;obtain⟨M,N,P,Q,_,_,_,_⟩:=(Box4.new D (U O m) (I p) (U O n) (J h o i) 25).fr c oA;go_wp2
  exact jT (v:=Za #[U O m,I p,U O n,J h o i]) (by simp[results,results107,go_sem,y,z,B,C]) rfl
   (Ans.fin g ((((Fr.al _ _).trans e).trans f).trans ((Fr.al _ _).trans c)) x oA (l.fr oA ((Fr.al _ _).trans c)))
theorem zis (w:Zw) {a:TypeId} (c:b=w.heap.size):cell4 (w.alloc (Zc #[g,h,i,j] a)) b 0 (Za #[g,h,i,j]):=by
 subst c;exact⟨g,h,i,j,rfl,oB,oB,oB,oB⟩
theorem Lies.one {a:Nat->Prop} {v:Zv} {e f:Int} {g:ByteArray} (j:a b) (h:cell4 w b 0 v) (i:Lies a w d v) (k:1<=c:=by omega):Lies a w (.node e g f [d]) (Za #[U O e,I g,U O f,J (Z (A b 0 F)) 1 c]):=by
 unfold Lies;refine⟨Z (A b 0 F),c,rfl,⟨oB,by simpa using k⟩,fun _=>⟨b,0,rfl,j,?_⟩⟩;unfold kQ;exact⟨⟨v,h,i⟩,by unfold kQ;trivial⟩
theorem Ans.row {m:St} {o:TypeId} {k l:Int} {n:ByteArray} (f:Fr r w e) (t:Rd e r L ts m) (q:Lies (fun a=>w.heap.size<=a/\a<e.heap.size) e d (Za #[g,h,i,j])) (s:b=e.heap.size) : Ans w r L ts (.node k n l [d],m) (.returned (Za #[U O k,I n,U O l,J (Z (A b 0 F)) 1 1])) (e.alloc (Zc #[g,h,i,j] o)):=by
 have v:=f.size;refine⟨_,rfl,?_,t.alloc _,f.alloc _⟩;refine Lies.one ⟨oA,oG⟩ (zis _ s) ?_;exact q.to (fun a c=>⟨c.1,oG⟩) (fun a c u=>((Below.refl e.heap.size e).alloc (jE _) _).cell (p:=(A a u F)) c.2)
theorem yag (ih:∀ {w:Zw} {s:St} {k:Tree × St},Rd w r L ts s->kM ts b s=Z k->Calls prog 109 #[Zp (Z (A r 0 F))] w (Ans w r L ts k)) (f:Rd w r L ts s) (h:ByteArray) (a:qZ ts (b+1) h s=Z k):Calls prog 112 #[Zp (Z (A r 0 F)),I h] w (Ans w r L ts k):=by
 have a2:=kc25;have a3:=f.lt;have t:=Box4.new w (U O 0) (I empty) (U O 0) (J F 0 0) 25;have c:=dR _ r L ts s (f.alloc (Zc #[U O 0,I empty,U O 0,J F 0 0] 25)) ⟨#[91]⟩ oC;unfold eat at c;unfold qZ at a;cases g:eqS (txt ts s) ⟨#[91]⟩
 ·rw[g]at c a;simp only[jr,if_false,jh]at c a;subst a;clear g;go_enter func112,ntmps112;go_wp2_with (fail);refine c.mono ?_;rintro i x ⟨rfl,m,d⟩;obtain⟨n,o,p,q,N,P,Q,R⟩:=t.fr d oA;go_wp2
  exact jT (v:=Za #[U O 16,I h,U O 0,J F 0 0]) (by simp[results,results112,go_sem,n,o,p,q]) rfl
   (Ans.fin f ((Fr.al _ _).trans d) m (Nat.lt_succ_self _) (Lies.leaf _ _ _ _ _))
 ·rw[g]at c a;simp only[if_true]at c a;clear g
  cases j:kM ts b s.next with
  | none=>rw[j]at a;simp at a
  | some a9 =>
   rw[j]at a;simp only[jf,jh]at a;subst a;go_enter func112,ntmps112;go_wp2_with (fail);refine c.mono ?_;rintro i x ⟨rfl,m,d⟩;go_wp2_with (fail);refine(ih m j).mono ?_;rintro i S ⟨aa,rfl,u,C,l⟩;obtain⟨G,T,K,_,rfl,z,M,B,rfl⟩:=u.shape;go_wp2_with (fail);refine(zI (C.alloc _) ⟨#[93]⟩ oC).mono ?_;rintro i y ⟨rfl,D,e⟩;have V:=d.size;have ab:=l.size;have W:=e.size;rw[jO]at V W;obtain⟨n,o,p,q,N,P,Q,R⟩:=(((t.fr d oA).fr l oA).alloc _).fr e oA;obtain⟨a5,a6,a7,a8,_,_,_,_⟩:=(Box4.new S (U O G) (I T) (U O K) (J z M B) 25).fr e oA;have E:w.heap.size<y.heap.size:=oA;go_wp2;refine jT (v:=Za #[U O 17,I h,U O 0,J (Z (A y.heap.size 0 F)) 1 1]) (by simp[results,results112,go_sem,n,o,p,q,E]) rfl ?_
   exact Ans.row (((((Fr.al _ _).trans d).trans l).trans ((Fr.al _ _).trans e)).put4 (jE _) _ _ _ _) (D.put4 (f.old (jE _)).1 (f.old (jE _)).2 _ _ _ _)
    (((u.fr oA ((Fr.al _ _).trans e)).fr (show w.heap.size<x.heap.size by omega) (Fr.put _ _ _ _ _ _)).low oA) oB
theorem ybf (ih:∀ {w:Zw} {s:St} {k:Tree × St},Rd w r L ts s->qL ts b 0 s=Z k->Calls prog 131 #[Zp (Z (A r 0 F)),U O 0] w (Ans w r L ts k)) (c:Rd w r L ts s) (a:kM ts (b+1) s=Z k):Calls prog 109 #[Zp (Z (A r 0 F))] w (Ans w r L ts k):=by
 have z:=kc25;have C:=c.lt;have j:=Box4.new w (U O 0) (I empty) (U O 0) (J F 0 0) 25;have e:=c.c2;unfold kM at a;cases g:s.bad
 ·rw[g]at a e;simp only[jr,if_false]at a;go_enter func109,ntmps109;go_wp2_with (fail);refine(ih (c.alloc _) a).mono ?_;rintro B N ⟨M,rfl,f,l,d⟩;obtain⟨m,x,n,_,rfl,h,o,i,rfl⟩:=f.shape;have y:=d.size;rw[jO]at y;obtain⟨p,q,t,u,D,E,G,K⟩:=j.fr d oA;go_wp2
  exact jT (v:=Za #[U O m,I x,U O n,J h o i]) (by simp[results,results109,go_sem,p,q,t,u]) rfl
   (Ans.fin c ((Fr.al _ _).trans d) l oG f)
 ·rw[g]at a e;simp only[if_true,jh]at a;subst a;go_enter func109,ntmps109;go_wp2
  exact jT (v:=Za #[U O 0,I empty,U O 0,J F 0 0]) (by simp[results,results109,go_sem,empty]) rfl
   ⟨_,rfl,Lies.leaf _ _ _ _ _,c.alloc _,Fr.al _ _⟩
end
section
variable {r:Nat} {L:Zv} {ts:List Tok} {s:St}
theorem zhr (ts:List Tok) (s:St):(number ts s).1=.node 15 empty (zal (number ts s).1) []:=by
 unfold number;split;·rfl
 ·split<;>rfl
theorem ztw {ts:List Tok} {s:St} (a:vY ts s=true):s.bad=X/\∃d:s.i<ts.length,(ts[s.i].kind==2)=true:=by
 unfold vY here at a;cases c:s.bad
 ·rw[c]at a;rcases jL s.i ts.length with b | b
  ·refine⟨rfl,b,?_⟩;simpa[b] using a
  ·rw[List.getElem?_eq_none b]at a;simp at a
 ·rw[c]at a;simp at a
theorem zj1 {ts:List Tok} {s:St} (a:vY ts s=X) (b:s.bad=X) (c:s.i<ts.length):(ts[s.i].kind==2)=X:=by
 unfold vY here at a;rw[b]at a;simpa[c] using a
theorem zU {w:Zw} (e:Rd w r L ts s) (a:ByteArray) (g:0<a.size) (f:eqS (txt ts s) a=true) : Calls prog 30 #[Zp (Z (A r 0 F)),I a] w fun d c=>d=.returned (Y true)/\Rd c r L ts s.next/\Fr r w c:=by
 have b:=dR _ r L ts s e a g;unfold eat at b;rw[f]at b;simpa using b
theorem kS {w:Zw} (e:Rd w r L ts s) (a:ByteArray) (g:0<a.size) (f:eqS (txt ts s) a=X) : Calls prog 30 #[Zp (Z (A r 0 F)),I a] w fun d c=>d=.returned (Y X)/\Rd c r L ts s/\Fr r w c:=by
 have b:=dR _ r L ts s e a g;unfold eat at b;rw[f]at b;simpa using b
set_option maxRecDepth 100000 in
theorem yah {P:Nat} (aG:∀ {w:Zw} {s:St} {q:Tree × St},Rd w r L ts s->zQ ts P s=Z q->Calls prog 143 #[Zp (Z (A r 0 F))] w (Ans w r L ts q)) (aP:∀ {w:Zw} {s:St} {q:Tree × St},Rd w r L ts s->qY ts P s=Z q->Calls prog 107 #[Zp (Z (A r 0 F))] w (Ans w r L ts q)) (aR:∀ {w:Zw} {s:St} {q:Tree × St} (aa:ByteArray),Rd w r L ts s->qZ ts P aa s=Z q->Calls prog 112 #[Zp (Z (A r 0 F)),I aa] w (Ans w r L ts q)) (aQ:∀ {w:Zw} {s:St} {q:Tree × St} (aa:ByteArray),Rd w r L ts s->zV ts P aa s=Z q->Calls prog 111 #[Zp (Z (A r 0 F)),I aa] w (Ans w r L ts q)) {w:Zw} (i:Rd w r L ts s) {q:Tree × St} (a:zQ ts (P+1) s=Z q):Calls prog 143 #[Zp (Z (A r 0 F))] w (Ans w r L ts q):=by
 have b6:=kc25;have b7:=kc76;have b8:=i.lt;have V:=Box4.new w (U O 0) (I empty) (U O 0) (J F 0 0) 25;unfold zQ at a;cases j:eqS (txt ts s) ⟨#[45]⟩
 case true =>
  rw[j]at a;simp only[if_true]at a
  cases Q:zQ ts P s.next with
  | none=>rw[Q]at a;simp at a
  | some aV =>
   rw[Q]at a;simp only[jf,jh]at a;subst a;go_enter func143,ntmps143;go_wp2_with (fail);refine(zU (i.alloc _) ⟨#[45]⟩ oC j).mono ?_;rintro c a3 ⟨rfl,b,d⟩;have o:=(Fr.al w _).trans d;have f:=V.fr d oA;have a2:=f.lt;go_wp2_with (fail);refine(aG b Q).mono ?_;rintro c y ⟨aW,rfl,ab,aA,W⟩;obtain⟨a7,S,a8,_,rfl,T,k,am,rfl⟩:=ab.shape;have b1:=d.size;have b2:=W.size;obtain⟨D,E,G,K,ag,ah,ai,aj⟩:=f.fr W oA;have aF:w.heap.size<y.heap.size:=oA;go_wp2;refine jT (v:=Za #[U O 20,I empty,U O 0,J (Z (A (y.heap.size+1) 0 F)) 1 1]) oz03y20 rfl ?_;exact znc
 case false =>
  rw[j]at a;simp only[jr,if_false]at a;cases l:eqS (txt ts s) ⟨#[33]⟩
  case true =>
   rw[l]at a;simp only[if_true]at a
   cases Q:zQ ts P s.next with
   | none=>rw[Q]at a;simp at a
   | some aV =>
    rw[Q]at a;simp only[jf,jh]at a;subst a;go_enter func143,ntmps143;go_wp2_with (fail);refine(kS (i.alloc _) ⟨#[45]⟩ oC j).mono ?_;rintro c ak ⟨rfl,p,g⟩;go_wp2_with (fail);refine(zU p ⟨#[33]⟩ oC l).mono ?_;rintro c a3 ⟨rfl,b,d⟩;have o:=((Fr.al w _).trans g).trans d;have f:=(V.fr g oA).fr d oA;have a2:=f.lt;go_wp2_with (fail);refine(aG b Q).mono ?_;rintro c y ⟨aW,rfl,ab,aA,W⟩;obtain⟨a7,S,a8,_,rfl,T,k,am,rfl⟩:=ab.shape;have b1:=d.size;have b2:=W.size;obtain⟨D,E,G,K,ag,ah,ai,aj⟩:=f.fr W oA;have aF:w.heap.size<y.heap.size:=oA;go_wp2;refine jT (v:=Za #[U O 21,I empty,U O 0,J (Z (A (y.heap.size+1) 0 F)) 1 1]) oz03y20 rfl ?_;exact znc
  case false =>
   rw[l]at a;simp only[jr,if_false]at a;have z:∀ {w:Zw},Rd w r L ts s->Calls prog 59 #[Zp (Z (A r 0 F))] w fun c x=>c=.returned (I (txt ts s))/\∃k,x=w.drewN k:=fun e=>yK _ r L ts s e
   cases n:eqS (txt ts s) ⟨#[40]⟩
   case true =>
    rw[n]at a;simp only[if_true]at a;have n:(txt ts s).toList==[40]:=(eqS_lit _ _).symm.trans n;go_enter func143,ntmps143;go_wp2_with (fail);refine(kS (i.alloc _) ⟨#[45]⟩ oC j).mono ?_;rintro c ak ⟨rfl,p,g⟩;go_wp2_with (fail);refine(kS p ⟨#[33]⟩ oC l).mono ?_;rintro c a3 ⟨rfl,b,d⟩;have o:=((Fr.al w _).trans g).trans d;have f:=(V.fr g oA).fr d oA;have a2:=f.lt;clear j l;generalize txt ts s=S at z n
    go_wp2_with (first
     | (go_at_call 59;refine(z b).mono ?_;rintro c y ⟨rfl,k,rfl⟩)
     | (go_at_call 107;refine(aP (b.drewN k) a).mono ?_;rintro c ap ⟨ba,rfl,ay,t,m⟩;obtain⟨a7,S,a8,_,rfl,T,ao,am,rfl⟩:=ay.shape;obtain⟨D,E,G,K,ag,ah,ai,aj⟩:=(f.drewN k).fr m oA))
    exact jT (v:=Za #[U O a7,I S,U O a8,J T ao am]) (by simp[results,results143,go_sem,D,E,G,K]) rfl
     (Ans.fin i ((o.drewN k).trans m) t a2 ay)
   case false =>
    rw[n]at a;simp only[jr,if_false]at a;have n:((txt ts s).toList==[40])=X:=(eqS_lit _ _).symm.trans n;cases B:vY ts s
    case true =>
     rw[B]at a;simp only[if_true,jh]at a;subst a;have a5:∀ {w:Zw},Rd w r L ts s->Calls prog 61 #[Zp (Z (A r 0 F))] w fun c x=>c=.returned (fR (zal (number ts s).1))/\Rd x r L ts (number ts s).2/\Fr r w x:=fun e=>zoz e
     have af:=zhr ts s;unfold fR at a5;generalize number ts s=aT at a5 af |-;obtain⟨aU,b9⟩:=aT;dsimp only at a5 af |-;generalize zal aU=ao at a5 af;subst af;obtain⟨u,R,aB⟩:=ztw B;go_enter func143,ntmps143;go_wp2_with (fail);refine(kS (i.alloc _) ⟨#[45]⟩ oC j).mono ?_;rintro c ak ⟨rfl,p,g⟩;go_wp2_with (fail);refine(kS p ⟨#[33]⟩ oC l).mono ?_;rintro c a3 ⟨rfl,b,d⟩;have o:=((Fr.al w _).trans g).trans d;have f:=(V.fr g oA).fr d oA;have a2:=f.lt;clear j l B;generalize txt ts s=S at z n;go_wp2_with (fail);refine(z b).mono ?_;rintro c y ⟨rfl,k,rfl⟩;have ar:=b.c0;have au:=b.c1;have N:=b.c2;have aD:=b.len;have aC:=b.le;obtain⟨T,av,rfl,aE,a6⟩:=own_shape b.own;obtain⟨aw,rfl⟩:=a6 oA;obtain⟨aI,aJ,aK⟩:=tok_cells b.own R;rw[u]at N;generalize ts[s.i].kind=aH at *;generalize s.i=aO at *;have ae:decide ((aO:Int)<(ts.length:Int))=true:=oE;go_wp2
     go_quiet (fail)
     go_wp2_with (go_at_call 61;refine(a5 (b.drewN _)).mono ?_;rintro c ap ⟨rfl,t,m⟩;obtain⟨D,E,G,K,ag,ah,ai,aj⟩:=(f.drewN _).fr m oA)
     exact jT (v:=Za #[U O 15,I empty,U O ao,J F 0 0]) (by simp[results,results143,go_sem,D,E,G,K]) rfl
      (Ans.fin i ((o.drewN _).trans m) t (Nat.lt_succ_self _) (Lies.leaf _ _ _ _ _))
    case false =>
     rw[B]at a;simp only[jr,if_false]at a;have ad:∀ {w:Zw},Rd w r L ts s->Calls prog 110 #[Zp (Z (A r 0 F))] w fun c x=>c=.returned (I (whole ts s).1)/\Rd x r L ts (whole ts s).2/\Fr r w x:=fun e=>zdw e
     generalize whole ts s=aY at ad a;obtain⟨be,M⟩:=aY;dsimp only at ad a;have ac:∀ {w:Zw},Rd w r L ts M->Calls prog 59 #[Zp (Z (A r 0 F))] w fun c x=>c=.returned (I (txt ts M))/\∃k,x=w.drewN k:=fun e=>yK _ r L ts M e
     cases C:eqS (txt ts M) ⟨#[40]⟩
     case true =>
      rw[C]at a;simp only[if_true]at a;have C:((txt ts M).toList==[40])=true:=(eqS_lit _ _).symm.trans C;generalize txt ts M=aK at ac C;go_enter func143,ntmps143;go_wp2_with (fail);refine(kS (i.alloc _) ⟨#[45]⟩ oC j).mono ?_;rintro c ak ⟨rfl,p,g⟩;go_wp2_with (fail);refine(kS p ⟨#[33]⟩ oC l).mono ?_;rintro c a3 ⟨rfl,b,d⟩;have o:=((Fr.al w _).trans g).trans d;have f:=(V.fr g oA).fr d oA;have a2:=f.lt;clear j l;generalize txt ts s=S at z n;go_wp2_with (fail);refine(z b).mono ?_;rintro c y ⟨rfl,k,rfl⟩;have ar:=b.c0;have au:=b.c1;have N:=b.c2;have aD:=b.len;have aC:=b.le;obtain⟨T,av,rfl,aE,a6⟩:=own_shape b.own;cases u:s.bad
      ·rw[u]at N;by_cases R:s.i<ts.length;·have aB:=zj1 B u R;clear B;obtain⟨aw,rfl⟩:=a6 oA;obtain⟨aI,aJ,aZ⟩:=tok_cells b.own R;generalize ts[s.i].kind=aH at *;have ae:decide ((s.i:Int)<(ts.length:Int))=true:=oE;exact zpw
       ·have ae:decide ((s.i:Int)<(ts.length:Int))=X:=oE;exact zpw
      ·rw[u]at N;exact zpw
     case false =>
      rw[C]at a;simp only[jr,if_false]at a;have C:((txt ts M).toList==[40])=X:=(eqS_lit _ _).symm.trans C;generalize txt ts M=aK at ac C;go_enter func143,ntmps143;go_wp2_with (fail);refine(kS (i.alloc _) ⟨#[45]⟩ oC j).mono ?_;rintro c ak ⟨rfl,p,g⟩;go_wp2_with (fail);refine(kS p ⟨#[33]⟩ oC l).mono ?_;rintro c a3 ⟨rfl,b,d⟩;have o:=((Fr.al w _).trans g).trans d;have f:=(V.fr g oA).fr d oA;have a2:=f.lt;clear j l;generalize txt ts s=S at z n;go_wp2_with (fail);refine(z b).mono ?_;rintro c y ⟨rfl,k,rfl⟩;have ar:=b.c0;have au:=b.c1;have N:=b.c2;have aD:=b.len;have aC:=b.le;obtain⟨T,av,rfl,aE,a6⟩:=own_shape b.own;cases u:s.bad
      ·rw[u]at N;by_cases R:s.i<ts.length;·have aB:=zj1 B u R;clear B;obtain⟨aw,rfl⟩:=a6 oA;obtain⟨aI,aJ,aZ⟩:=tok_cells b.own R;generalize ts[s.i].kind=aH at *;have ae:decide ((s.i:Int)<(ts.length:Int))=true:=oE;exact zpx
       ·have ae:decide ((s.i:Int)<(ts.length:Int))=X:=oE;exact zpx
      ·rw[u]at N;exact zpx
end
end syn
end Go.Proofs.YtjkcecppnmlhjaaGreatDoor
