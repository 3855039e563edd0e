/- What the program's localOf answers: a contract. -/
import Derived.Shelf.Strings.Cut
import Derived.Maps.OwnIn
import Derived.Test.YtaadmdlbkhcfnaaGreatDoorNC08
import Derived.Lib.BufferOwn
set_option maxHeartbeats 4000000
set_option linter.unusedVariables false
set_option linter.unusedSimpArgs false
set_option maxRecDepth 100000
namespace Go.Proofs
open Go.Shelf
def Tryz.laysCut_ren : Go.Shelf.Ren := ⟨fun | 145 => 110 | 220 => 122 | 219 => 144 | 217 => 80 | 225 => 155 | 224 => 156 | 267 => 157 | 266 => 100 | 314 => 164 | n => n, fun | 9 => 9 | 4 => 4 | 59 => 161 | 3 => 3 | 5 => 5 | 46 => 167 | 146 => 204 | 51 => 194 | n => n, fun | 1 => 1 | n => n⟩
theorem Tryz.laysCut : Go.Proofs.Lays.n145 Tryz.prog Tryz.laysCut_ren := {
  mixed := by kernel_rfl
  f145 := Tryz.func110.trans (congrArg some (by kernel_rfl))
  f217 := Tryz.func80.trans (congrArg some (by kernel_rfl))
  f219 := Tryz.func144.trans (congrArg some (by kernel_rfl))
  f220 := Tryz.func122.trans (congrArg some (by kernel_rfl))
  f224 := Tryz.func156.trans (congrArg some (by kernel_rfl))
  f225 := Tryz.func155.trans (congrArg some (by kernel_rfl))
  f266 := Tryz.func100.trans (congrArg some (by kernel_rfl))
  f267 := Tryz.func157.trans (congrArg some (by kernel_rfl))
  f314 := Tryz.func164.trans (congrArg some (by kernel_rfl))
  t3 := Tryz.underlying3
  a3 := Tryz.isAgg3
  z3 := Tryz.sizeOf3
  v3 := Tryz.zeroValue3
  t4 := Tryz.underlying4
  a4 := Tryz.isAgg4
  z4 := Tryz.sizeOf4
  v4 := Tryz.zeroValue4
  t5 := Tryz.underlying5
  a5 := Tryz.isAgg5
  z5 := Tryz.sizeOf5
  v5 := Tryz.zeroValue5
  t9 := Tryz.underlying9
  a9 := Tryz.isAgg9
  z9 := Tryz.sizeOf9
  v9 := Tryz.zeroValue9
  t46 := Tryz.underlying167
  a46 := Tryz.isAgg167
  z46 := Tryz.sizeOf167
  v46 := Tryz.zeroValue167
  t51 := Tryz.underlying194
  a51 := Tryz.isAgg194
  z51 := Tryz.sizeOf194
  v51 := Tryz.zeroValue194
  t59 := Tryz.underlying161
  a59 := Tryz.isAgg161
  z59 := Tryz.sizeOf161
  v59 := Tryz.zeroValue161
  t146 := Tryz.underlying204
  a146 := Tryz.isAgg204
  z146 := Tryz.sizeOf204
  v146 := Tryz.zeroValue204
  g1 := by kernel_rfl }
end Go.Proofs
namespace Go.Proofs.YtaadmdlbkhcfnaaGreatDoor.chk
open Go.RowKit
open syn face
def vO (w:World):Prop:=∃ m:Int,w.cell? ⟨Tryz.laysCut_ren.g 1,0,none⟩=some (.int .i64 m)
theorem cH {w w':World} (h:vO w) (hb:Below w.heap.size w w'):vO w':=by
 obtain ⟨m,h⟩:=h;exact ⟨m,keep h hb⟩
theorem ztx:∀ l:List UInt8,(∀ c∈l,c≠46)->Lib.index l [46] = -1
 | l,h=>Lib.index_none (fun j hj=>by
  unfold Lib.occAt
  cases hd:l.drop j with
  | nil=>rfl
  | cons c r =>
   have hc:c∈l:=List.mem_of_mem_drop (i:=j) (by rw [hd];exact jJ);have:=h c hc;show ((46:UInt8)==c&&List.isPrefixOf [] r)=false;rw [beq_false_of_ne (Ne.symm this)]
   rfl)
theorem ztt (a b:List UInt8) (h:∀ c∈a,c≠46):Lib.index (a++46 :: b) [46]=a.length :=
 Lib.index_first (i:=a.length) (by simp) (by
  unfold Lib.occAt
  simp) (fun j hj=>by
  unfold Lib.occAt;rw [List.drop_append_of_le_length (by omega)]
  cases hd:a.drop j with
  | nil =>
   have:=congrArg List.length hd;simp at this
   omega
  | cons c r =>
   have hc:c∈a:=List.mem_of_mem_drop (i:=j) (by rw [hd];exact jJ);have:=h c hc;show ((46:UInt8)==c&&List.isPrefixOf [] _)=false;rw [beq_false_of_ne (Ne.symm this)]
   rfl)
theorem zm7 (x:ByteArray) (w:World) (hx:zG x) (hm:vO w) : Calls Tryz.prog 143 #[.string x] w fun e w'=>e=.returned (.tuple #[.string (xJ x),.string (uR x)])/\Below w.heap.size w w':=by
 obtain ⟨m,hm⟩:=hm;have hC:=Any.strings_Cut Tryz.laysCut x ⟨#[46]⟩ m w (by have:=zjk hx;omega) hm;rw [show ((⟨#[46]⟩:ByteArray).data.toList)=[46] from rfl] at hC;rcases zic hx with ⟨h1,h2,h3⟩|⟨a,b,h1,h2,h3,h4,h5,h6⟩
 ·have hc:Lib.cut x.data.toList [46]=(x.data.toList,[],false):=by
   unfold Lib.cut;rw [ztx _ h1,ju (by decide)]
  rw [hc] at hC;rw [h2,h3];dsimp only at hC;rw [Lib.mk_data] at hC;go_enter Tryz.func143,Tryz.ntmps143;go_wp2_with (go_at_call 110;refine hC.mono ?_;rintro e w1 ⟨rfl,n,rfl⟩);refine jT (v:=.tuple #[.string empty,.string x]) (by simp [results,Tryz.results143,go_sem,empty]) rfl ?_;exact ⟨rfl,⟨rfl,rfl,rfl,jE _,fun _ _=>rfl⟩⟩
 ·have hc:Lib.cut x.data.toList [46]=(a,b,true):=by
   unfold Lib.cut;rw [h1,ztt a b h3,jv (by omega)];simp
  rw [hc] at hC;rw [h5,h6];dsimp only at hC;go_enter Tryz.func143,Tryz.ntmps143;go_wp2_with (go_at_call 110;refine hC.mono ?_;rintro e w1 ⟨rfl,n,rfl⟩);refine jT (v:=.tuple #[.string ⟨a.toArray⟩,.string ⟨b.toArray⟩]) (by simp [results,Tryz.results143,go_sem]) rfl ?_;exact ⟨rfl,⟨rfl,rfl,rfl,jE _,fun _ _=>rfl⟩⟩
end Go.Proofs.YtaadmdlbkhcfnaaGreatDoor.chk
namespace Go.Proofs.YtaadmdlbkhcfnaaGreatDoor.pr
open Go.RowKit Go.Shelf
open syn face chk
theorem zly:∀ (l:List UInt8),(∀ c∈l,c≠46)->Lib.indexByte l 46 = -1
 | [],_=>rfl
 | c :: r,h=>by
  unfold Lib.indexByte;rw [ju (by simpa using h c (jJ)),zly r (fun d hd=>h d (jF _ hd))];rfl
theorem zmj:∀ (a b:List UInt8),(∀ c∈a,c≠46)->Lib.indexByte (a++46 :: b) 46=a.length
 | [],b,_=>by show Lib.indexByte (46 :: b) 46=_;unfold Lib.indexByte;rfl
 | c :: r,b,h=>by
  show Lib.indexByte (c :: (r++46 :: b)) 46=_;unfold Lib.indexByte;rw [ju (by simpa using h c (jJ)),zmj r b (fun d hd=>h d (jF _ hd)),ju (by simp)];simp
theorem zhr (l:List UInt8):(∀ c∈l,c≠46)\/∃ a b,l=a++46 :: b/\∀ c∈a,c≠46:=by
 induction l with
 | nil=>exact .inl (fun c hc=>by cases hc)
 | cons c r ih =>
  by_cases hc:c=46;·exact .inr ⟨[],r,by rw [hc];rfl,fun d hd=>by cases hd⟩
  ·rcases ih with h | ⟨a,b,rfl,h⟩
   ·refine .inl (fun d hd=>?_);rcases List.mem_cons.1 hd with rfl | hd
    ·exact hc
    ·exact h d hd
   ·refine .inr ⟨c :: a,b,rfl,fun d hd=>?_⟩;rcases List.mem_cons.1 hd with rfl | hd
    ·exact hc
    ·exact h d hd
theorem zve (x:ByteArray) (w:World):Calls Tryz.prog 144 #[.string x,.string ⟨#[46]⟩] w fun e w'=>e=.returned (.int .i64 (Lib.indexByte x.data.toList 46))/\w'=w :=
 Any.stringslite_Index_one { Tryz.laysCut with } x 46 w
theorem zuc (x:ByteArray) (w:World) (hx:x.size<4611686018427387904):Calls Tryz.prog 122 #[.string x,.string ⟨#[46]⟩] w fun e w'=>(e=.returned (match yL x.data.toList with
  | (_,none)=>.tuple #[.string x,.string ⟨#[]⟩,.bool false]
  | (a,some b)=>.tuple #[.string ⟨a.toArray⟩,.string ⟨b.toArray⟩,.bool true]))/\Below w.heap.size w w':=by
 have hI:=zve x w;rcases zhr x.data.toList with h | ⟨a,b,he,h⟩
 ·rw [zly _ h] at hI;rw [zbp _ h];clear h;go_enter Tryz.func122,Tryz.ntmps122;go_wp2_with (go_at_call 144;refine hI.mono ?_;rintro e w1 ⟨rfl,hw1⟩;obtain rfl:=hw1.symm)
  go_ret3
  exact ⟨rfl,Below.refl _ _⟩
 ·have hxs:x.size=a.length+1+b.length:=by
   have:x.data.toList.length=x.size:=lexs.len_L x;rw [<- this,he];simp;omega
  have e1:x.extract 0 a.length=⟨a.toArray⟩:=by
   apply ByteArray.ext;rw [ByteArray.data_extract];apply Array.toList_inj.1;simp [he]
  have e2:x.extract (a.length+1) x.size=⟨b.toArray⟩:=by
   apply ByteArray.ext;rw [ByteArray.data_extract];apply Array.toList_inj.1;rw [hxs];simp [he]
  rw [he,zmj _ _ h] at hI;rw [he,zbo _ _ h];clear h he;have c2:(a.length:Int)<=x.size:=by omega
  have c4:(a.length+1:Int)<=x.size:=by omega
  go_enter Tryz.func122,Tryz.ntmps122;go_wp2_with (go_at_call 144;refine hI.mono ?_;rintro e w1 ⟨rfl,hw1⟩;obtain rfl:=hw1.symm);go_region;go_wp2
  go_ret3
  refine ⟨?_,?_⟩;·simp;rw [<- hxs];exact e2
  ·exact ⟨rfl,rfl,rfl,jE _,fun _ _=>rfl⟩
theorem yan (x:ByteArray) (w:World) (hx:x.size<4611686018427387904):Calls Tryz.prog 110 #[.string x,.string ⟨#[46]⟩] w fun e w'=>(e=.returned (match yL x.data.toList with
  | (_,none)=>.tuple #[.string x,.string ⟨#[]⟩,.bool false]
  | (a,some b)=>.tuple #[.string ⟨a.toArray⟩,.string ⟨b.toArray⟩,.bool true]))/\Below w.heap.size w w':=by
 have hI:=zuc x w hx;rcases zhr x.data.toList with h | ⟨a,b,he,h⟩
 ·rw [zbp _ h] at hI |-;clear h;go_enter Tryz.func110,Tryz.ntmps110;go_wp2_with (go_at_call 122;refine hI.mono ?_;rintro e w1 ⟨rfl,hw1⟩)
  go_ret3
  exact ⟨rfl,hw1⟩
 ·rw [he,zbo _ _ h] at hI |-;clear h he;go_enter Tryz.func110,Tryz.ntmps110;go_wp2_with (go_at_call 122;refine hI.mono ?_;rintro e w1 ⟨rfl,hw1⟩)
  go_ret3
  exact ⟨rfl,hw1⟩
end Go.Proofs.YtaadmdlbkhcfnaaGreatDoor.pr
namespace Go.Proofs.YtaadmdlbkhcfnaaGreatDoor.chk
open Go.RowKit Go.Shelf
open syn face
attribute [local go_sem] Oper.semAt_some
set_option linter.unusedVariables false
set_option linter.unusedSimpArgs false
set_option maxRecDepth 100000
def qC (W:World) (B:Nat) (v:VarD):Prop:=W.heap[B]?=some (.cells #[.string v.name,.bool v.pub,.int .i64 v.label,.int .i64 v.size] 57 (0,0))
theorem qC.lt {W:World} {B:Nat} {v:VarD} (h:qC W B v):B<W.heap.size:=(Array.getElem?_eq_some_iff.1 h).1
theorem qC.kept {W W':World} {row:Option Nat} {B:Nat} {v:VarD} (h:qC W B v) (hg:W.grownBy W' row) (hne:some B≠row):qC W' B v:=(hg.block B h.lt hne).trans h
theorem qC.alloc {W:World} {B:Nat} {v:VarD} (h:qC W B v) (o:Obj):qC (W.alloc o) B v:=h.kept (World.grownBy_alloc W o none) (by simp)
theorem qC.new (W:World) (v:VarD):qC (W.alloc (.cells #[.string v.name,.bool v.pub,.int .i64 v.label,.int .i64 v.size] 57)) W.heap.size v:=World.alloc_heap_new W _
theorem zeh {β:Type} (B:Nat) (f:β->VarD):Own (fun s W=>qC W B (f s)):=fun s X Y row hs hg hrow =>
 hs.kept hg (fun e'=>by obtain ⟨o,ho,hc⟩:=hrow B e'.symm;rw [show X.heap[B]?=_ from hs] at ho;cases ho;cases hc)
theorem qC.cells {W:World} {B:Nat} {v:VarD} (h:qC W B v):W.cell? ⟨B,0,none⟩=some (.string v.name)/\W.cell? ⟨B,1,none⟩=some (.bool v.pub)/\W.cell? ⟨B,2,none⟩=some (.int .i64 v.label)/\W.cell? ⟨B,3,none⟩=some (.int .i64 v.size)/\∀ k,W.frozen? ⟨B,k,none⟩=false:=by
 refine ⟨?_,?_,?_,?_,?_⟩;·simp [World.cell?,show W.heap[B]?=_ from h]
 ·simp [World.cell?,show W.heap[B]?=_ from h]
 ·simp [World.cell?,show W.heap[B]?=_ from h]
 ·simp [World.cell?,show W.heap[B]?=_ from h]
 ·intro k;simp [World.frozen?,show W.heap[B]?=_ from h]
theorem qC.below {W W':World} {n₀ B:Nat} {v:VarD} (h:qC W B v) (hb:Below n₀ W W') (hB:B<n₀):qC W' B v:=(hb.block B hB).trans h
theorem qC.put {W:World} {B:Nat} {v0:VarD} (h:qC W B v0) (v:VarD):qC ((((W.setCell ⟨B,0,none⟩ (.string v.name)).setCell ⟨B,1,none⟩ (.bool v.pub)).setCell ⟨B,2,none⟩ (.int .i64 v.label)).setCell ⟨B,3,none⟩ (.int .i64 v.size)) B v:=by
 have h1:=heap_setCell_same W B 0 _ 57 (.string v.name) h;have h2:=heap_setCell_same _ B 1 _ 57 (.bool v.pub) h1;have h3:=heap_setCell_same _ B 2 _ 57 (.int .i64 v.label) h2;exact heap_setCell_same _ B 3 _ 57 (.int .i64 v.size) h3
def xV:VarD:=⟨⟨#[]⟩,false,0,0⟩
def cA (vs:List VarD) (x:ByteArray):Option VarD:=vs.reverse.find? fun v=>eqS v.name x
def bB (x:ByteArray) (pre:List (Nat × VarD)):Prop:=∀ y∈pre,eqS y.2.name x=false
def vJ (kf:ByteArray->Option FV) (vs:List VarD) (x:ByteArray):Option VarD:=match cA vs x with
 | some v=>some v
 | none=>match kf (xJ x) with
  | some q=>za1 q.1.vars (uR x)
  | none=>none
def VP (o:Option VarD) (a:Int) (w:World) (e:Ending) (w':World):Prop:=Below w.heap.size w w'/\match o with
 | some v=>e=.returned (qN v)
 | none=>e=.panicked (qS 4 a)
theorem zoe {vs:List VarD} {k:Nat} (hk:k<vs.length):(bk vs k).2=vs[vs.length - 1 - k]:=by
 unfold bk;rw [List.getElem?_eq_getElem (by omega),Option.getD_some]
theorem zmg {vs:List VarD} {x:ByteArray} {k:Nat} (hk:k<=vs.length) (hn:bB x (vX (bk vs) k)) (i:Nat) (hi:i<vs.length) (h:vs.length<=i+k):eqS vs[i].name x=false:=by
 have:=hn (bk vs (vs.length - 1 - i)) (by unfold vX;exact List.mem_map.2 ⟨_,List.mem_range.2 (by omega),rfl⟩);rw [zoe (by omega)] at this;simpa [show vs.length - 1 - (vs.length - 1 - i)=i by omega] using this
theorem zp3 {vs:List VarD} {x:ByteArray} {k:Nat} {pre':List (Nat × VarD)} {y:Nat × VarD} (hk:k<=vs.length) (h:vX (bk vs) k=pre'++[y]) (hn:bB x pre') (hy:eqS y.2.name x=true):cA vs x=some y.2:=by
 cases k with
 | zero=>exact absurd h (by unfold vX;simp)
 | succ k =>
  rw [zjh] at h;have h2:=List.append_inj' h rfl;have h3:bk vs k=y:=by have:=h2.2;simp only [jq,and_true] at this;exact this
  rw [<- h2.1] at hn;rw [<- h3,zoe (by omega)] at hy |-;unfold cA;rw [zuy (j:=vs.length - 1 - k) (by omega) (fun i hi h=>zmg (by omega) hn i hi (by omega)) hy]
theorem zqs {vs:List VarD} {x:ByteArray} (hn:bB x (vX (bk vs) vs.length)):cA vs x=none:=by
 unfold cA;exact zo2 (fun i hi=>zmg (jE _) hn i hi (by omega))
theorem zk3 {x:ByteArray} (h:zG x):(xJ x).size<=maxLen:=by
 have hs:=zjk h;rcases zic h with ⟨_,h2,_⟩|⟨a,b,h1,_,_,_,h2,_⟩
 ·rw [h2];exact jz _
 ·rw [h2];have e:x.size=x.data.toList.length:=rfl;rw [h1] at e;have e2:ByteArray.size ⟨a.toArray⟩=a.length:=by simp [ByteArray.size]
  rw [e2];simp at e;unfold maxLen;omega
theorem zc0 {w W:World} {n d:Nat} (h:Below n w W) (hd:n<=d) {o:Obj} (o':Obj) (ho:W.heap[d]?=some o):Below n w (W.putObj d o'):=h.trans ((Below.refl n W).grown (grownBy_putObj' W d o') (by have:=(Array.getElem?_eq_some_iff.1 ho).1;omega) (fun k e=>by cases e;omega))
theorem zm0 (a b c:Value) (w:World):(Instr.field 41 (.agg #[a,b,c]) 1).run Tryz.prog w=.ok b w:=by kernel_rfl
theorem qC.result {W:World} {v:VarD} {a0 a1 a2 a3 a4 a5:Value} (tl:List Value) (B:Nat) (h:qC W B v):(results Tryz.f120 (List.toArray (a0 :: a1 :: a2 :: a3 :: a4 :: a5 :: .pointer (some ⟨B,0,none⟩) :: tl))).run Tryz.prog W=.ok (qN v) W:=by
 obtain ⟨z0,z1,z2,z3,zf⟩:=h.cells;unfold qN;simp [results,Tryz.f120,go_sem,z0,z1,z2,z3]
theorem zo8 (D Kb kn:Nat) (kf:ByteArray->Option FV) (vs:List VarD) (u:Value) (x:ByteArray) (at_:Int) (w:World) (h5:w.cell? ⟨D,5,none⟩=some (.map (some Kb))) (h6:w.cell? ⟨D,6,none⟩=some u) (hK:qM w Kb kn (fun z=>fvO (kf z))) (hkf:∀ z q,kf z=some q->yZ w (fvV q) q.1) (hR:fS w.heap.size w u vs) (hlen:vs.length<=1000) (hx:zG x) (hm:vO w) : CallsIn Fence.wide 3 Tryz.prog 120 #[.pointer (some ⟨D,0,none⟩),.string x,.int .i64 at_] w fun e w'=>VP (vJ kf vs x) at_ w e w':=by
 obtain ⟨V,HV⟩:∃ V,Hid (vJ kf vs x=V):=⟨_,rfl⟩
 rw [HV.out];have c3:Tryz.prog.cellsOf 41=3:=gN;have c4:Tryz.prog.cellsOf 57=4:=cell4;have hdl:D<w.heap.size:=jR w ⟨D,5,none⟩ h5;obtain ⟨ua,uc,rfl,huk⟩:=id hR;refine callsIn_of_wp_marks Tryz.func120 rfl trivial ?_ rfl;simp only [Tryz.ntmps120,List.size_toArray,jd,je,Nat.reduceAdd,Nat.reduceSub,Array.replicate_succ,Array.replicate_zero,List.push_toArray,List.append_toArray,js,jK]
 gi_wp2_with (refine ⟨trivial,?_⟩;gi_at_call 142;refine (zx9 Fence.wide 2 trivial rfl _ _ _ _).mono ?_;rintro e w' ⟨rfl,rfl⟩)
 have bS:Boxed (((w.alloc (.cells #[.string x] 9)).alloc (.cells #[.string ⟨#[]⟩,.bool false,.int .i64 0,.int .i64 0] 57)).alloc (.cells #[.slice ua vs.length uc] 38)) w.heap.size 9 (.string x):=((Boxed.new w 9 (.string x)).alloc _).alloc _
 have bR:qC (((w.alloc (.cells #[.string x] 9)).alloc (.cells #[.string ⟨#[]⟩,.bool false,.int .i64 0,.int .i64 0] 57)).alloc (.cells #[.slice ua vs.length uc] 38)) (w.heap.size+1) xV:=by
  have:=(qC.new (w.alloc (.cells #[.string x] 9)) xV).alloc (.cells #[.slice ua vs.length uc] 38);rw [jO] at this;exact this
 have bN:Boxed (((w.alloc (.cells #[.string x] 9)).alloc (.cells #[.string ⟨#[]⟩,.bool false,.int .i64 0,.int .i64 0] 57)).alloc (.cells #[.slice ua vs.length uc] 38)) (w.heap.size+1+1) 38 (.slice ua vs.length uc):=by
  have:=Boxed.new ((w.alloc (.cells #[.string x] 9)).alloc (.cells #[.string ⟨#[]⟩,.bool false,.int .i64 0,.int .i64 0] 57)) 38 (.slice ua vs.length uc);rw [jO,jO] at this;exact this
 have hB0:Below w.heap.size w (((w.alloc (.cells #[.string x] 9)).alloc (.cells #[.string ⟨#[]⟩,.bool false,.int .i64 0,.int .i64 0] 57)).alloc (.cells #[.slice ua vs.length uc] 38)):=(((Below.refl _ w).alloc (jE _) _).alloc (by simp) _).alloc (by simp;omega) _;have hR3:=(hR.below hB0).mono (n₁:=w.heap.size+1+1+1) (by omega);have hs3:(((w.alloc (.cells #[.string x] 9)).alloc (.cells #[.string ⟨#[]⟩,.bool false,.int .i64 0,.int .i64 0] 57)).alloc (.cells #[.slice ua vs.length uc] 38)).heap.size=w.heap.size+1+1+1:=by simp
 obtain ⟨W3,hW3⟩:∃ W3,((w.alloc (.cells #[.string x] 9)).alloc (.cells #[.string ⟨#[]⟩,.bool false,.int .i64 0,.int .i64 0] 57)).alloc (.cells #[.slice ua vs.length uc] 38)=W3:=⟨_,rfl⟩
 rw [hW3] at bS bR bN hB0 hR3 hs3 |-
 refine wpIn_rangeFunc_ownH rfl (by omega) (gf:=154) (lb:=#[.pointer (some ⟨w.heap.size+1+1,0,none⟩)]) rfl trivial (enters_of Tryz.func154 (by kernel_rfl) rfl)
  (zqh Fence.wide 2 trivial rfl (by omega) (w.heap.size+1+1) (w.heap.size+1+1+1) _ vs hlen W3 (by omega) (by omega) bN.cell hR3) belowK_t (belowK_b (by omega)) (Below.refl _ _) (fun _=>rfl)
  (fun pre W=>(Boxed W w.heap.size 9 (.string x)/\qC W (w.heap.size+1) xV)/\(Below w.heap.size w W/\(bB x pre/\w.heap.size+1+1+1<=W.heap.size)))
  (fun c pre W=>qC W (w.heap.size+1) (((pre.getLast?).map (·.2)).getD xV)/\(Below w.heap.size w W/\(c=.ret/\∃ pre' y,pre=pre'++[y]/\bB x pre'/\eqS y.2.name x=true)))
  ?hI ?hIx ?h0
  (fun y a' W=>∃ Bx,w.heap.size+1+1+1<=Bx/\qC W Bx y.2/\a'={ tmps:=#[.pointer (some ⟨D,0,none⟩),.string x,.int .i64 at_,undef,.pointer (some ⟨w.heap.size,0,none⟩),undef,.pointer (some ⟨w.heap.size+1,0,none⟩),undef,.pointer (some ⟨Bx,0,none⟩),undef,undef,undef,undef,.pointer (some ⟨D,0,none⟩),.pointer (some ⟨D,0,none⟩),.pointer (some ⟨D,6,none⟩),.slice ua vs.length uc,.func (.func 154) #[] #[.pointer (some ⟨w.heap.size+1+1,0,none⟩)],.int .i64 (y.1:Int),.agg #[.string y.2.name,.bool y.2.pub,.int .i64 y.2.label,.int .i64 y.2.size],undef,undef,undef,undef,undef,undef,undef,undef,undef,undef,undef,undef,undef,undef,undef,undef,undef,undef,undef,undef,undef,undef,undef,undef,undef,undef,undef,undef,undef,undef,undef],defers:=[] }) ?hAx ?assign ?body ?done ?stop
 case hI =>
  refine OwnFrom.and (Own.from (fun s A B row hs hg hr=>?_) _) (OwnFrom.and (ownFrom_below (jE _) (by omega)) (fun s A B row hs hg hr=>⟨hs.1,jp hs.2 hg.size⟩));exact ⟨boxed_own w.heap.size 9 (fun _:Unit=>.string x) () A B row hs.1 hg hr,zeh (w.heap.size+1) (fun _:Unit=>xV) () A B row hs.2 hg hr⟩
 case hIx =>
  intro c;refine OwnFrom.and (Own.from (fun s A B row hs hg hr=>?_) _) (OwnFrom.and (ownFrom_below (jE _) (by omega)) (fun s A B row hs hg hr=>hs));exact zeh (w.heap.size+1) (fun pre:List (Nat × VarD)=>((pre.getLast?).map (·.2)).getD xV) s A B row hs hg hr
 case h0=>exact ⟨⟨bS,bR⟩,hB0,(fun y hy=>by cases hy),by omega⟩
 case hAx =>
  intro y a';refine Own.from (fun s A B row hs hg hr=>?_) _
  obtain ⟨Bx,h1,h2,h3⟩:=hs;exact ⟨Bx,h1,zeh Bx (fun _:Unit=>y.2) () A B row h2 hg hr,h3⟩
 case assign =>
  rintro l pre y W K ⟨⟨b1,b2⟩,hB,hN,hlo⟩ hKK;have hsz:=b2.lt;unfold zd5 qN;dsimp only;simp only [List.zip_toArray,List.zip_cons_cons,List.zip_nil_right,List.foldl_toArray,List.foldl_cons,List.foldl_nil,List.setIfInBounds_toArray,List.set_cons_zero,List.set_cons_succ]
  gi_wp2
  exact hKK _ _ ((KeepsOthers.alloc _ _).from _) ((Below.refl _ W).alloc hlo _) ⟨⟨b1.alloc _,b2.alloc _⟩,hB.alloc hB.size _,hN,by simp;omega⟩ ⟨W.heap.size,hlo,qC.new W y.2,rfl⟩
 case body =>
  rintro l pre y a' W hl ⟨r,hr⟩ ⟨⟨b1,b2⟩,hB,hN,hlo⟩ ⟨Bx,hBx,bX,rfl⟩ hlt;obtain ⟨z0,z1,z2,z3,zf⟩:=bX.cells;obtain ⟨r0,r1,r2,r3,rf⟩:=b2.cells;have k0:=b1.cell;have rf0:=rf 0;have rf1:=rf 1;have rf2:=rf 2;have rf3:=rf 3;cases heq:eqS y.2.name x
  ·have hc:(y.2.name.toList==x.toList)=false:=heq
   have HN2:Hid (bB x (pre++[y])):=fun z hz=>by
    rw [List.mem_append] at hz;rcases hz with hz | hz
    ·exact hN z hz
    ·simp only [jy] at hz;subst hz;exact heq
   gi_wp2
   exact ⟨(KeepsOthers.refl _).from _,Below.refl _ _,⟨b1,b2⟩,hB,HN2.out,hlo⟩
  ·have hc:(y.2.name.toList==x.toList)=true:=heq;have HN2:Hid (bB x pre):=hN;have HP:Hid (qC ((((W.setCell ⟨w.heap.size+1,0,none⟩ (.string y.2.name)).setCell ⟨w.heap.size+1,1,none⟩ (.bool y.2.pub)).setCell ⟨w.heap.size+1,2,none⟩ (.int .i64 y.2.label)).setCell ⟨w.heap.size+1,3,none⟩ (.int .i64 y.2.size)) (w.heap.size+1) y.2):=b2.put y.2
   gi_wp2
   refine ⟨((((KeepsOthers.setCell _ _ _).trans (KeepsOthers.setCell _ _ _)).trans (KeepsOthers.setCell _ _ _)).trans (KeepsOthers.setCell _ _ _)).from _,?_,(((hB.setCell (Nat.le_succ _) _).setCell (Nat.le_succ _) _).setCell (Nat.le_succ _) _).setCell (Nat.le_succ _) _,rfl,pre,y,rfl,HN2.out,heq⟩;rw [List.getLast?_append];exact HP.out
 case done =>
  rintro DD xs W hD hS ⟨⟨b1,b2⟩,hB,hN,hlo⟩ hdef;have k0:=b1.cell;have hS2:=zm7 x W hx (cH hm hB);have hms:(xJ x).size<=maxLen:=zk3 hx;have hloc:cA vs x=none:=by rw [show xs=_ from hS] at hN;exact zqs hN
  have hdef0:=hdef
  cases hq:kf (xJ x) with
  | none =>
   gi_wp2_with (refine ⟨trivial,?_⟩;gi_at_call 143;refine ((callsIn_wide (n:=2)).2 hS2).mono ?_;rintro e w' ⟨rfl,hb⟩;have h5':w'.cell? ⟨D,5,none⟩=some (.map (some Kb)):=(hB.trans (hb.mono hB.size)).cell (p:=⟨D,5,none⟩) hdl |>.trans h5;have hl:=(hK.below (hB.trans (hb.mono hB.size))).look (xJ x) hms;rw [hq] at hl;simp only [fvO,Option.map_none,Option.getD_none,uE] at hl;have hfd:=zm0 (.string ⟨#[]⟩) (.slice none 0 0) (.slice none 0 0) w')
   have HN:Hid (V=none):=by
    show _=_;rw [<- HV.out];unfold vJ;rw [hloc,hq]
   have HB2:Hid (Below w.heap.size w w'):=hB.trans (hb.mono hB.size);have hdef2:Hid (w'.heap[DD]?=some (.deferred (some []))):=(hb.block DD (Array.getElem?_eq_some_iff.1 hdef).1).trans hdef;clear hl hfd hS2 hq hb
   gi_loopw [38] (fun t wr=>t=.int .i64 0/\wr=w') (fun _ _=>0)
   case atStart=>exact ⟨rfl,rfl⟩
   case round =>
    obtain ⟨rfl,rfl⟩:=hrel
    gi_wp2_with (refine ⟨trivial,?_⟩;gi_at_call 67;refine ((callsIn_wide (n:=2)).2 (vL 4 at_ wr)).mono ?_;rintro e w1 ⟨rfl,rfl⟩)
    refine ⟨by simp,.inl ⟨_,_,rfl,run_takeDeferred hdef2.out,?_⟩⟩;refine ⟨zc0 HB2.out (by omega) _ hdef2.out,?_⟩
    rw [HN.out]
  | some q =>
   have hF:=(hkf _ q hq).below hB
   have HE:Hid (V=za1 q.1.vars (uR x)):=by
    show _=_;rw [<- HV.out];unfold vJ;rw [hloc,hq]
   have hl0:=fun W2 hb2=>(hK.below hb2:qM W2 _ _ _).look (xJ x) hms
   rw [hq] at hl0;simp only [fvO,Option.map_some,Option.getD_some] at hl0;obtain ⟨a1,d1,a2,d2,hsh⟩:=zkm hF;obtain ⟨_,_,ee,hVi,_⟩:=id hF;rw [hsh] at hl0 ee;have ee2:_=_:=ee;unfold fvV at ee2 hl0;injection ee2 with ee2;simp only [Array.mk.injEq,jq,and_true,true_and] at ee2;obtain ⟨rfl,rfl⟩:=ee2;clear ee hsh hF;dsimp only at hl0;generalize q.1=f at *;obtain ⟨_,_,ee3,hvl,hvk⟩:=hVi;injection ee3 with ee3 _ ee4;obtain rfl:=ee3;obtain rfl:=ee4
   gi_wp2_with (refine ⟨trivial,?_⟩;gi_at_call 143;refine ((callsIn_wide (n:=2)).2 hS2).mono ?_;rintro e w' ⟨rfl,hb⟩;have h5':w'.cell? ⟨D,5,none⟩=some (.map (some Kb)):=(hB.trans (hb.mono hB.size)).cell (p:=⟨D,5,none⟩) hdl |>.trans h5;have hl:=hl0 w' (hB.trans (hb.mono hB.size));have hfd:=zm0 (.string f.module) (.slice a1 f.vars.length d1) (.slice a2 f.procs.length d2) w')
   have hvk2:f.vars≠[]->∃ g o,a1=some ⟨g,o,none⟩/\∀ (W2:World),Below w'.heap.size w' W2->∀ i (h:i<f.vars.length),W2.cell? ⟨g,o+i*4,none⟩=some (.string f.vars[i].name)/\W2.cell? ⟨g,o+i*4+1,none⟩=some (.bool f.vars[i].pub)/\W2.cell? ⟨g,o+i*4+2,none⟩=some (.int .i64 f.vars[i].label)/\W2.cell? ⟨g,o+i*4+3,none⟩=some (.int .i64 f.vars[i].size):=fun hne=>by
    obtain ⟨g,o,e1,hc⟩:=hvk hne;refine ⟨g,o,e1,fun W2 hb2 i hi=>?_⟩;obtain ⟨e0,e1,e2,e3⟩:=hc i hi;have hb3:=hb.trans (hb2.mono hb.size);exact ⟨keep e0 hb3,keep e1 hb3,keep e2 hb3,keep e3 hb3⟩
   have HB2:Hid (Below w.heap.size w w'):=hB.trans (hb.mono hB.size);have hdef2:Hid (w'.heap[DD]?=some (.deferred (some []))):=(hb.block DD (Array.getElem?_eq_some_iff.1 hdef).1).trans hdef;have hbz:qC w' (w.heap.size+1) xV:=b2.below hb b2.lt;have hws:=hb.size;have hDl:DD<w'.heap.size:=jo (Array.getElem?_eq_some_iff.1 hdef).1 hws;generalize uR x=ox at *;clear hl hl0 hfd hS2 hq hb hvk hB hdef hdef0 b1 b2 k0
   gi_loopw [38] (fun t wr=>∃ j:Nat,j<=f.vars.length/\t=.int .i64 j/\Hid (∀ i (hi:i<f.vars.length),i<j->eqS f.vars[i].name ox=false)/\Below w'.heap.size w' wr) (fun t _=>f.vars.length - (intOf t).toNat)
   case atStart=>exact ⟨0,jz _,rfl,fun i hi h=>absurd h (by omega),Below.refl _ _⟩
   case round =>
    obtain ⟨j,hj,rfl,HN,hbr⟩:=hrel;have hbr2:Hid (Below w'.heap.size w' wr):=hbr;by_cases hlt:j<f.vars.length
    ·obtain ⟨g,o,rfl,hcs⟩:=hvk2 (by intro e;rw [e] at hlt;simp at hlt);obtain ⟨q0,q1,q2,q3⟩:=hcs wr hbr j hlt;have hz:qC wr (w.heap.size+1) xV:=hbz.below hbr (by have:=hbz.lt;omega)
     have HF:Hid (∀ b,eqS f.vars[j].name ox=b->b=true->V=some f.vars[j]):=fun b h1 h2=>by
      rw [HE.out];unfold za1;exact zeq hlt (fun i hi h=>HN.out i hi h) (h1.trans h2)
     have HS:Hid (∀ b,eqS f.vars[j].name ox=b->b=false->∀ i (hi:i<f.vars.length),i<j+1->eqS f.vars[i].name ox=false):=fun b h1 h2 i hi h=>by
      rcases jL i j with h' | h'
      ·exact HN.out i hi h'
      ·obtain rfl:i=j:=by omega
       exact h1.trans h2
     clear hcs hvk2;generalize f.vars[j]=v at *;cases heq:eqS v.name ox
     ·have hc:(v.name.toList==ox.toList)=false:=heq;have HS2:=HS.out _ heq rfl;clear HS HF
      gi_wp2
      exact ⟨⟨j+1,by omega,by simp,HS2,hbr2.out.alloc hbr2.out.size _⟩,by simp [intOf];omega⟩
     ·have hc:(v.name.toList==ox.toList)=true:=heq;have HF2:Hid (V=some v):=HF.out _ heq rfl;clear HS HF;have hz2:=hz.alloc (.cells #[.string v.name,.bool v.pub,.int .i64 v.label,.int .i64 v.size] 57);obtain ⟨r0,r1,r2,r3,rf⟩:=hz2.cells;have rf0:=rf 0;have rf1:=rf 1;have rf2:=rf 2;have rf3:=rf 3;have hne:DD≠w.heap.size+1:=by omega
      have HP:Hid (qC (((((wr.alloc (.cells #[.string v.name,.bool v.pub,.int .i64 v.label,.int .i64 v.size] 57)).setCell ⟨w.heap.size+1,0,none⟩ (.string v.name)).setCell ⟨w.heap.size+1,1,none⟩ (.bool v.pub)).setCell ⟨w.heap.size+1,2,none⟩ (.int .i64 v.label)).setCell ⟨w.heap.size+1,3,none⟩ (.int .i64 v.size)) (w.heap.size+1) v):=hz2.put v
      have HD4:Hid ((((((wr.alloc (.cells #[.string v.name,.bool v.pub,.int .i64 v.label,.int .i64 v.size] 57)).setCell ⟨w.heap.size+1,0,none⟩ (.string v.name)).setCell ⟨w.heap.size+1,1,none⟩ (.bool v.pub)).setCell ⟨w.heap.size+1,2,none⟩ (.int .i64 v.label)).setCell ⟨w.heap.size+1,3,none⟩ (.int .i64 v.size)).heap[DD]?=some (.deferred (some []))) :=
       (jP _ ⟨w.heap.size+1,3,none⟩ _ DD hne).trans ((jP _ ⟨w.heap.size+1,2,none⟩ _ DD hne).trans ((jP _ ⟨w.heap.size+1,1,none⟩ _ DD hne).trans ((jP _ ⟨w.heap.size+1,0,none⟩ _ DD hne).trans (((hbr2.out.alloc hbr2.out.size _).block DD hDl).trans hdef2.out))))
      have HB4:Hid (Below w.heap.size w (((((wr.alloc (.cells #[.string v.name,.bool v.pub,.int .i64 v.label,.int .i64 v.size] 57)).setCell ⟨w.heap.size+1,0,none⟩ (.string v.name)).setCell ⟨w.heap.size+1,1,none⟩ (.bool v.pub)).setCell ⟨w.heap.size+1,2,none⟩ (.int .i64 v.label)).setCell ⟨w.heap.size+1,3,none⟩ (.int .i64 v.size))) :=
       ((((HB2.out.trans ((hbr2.out.alloc hbr2.out.size _).mono HB2.out.size)).setCell (Nat.le_succ _) _).setCell (Nat.le_succ _) _).setCell (Nat.le_succ _) _).setCell (Nat.le_succ _) _
      gi_wp2
      generalize (((((wr.alloc (.cells #[.string v.name,.bool v.pub,.int .i64 v.label,.int .i64 v.size] 57)).setCell ⟨w.heap.size+1,0,none⟩ (.string v.name)).setCell ⟨w.heap.size+1,1,none⟩ (.bool v.pub)).setCell ⟨w.heap.size+1,2,none⟩ (.int .i64 v.label)).setCell ⟨w.heap.size+1,3,none⟩ (.int .i64 v.size))=W4 at *;refine ⟨by simp,.inl ⟨_,_,rfl,run_takeDeferred HD4.out,?_⟩⟩;have bx4:qC (W4.putObj DD (.deferred none)) (w.heap.size+1) v:=(World.putObj_heap_other (k:=w.heap.size+1) (by omega)).trans HP.out;refine ⟨qN v,bx4.result _ _,zc0 HB4.out (by omega) _ HD4.out,?_⟩;rw [HF2.out]
    ·obtain rfl:j=f.vars.length:=by omega
     have HN2:Hid (V=none):=by
      show _=_;rw [HE.out];unfold za1;exact zjo fun i hi=>HN.out i hi hi
     have hd3:Hid (wr.heap[DD]?=some (.deferred (some []))):=(hbr.block DD hDl).trans hdef2.out;have HB3:Hid (Below w.heap.size w wr):=HB2.out.trans (hbr.mono HB2.out.size)
     gi_wp2_with (refine ⟨trivial,?_⟩;gi_at_call 67;refine ((callsIn_wide (n:=2)).2 (vL 4 at_ wr)).mono ?_;rintro e w1 ⟨rfl,rfl⟩)
     refine ⟨by simp,.inl ⟨_,_,rfl,run_takeDeferred hd3.out,?_⟩⟩;refine ⟨zc0 HB3.out (by omega) _ hd3.out,?_⟩;rw [HN2.out]
 case stop =>
  rintro DD c pre W hD ⟨kk,hkk,rfl⟩ ⟨bx,hB,rfl,pre',y,e,hn,hy⟩ hdef;rw [e] at bx;simp only [List.getLast?_append,List.getLast?_singleton,Option.some_or,Option.map_some,Option.getD_some] at bx;obtain ⟨z0,z1,z2,z3,zf⟩:=bx.cells;have HB2:=zc0 hB (jp (by omega) hD) (.deferred none) hdef;have bx2:qC (W.putObj DD (.deferred none)) (w.heap.size+1) y.2:=(World.putObj_heap_other (k:=w.heap.size+1) (by omega)).trans bx;obtain ⟨y0,y1,y2,y3,yf⟩:=bx2.cells
  gi_wp2
  refine ⟨by simp,.inl ⟨_,_,rfl,run_takeDeferred hdef,?_⟩⟩;refine ⟨qN y.2,?_,HB2,?_⟩;·exact bx2.result _ _
  ·have hv:V=some y.2:=by
    rw [<- HV.out];unfold vJ;rw [zp3 hkk e hn hy]
   rw [hv]
theorem zs7 (D Kb kn:Nat) (kf:ByteArray->Option FV) (vs:List VarD) (u:Value) (x:ByteArray) (at_:Int) (w:World) (h5:w.cell? ⟨D,5,none⟩=some (.map (some Kb))) (h6:w.cell? ⟨D,6,none⟩=some u) (hK:qM w Kb kn (fun z=>fvO (kf z))) (hkf:∀ z q,kf z=some q->yZ w (fvV q) q.1) (hR:fS w.heap.size w u vs) (hlen:vs.length<=1000) (hx:zG x) (hm:vO w) : Calls Tryz.prog 120 #[.pointer (some ⟨D,0,none⟩),.string x,.int .i64 at_] w fun e w'=>VP (vJ kf vs x) at_ w e w' :=
 (callsIn_wide (n:=3)).1 (zo8 D Kb kn kf vs u x at_ w h5 h6 hK hkf hR hlen hx hm)
def uP (kf:ByteArray->Option FV) (x:ByteArray):Option ProcD:=match kf (xJ x) with
 | some q=>zgr q.1.procs (uR x)
 | none=>none
def PP (o:Option ProcD) (a:Int) (w:World) (e:Ending) (w':World):Prop:=Below w.heap.size w w'/\match o with
 | some p=>∃ u,e=.returned (yJ p u)/\yU w' u p.params
 | none=>e=.panicked (qS 4 a)
theorem zmb {o:Option ProcD} {a:Int} {w w':World} (h:o=none) (hb:Below w.heap.size w w'):PP o a w (.panicked (qS 4 a)) w':=by rw [h];exact ⟨hb,rfl⟩
theorem zxa {o:Option ProcD} {p:ProcD} {u:Value} {a:Int} {e:Ending} {w w':World} (h:o=some p) (hb:Below w.heap.size w w') (he:e=.returned (yJ p u)) (hu:yU w' u p.params):PP o a w e w':=by rw [h];exact ⟨hb,u,he,hu⟩
theorem zmk (a b c:Value) (w:World):(Instr.field 41 (.agg #[a,b,c]) 2).run Tryz.prog w=.ok c w:=by kernel_rfl
theorem zp1 (D Kb kn:Nat) (kf:ByteArray->Option FV) (x:ByteArray) (at_:Int) (w:World) (h5:w.cell? ⟨D,5,none⟩=some (.map (some Kb))) (hK:qM w Kb kn (fun z=>fvO (kf z))) (hkf:∀ z q,kf z=some q->yZ w (fvV q) q.1) (hx:zG x) (hm:vO w) : Calls Tryz.prog 121 #[.pointer (some ⟨D,0,none⟩),.string x,.int .i64 at_] w fun e w'=>PP (uP kf x) at_ w e w':=by
 obtain ⟨V,HV⟩:∃ V,Hid (uP kf x=V):=⟨_,rfl⟩
 rw [HV.out];have c3:Tryz.prog.cellsOf 41=3:=gN;have c6:Tryz.prog.cellsOf 62=6:=fL;have hdl:D<w.heap.size:=jR w ⟨D,5,none⟩ h5;have hms:(xJ x).size<=maxLen:=zk3 hx;have hB0:Below w.heap.size w (w.alloc (.cells #[.string ⟨#[]⟩,.bool false,.slice none 0 0,.int .i64 0,.bool false,.int .i64 0] 62)):=bal _;have hBR:=Box6.new w (.string ⟨#[]⟩) (.bool false) (.slice none 0 0) (.int .i64 0) (.bool false) (.int .i64 0) 62;have hS2:=zm7 x _ hx (cH hm hB0)
 cases hq:kf (xJ x) with
 | none =>
  have HN:Hid (V=none):=by
   show _=_;rw [<- HV.out];unfold uP;rw [hq]
  go_enter Tryz.func121,Tryz.ntmps121;go_wp2_with (go_at_call 143;refine hS2.mono ?_;rintro e w1 ⟨rfl,hb⟩;have hb1:=hB0.trans (hb.mono hB0.size);have h5':w1.cell? ⟨D,5,none⟩=some (.map (some Kb)):=(hb1.cell (p:=⟨D,5,none⟩) hdl).trans h5;have hl:=(hK.below hb1).look (xJ x) hms;rw [hq] at hl;simp only [fvO,Option.map_none,Option.getD_none,uE] at hl;have hfd:=zmk (.string ⟨#[]⟩) (.slice none 0 0) (.slice none 0 0) w1);have HB:Hid (Below w.heap.size w w1):=hb1;clear hl hfd hS2 hq hb hBR hB0 hb1;go_loopw [24] (fun t wr=>t=.int .i64 0/\wr=w1) (fun _ _=>0)
  case atStart=>exact ⟨rfl,rfl⟩
  case round =>
   obtain ⟨rfl,rfl⟩:=hrel;go_wp2_with (go_at_call 67;refine (vL 4 at_ wr).mono ?_;rintro e w2 ⟨rfl,rfl⟩)
   exact ⟨rfl,zmb HN.out HB.out⟩
 | some q =>
  have hF:=hkf _ q hq
  have HE:Hid (V=zgr q.1.procs (uR x)):=by
   show _=_;rw [<- HV.out];unfold uP;rw [hq]
  have hl0:=fun W2 hb2=>(hK.below hb2:qM W2 _ _ _).look (xJ x) hms
  rw [hq] at hl0;simp only [fvO,Option.map_some,Option.getD_some] at hl0;obtain ⟨a1,d1,a2,d2,hsh⟩:=zkm hF;obtain ⟨_,_,ee,_,hPi⟩:=id hF;rw [hsh] at hl0 ee;have ee2:_=_:=ee;unfold fvV at ee2 hl0;injection ee2 with ee2;simp only [Array.mk.injEq,jq,and_true,true_and] at ee2;obtain ⟨rfl,rfl⟩:=ee2;clear ee hsh hF;dsimp only at hl0;generalize q.1=f at *;obtain ⟨_,_,ee3,hvl,hvk⟩:=hPi;injection ee3 with ee3 _ ee4;obtain rfl:=ee3;obtain rfl:=ee4;go_enter Tryz.func121,Tryz.ntmps121;go_wp2_with (go_at_call 143;refine hS2.mono ?_;rintro e w1 ⟨rfl,hb⟩;have hb1:=hB0.trans (hb.mono hB0.size);have h5':w1.cell? ⟨D,5,none⟩=some (.map (some Kb)):=(hb1.cell (p:=⟨D,5,none⟩) hdl).trans h5;have hl:=hl0 w1 hb1;have hfd:=zmk (.string f.module) (.slice a1 f.vars.length d1) (.slice a2 f.procs.length d2) w1);have HB:Hid (Below w.heap.size w w1):=hb1;have hbz:=hBR.below hb;generalize uR x=ox at *;clear hl hl0 hfd hS2 hq hb hBR hB0 hb1;go_loopw [24] (fun t wr=>∃ j:Nat,j<=f.procs.length/\t=.int .i64 j/\Hid (∀ i (hi:i<f.procs.length),i<j->eqS f.procs[i].name ox=false)/\Below w1.heap.size w1 wr) (fun t _=>f.procs.length - (intOf t).toNat)
  case atStart=>exact ⟨0,jz _,rfl,fun i hi h=>absurd h (by omega),Below.refl _ _⟩
  case round =>
   obtain ⟨j,hj,rfl,HN,hbr⟩:=hrel;have hbr2:Hid (Below w1.heap.size w1 wr):=hbr;have HB3:Hid (Below w.heap.size w wr):=HB.out.trans (hbr.mono HB.out.size);by_cases hlt:j<f.procs.length
   ·obtain ⟨g,o,rfl,hc⟩:=hvk (by intro e;rw [e] at hlt;simp at hlt);obtain ⟨e0,e1,⟨u,e2,hu⟩,e3,e4,e5⟩:=hc j hlt;have k0:=keep e0 HB3.out;have k1:=keep e1 HB3.out;have k2:=keep e2 HB3.out;have k3:=keep e3 HB3.out;have k4:=keep e4 HB3.out;have k5:=keep e5 HB3.out
    have HF:Hid (∀ b,eqS f.procs[j].name ox=b->b=true->V=some f.procs[j]):=fun b h1 h2=>by
     rw [HE.out];exact zeq hlt (fun i hi h=>HN.out i hi h) (h1.trans h2)
    have HS:Hid (∀ b,eqS f.procs[j].name ox=b->b=false->∀ i (hi:i<f.procs.length),i<j+1->eqS f.procs[i].name ox=false):=fun b h1 h2 i hi h=>by
     rcases jL i j with h' | h'
     ·exact HN.out i hi h'
     ·obtain rfl:i=j:=by omega
      exact h1.trans h2
    clear e0 e1 e2 e3 e4 e5 hc hvk;generalize f.procs[j]=v at *;have hu':=hu;obtain ⟨ua,uc,rfl,_,_⟩:=hu';have hz:=hbz.below hbr;cases heq:eqS v.name ox;·have hc:(v.name.toList==ox.toList)=false:=heq;have HS2:=HS.out _ heq rfl;clear HS HF hz;go_wp2;exact ⟨⟨j+1,by omega,by simp,HS2,hbr2.out.alloc hbr2.out.size _⟩,by simp [intOf];omega⟩
    ·have hc:(v.name.toList==ox.toList)=true:=heq;have HF2:Hid (V=some v):=HF.out _ heq rfl;clear HS HF;obtain ⟨t0,t1,t2,t3,t4,t5,t6,t7,t8,t9,t10,t11⟩:=hz.alloc (.cells #[.string v.name,.bool v.pub,.slice ua v.params.length uc,.int .i64 v.writes,.bool v.gives,.int .i64 v.given] 62);have hBB:Below w.heap.size w (((((((wr.alloc (.cells #[.string v.name,.bool v.pub,.slice ua v.params.length uc,.int .i64 v.writes,.bool v.gives,.int .i64 v.given] 62)).setCell ⟨w.heap.size,0,none⟩ (.string v.name)).setCell ⟨w.heap.size,1,none⟩ (.bool v.pub)).setCell ⟨w.heap.size,2,none⟩ (.slice ua v.params.length uc)).setCell ⟨w.heap.size,3,none⟩ (.int .i64 v.writes)).setCell ⟨w.heap.size,4,none⟩ (.bool v.gives)).setCell ⟨w.heap.size,5,none⟩ (.int .i64 v.given)):=((((((HB3.out.alloc HB3.out.size _).setCell (jE _) _).setCell (jE _) _).setCell (jE _) _).setCell (jE _) _).setCell (jE _) _).setCell (jE _) _;go_wp2;refine jT (v:=yJ v (.slice ua v.params.length uc)) (by simp [results,Tryz.results121,go_sem,t0,t1,t2,t3,t4,t5,yJ]) rfl ?_;exact zxa HF2.out hBB rfl (hu.below hBB)
   ·obtain rfl:j=f.procs.length:=by omega
    have HN2:Hid (V=none):=by
     show _=_;rw [HE.out];exact zjo fun i hi=>HN.out i hi hi
    go_wp2_with (go_at_call 67;refine (vL 4 at_ wr).mono ?_;rintro e w2 ⟨rfl,rfl⟩);exact ⟨rfl,zmb HN2.out HB3.out⟩
structure KF where
 f:ByteArray->Option FV
 W:World
 M:Nat
 G:Value
instance:Coe KF (ByteArray->Option FV):=⟨KF.f⟩
theorem yU.mono {w w':World} (hc:∀ a v,w.cell? a=some v->w'.cell? a=some v) {v:Value} {l:List Int} (h:yU w v l):yU w' v l:=by
 obtain ⟨a,c,e,hl,hk⟩:=h;refine ⟨a,c,e,hl,fun hne=>?_⟩;obtain ⟨g,o,e2,hat⟩:=hk hne;exact ⟨g,o,e2,fun i hi=>hc _ _ (hat i hi)⟩
theorem yZ.mono {w w':World} (hc:∀ a v,w.cell? a=some v->w'.cell? a=some v) {v:Value} {f:FaceD} (h:yZ w v f):yZ w' v f:=by
 obtain ⟨vv,pv,e,⟨a,c,e1,hl,hk⟩,⟨a2,c2,e2,hl2,hk2⟩⟩:=h;refine ⟨vv,pv,e,⟨a,c,e1,hl,fun hne=>?_⟩,⟨a2,c2,e2,hl2,fun hne=>?_⟩⟩;·obtain ⟨g,o,e3,hat⟩:=hk hne;exact ⟨g,o,e3,fun i hi=>⟨hc _ _ (hat i hi).1,hc _ _ (hat i hi).2.1,hc _ _ (hat i hi).2.2.1,hc _ _ (hat i hi).2.2.2⟩⟩
 ·obtain ⟨g,o,e3,hat⟩:=hk2 hne;refine ⟨g,o,e3,fun i hi=>?_⟩;obtain ⟨h1,h2,⟨u,h3,h4⟩,h5,h6,h7⟩:=hat i hi;exact ⟨hc _ _ h1,hc _ _ h2,⟨u,hc _ _ h3,yU.mono hc h4⟩,hc _ _ h5,hc _ _ h6,hc _ _ h7⟩
structure CS (w0 w:World) (D Kb kn:Nat) (kf:KF) (vs:List VarD) (u:Value) (a:Int):Prop where
 bs:Below w0.heap.size w0 w
 hD:w0.heap.size<=D
 c4:w.cell? ⟨D,4,none⟩=some kf.G
 c5:w.cell? ⟨D,5,none⟩=some (.map (some Kb))
 c6:w.cell? ⟨D,6,none⟩=some u
 c7:w.cell? ⟨D,7,none⟩=some (.int .i64 a)
 fz:∀ k,w.frozen? ⟨D,k,none⟩=false
 mp:qM w Kb kn (fun z=>fvO (kf.f z))
 fi:∀ z q,kf.f z=some q->yZ kf.W (fvV q) q.1
 fw:∀ a v,kf.W.cell? a=some v->a.block≠D/\a.block<kf.M/\w.cell? a=some v
 fm:kf.M<=w.heap.size
 mM:w0.heap.size<=kf.M
 fu:∀ b,u.ownBlock=some b->kf.M<=b
 rl:w.ownsRow (D+1) 57 4 u vs.length (zW vs)
 nk:Kb≠D
 mx:vO w0
 nu:u.ownBlock≠some Kb
section
variable {w0 w w':World} {D Kb kn:Nat} {kf:KF} {vs:List VarD} {u:Value} {a:Int}
theorem CS.lt (h:CS w0 w D Kb kn kf vs u a):D<w.heap.size:=jR w ⟨D,5,none⟩ h.c5
theorem CS.below (h:CS w0 w D Kb kn kf vs u a) (hb:Below w.heap.size w w'):CS w0 w' D Kb kn kf vs u a :=
 ⟨h.bs.trans (hb.mono h.bs.size),h.hD,(hb.cell (p:=⟨D,4,none⟩) h.lt).trans h.c4,(hb.cell (p:=⟨D,5,none⟩) h.lt).trans h.c5,(hb.cell (p:=⟨D,6,none⟩) h.lt).trans h.c6,(hb.cell (p:=⟨D,7,none⟩) h.lt).trans h.c7,fun k=>(jN (a:=⟨D,k,none⟩) (hb.block D h.lt)).trans (h.fz k),h.mp.below hb,h.fi,fun p v hc=>⟨(h.fw p v hc).1,(h.fw p v hc).2.1,(hb.cell (p:=p) (jo (h.fw p v hc).2.1 h.fm)).trans (h.fw p v hc).2.2⟩,jp h.fm hb.size,h.mM,h.fu,ze6 h.rl hb,h.nk,h.mx,h.nu⟩
theorem CS.alloc (h:CS w0 w D Kb kn kf vs u a) (o:Obj):CS w0 (w.alloc o) D Kb kn kf vs u a:=h.below (bal o)
theorem CS.drew (h:CS w0 w D Kb kn kf vs u a):CS w0 w.drew D Kb kn kf vs u a:=h.below (Below.refl _ _).drew
theorem CS.other (h:CS w0 w D Kb kn kf vs u a) {b o:Nat} (h1:b≠D) (h2:b≠Kb) (h3:u.ownBlock≠some b) (h4:kf.M<=b) (v:Value):CS w0 (w.setCell ⟨b,o,none⟩ v) D Kb kn kf vs u a :=
 have hbl:=jP w ⟨b,o,none⟩ v D (fun e=>h1 e.symm)
 ⟨h.bs.setCell (jp h.mM h4) _,h.hD,(jM (a:=⟨D,4,none⟩) hbl).trans h.c4,(jM (a:=⟨D,5,none⟩) hbl).trans h.c5,(jM (a:=⟨D,6,none⟩) hbl).trans h.c6,(jM (a:=⟨D,7,none⟩) hbl).trans h.c7,fun k=>(jN (a:=⟨D,k,none⟩) hbl).trans (h.fz k),h.mp.setCell (fun e=>h2 e.symm) _,h.fi,fun p x hc=>⟨(h.fw p x hc).1,(h.fw p x hc).2.1,(jM (a:=p) (jP w ⟨b,o,none⟩ v p.block (fun e=>Nat.not_lt.2 h4 (by have e':p.block=b:=e;rw [<- e'];exact (h.fw p x hc).2.1)))).trans (h.fw p x hc).2.2⟩,by rw [jQ];exact h.fm,h.mM,h.fu,jU h.rl h3 _,h.nk,h.mx,h.nu⟩
theorem CS.setAt (h:CS w0 w D Kb kn kf vs u a) (b:Int):CS w0 (w.setCell ⟨D,7,none⟩ (.int .i64 b)) D Kb kn kf vs u b :=
 ⟨h.bs.setCell h.hD _,h.hD,(jD w ⟨D,7,none⟩ ⟨D,4,none⟩ _ (by simp)).trans h.c4,(jD w ⟨D,7,none⟩ ⟨D,5,none⟩ _ (by simp)).trans h.c5,(jD w ⟨D,7,none⟩ ⟨D,6,none⟩ _ (by simp)).trans h.c6,World.cell?_setCell_same' _ _ _ (by rw [h.c7];rfl),fun k=>by rw [World.frozen?_setCell];exact h.fz k,h.mp.setCell h.nk _,h.fi,fun p x hc=>⟨(h.fw p x hc).1,(h.fw p x hc).2.1,(jM (a:=p) (jP w ⟨D,7,none⟩ _ p.block (h.fw p x hc).1)).trans (h.fw p x hc).2.2⟩,by rw [jQ];exact h.fm,h.mM,h.fu,jU h.rl (fun e=>by have h2:D+1<=D:=(h.rl.lt _ e).1;omega) _,h.nk,h.mx,h.nu⟩
theorem CS.faces (h:CS w0 w D Kb kn kf vs u a) (z:ByteArray) (q:FV) (hq:kf.f z=some q):yZ w (fvV q) q.1:=yZ.mono (fun p v hc=>(h.fw p v hc).2.2) (h.fi z q hq)
theorem CS.max (h:CS w0 w D Kb kn kf vs u a):vO w:=cH h.mx h.bs
theorem CS.grown (h:CS w0 w D Kb kn kf vs u a) {row:Option Nat} (hg:w.grownBy w' row) (hr:∀ b,row=some b->b≠D/\b≠Kb/\u.ownBlock≠some b/\kf.M<=b):CS w0 w' D Kb kn kf vs u a:=by
 have hbl:=hg.block D h.lt (fun e=>(hr D e.symm).1 rfl);refine ⟨h.bs.grown hg h.bs.size (fun k e=>jp h.mM (hr k e).2.2.2),h.hD,(jM (a:=⟨D,4,none⟩) hbl).trans h.c4,(jM (a:=⟨D,5,none⟩) hbl).trans h.c5,(jM (a:=⟨D,6,none⟩) hbl).trans h.c6,(jM (a:=⟨D,7,none⟩) hbl).trans h.c7,fun k=>(jN (a:=⟨D,k,none⟩) hbl).trans (h.fz k),h.mp.kept hg (fun e=>(hr Kb e.symm).2.1 rfl),h.fi,fun p x hc=>⟨(h.fw p x hc).1,(h.fw p x hc).2.1,(jM (a:=p) (hg.block p.block (jo (h.fw p x hc).2.1 h.fm) (fun e=>Nat.not_lt.2 (hr _ e.symm).2.2.2 (h.fw p x hc).2.1))).trans (h.fw p x hc).2.2⟩,jp h.fm hg.size,h.mM,h.fu,h.rl.kept hg ?_,h.nk,h.mx,h.nu⟩
 cases e:u.ownBlock with
 | none=>exact .inl rfl
 | some b=>exact .inr (fun e2=>(hr b e2.symm).2.2.1 e)
theorem CS.put4 (h:CS w0 w D Kb kn kf vs u a) {b:Nat} (h1:b≠D) (h2:b≠Kb) (h3:u.ownBlock≠some b) (h4:kf.M<=b) (x0 x1 x2 x3:Value):CS w0 ((((w.setCell ⟨b,0,none⟩ x0).setCell ⟨b,1,none⟩ x1).setCell ⟨b,2,none⟩ x2).setCell ⟨b,3,none⟩ x3) D Kb kn kf vs u a :=
 (((h.other h1 h2 h3 h4 _).other h1 h2 h3 h4 _).other h1 h2 h3 h4 _).other h1 h2 h3 h4 _
theorem CS.variable (h:CS w0 w D Kb kn kf vs u a) (hl:vs.length<=1000) {x:ByteArray} (hx:zG x) (at_:Int) : Calls Tryz.prog 120 #[.pointer (some ⟨D,0,none⟩),.string x,.int .i64 at_] w fun e w'=>VP (vJ kf vs x) at_ w e w' :=
 zs7 D Kb kn kf.f vs u x at_ w h.c5 h.c6 h.mp h.faces (zva h.rl) hl hx h.max
theorem CS.procedure (h:CS w0 w D Kb kn kf vs u a) {x:ByteArray} (hx:zG x) (at_:Int) : Calls Tryz.prog 121 #[.pointer (some ⟨D,0,none⟩),.string x,.int .i64 at_] w fun e w'=>PP (uP kf x) at_ w e w' :=
 zp1 D Kb kn kf.f x at_ w h.c5 h.mp h.faces hx h.max
theorem CS.begin (h:CS w0 w D Kb kn kf vs u a) (h0:0<=a) (h1:a<=1000000) : Calls Tryz.prog 39 #[.pointer (some ⟨D,0,none⟩)] w fun e w'=>e=.returned (.int .i64 a)/\w'=w.setCell ⟨D,7,none⟩ (.int .i64 (a+1)) :=
 znm D a w h.c7 (h.fz 7) h0 h1
end
theorem uA {r b o:Nat} {w w1:World} (h:Fr r w w1) (hb:w.heap.size<=b) (v:Value):Fr r w (w1.setCell ⟨b,o,none⟩ v) :=
 World.grownBy.andThen h (Go.Lib.grownBy_setCell w1 b o v) (fun j e=>by cases e;exact .inl hb)
theorem zap {r b:Nat} {w w1:World} (h:Fr r w w1) (hb:w.heap.size<=b) (x0 x1 x2 x3:Value):Fr r w ((((w1.setCell ⟨b,0,none⟩ x0).setCell ⟨b,1,none⟩ x1).setCell ⟨b,2,none⟩ x2).setCell ⟨b,3,none⟩ x3) :=
 uA (uA (uA (uA h hb _) hb _) hb _) hb _
def EX (w0:World) (D Kb kn:Nat) (kf:KF) (vs:List VarD) (u:Value) (w:World) (r:Res (Int × Int)) (e:Ending) (w':World):Prop:=match r with
 | .bad c b=>e=.panicked (qS c b)/\Below w0.heap.size w0 w'
 | .ok q=>e=.returned (.int .i64 q.1)/\CS w0 w' D Kb kn kf vs u q.2/\Fr D w w'
def plP (kf:ByteArray->Option FV) (vs:List VarD) (k:Int) (x:ByteArray) (a:Int):Res (List Int × Int)->Res (VarD × Int × Int)
 | .bad c b=>.bad c b
 | .ok q=>match vJ kf vs x with
  | none=>.bad 4 a
  | some v=>if decide (0<v.size)=(k==17) then .ok (v,q.1.getLast?.getD 0,q.2) else .bad 3 a
def PL (w0:World) (D Kb kn:Nat) (kf:KF) (vs:List VarD) (u:Value) (w:World) (r:Res (VarD × Int × Int)) (e:Ending) (w':World):Prop:=match r with
 | .bad c b=>e=.panicked (qS c b)/\Below w0.heap.size w0 w'
 | .ok q=>e=.returned (.tuple #[qN q.1,.int .i64 q.2.1])/\CS w0 w' D Kb kn kf vs u q.2.2/\Fr D w w'
theorem zlg {W:World} {v:VarD} {a0 a1 a2 a3 a4 a5 ix:Value} (tl:List Value) (B:Nat) (h:qC W B v):(results Tryz.f106 (List.toArray (a0 :: a1 :: a2 :: a3 :: a4 :: a5 :: .pointer (some ⟨B,0,none⟩) :: ix :: tl))).run Tryz.prog W=.ok (.tuple #[qN v,ix]) W:=by
 obtain ⟨z0,z1,z2,z3,zf⟩:=h.cells;unfold qN;simp [results,Tryz.f106,go_sem,z0,z1,z2,z3]
section
variable {w0:World} {D Kb kn:Nat} {kf:KF} {vs:List VarD} {u:Value}
theorem PL.mkBad {w w':World} {r:Res (VarD × Int × Int)} {c b:Int} (h:r=.bad c b) (hb:Below w0.heap.size w0 w'):PL w0 D Kb kn kf vs u w r (.panicked (qS c b)) w':=by rw [h];exact ⟨rfl,hb⟩
theorem PL.mkOk {w w':World} {r:Res (VarD × Int × Int)} {v:VarD} {i a:Int} {e:Ending} (h:r=.ok (v,i,a)) (he:e=.returned (.tuple #[qN v,.int .i64 i])) (hc:CS w0 w' D Kb kn kf vs u a) (hf:Fr D w w'):PL w0 D Kb kn kf vs u w r e w':=by rw [h];exact ⟨he,hc,hf⟩
theorem oPlace (E:Env) (L:List Loc) (hvs:vs.length<=1000) (k:Int) (x:ByteArray) (m:Int) (ks:List Tree) (v:Value) (w:World) (ctx at_:Int) (hkids:∀ t∈ks,ExT t) (hx:zG x) (hv:kC (·<w0.heap.size) w0 (.node k x m ks) v) (h:CS w0 w D Kb kn kf vs u at_) (h0:0<=at_) (hm:at_+1+kA ks<=1000000) (ih:∀ j (hj:j<ks.length) (v:Value) (w:World) (at_:Int),ExT ks[j]->kC (·<w0.heap.size) w0 ks[j] v->CS w0 w D Kb kn kf vs u at_->0<=at_->at_+kB ks[j]<=1000000 -> Calls Tryz.prog 91 #[.pointer (some ⟨D,0,none⟩),v,.int .i64 ctx] w fun e w'=>EX w0 D Kb kn kf vs u w (exF E L ctx false ks[j] at_) e w') : Calls Tryz.prog 106 #[.pointer (some ⟨D,0,none⟩),v,.int .i64 ctx] w fun e w'=>PL w0 D Kb kn kf vs u w (plP kf vs k x at_ (exL E L ctx ks (at_+1))) e w':=by
 have c24:=kc25;have c4:Tryz.prog.cellsOf 57=4:=cell4;unfold kC at hv;obtain ⟨a,c,rfl,hl,hk⟩:=hv;have hcp:=kX ks;have hd:=h.lt;have hlen:=len_cnt ks;obtain ⟨R,hR⟩:∃ R,exL E L ctx ks (at_+1)=R:=⟨_,rfl⟩
 rw [hR];have HR:Hid (exL E L ctx ks (at_+1)=R):=hR;clear hR;obtain ⟨Z,HZ⟩:∃ Z,Hid (plP kf vs k x at_ R=Z):=⟨_,rfl⟩
 rw [HZ.out];have hI0:=(h.alloc (.cells #[.int .i64 k,.string x,.int .i64 m,.slice a ks.length c] 25)).alloc (.cells #[.string ⟨#[]⟩,.bool false,.int .i64 0,.int .i64 0] 57);have hBg:=hI0.begin h0 (by omega);have hw0:=h.fm;have hKb:=h.mp.lt;have hub:∀ b,u.ownBlock=some b->b<w.heap.size:=fun b e=>(h.rl.lt _ e).2
 clear h;go_enter Tryz.func106,Tryz.ntmps106;go_wp2_with (go_at_call 39;refine hBg.mono ?_;rintro e w1 ⟨rfl,hw1⟩;have hI1:CS w0 w1 D Kb kn kf vs u (at_+1):=by { rw [hw1];exact hI0.setAt _ };have hQ1:Q4 w.heap.size (.int .i64 k) (.string x) (.int .i64 m) (.slice a ks.length c) w1:=by { rw [hw1];exact Q4.other (by omega) ⟨by simp,by simp,by simp,by simp⟩ _ _ };have hF1:Fr D w w1:=by { rw [hw1];exact (((Fr.refl _ _).alloc _).alloc _).set _ _ };have hZ1:qC w1 (w.heap.size+1) xV:=by { rw [hw1];have:=qC.new (w.alloc (.cells #[.int .i64 k,.string x,.int .i64 m,.slice a ks.length c] 25)) xV;rw [jO] at this;exact (jP _ ⟨D,7,none⟩ _ _ (by show w.heap.size+1≠D;omega)).trans this };clear hw1;obtain ⟨q0,q1,q2,q3⟩:=id hQ1);clear hI0 hBg q0 q1 q2 q3;go_loopw [7,16] (fun ix t wr=>∃ (j:Nat) (ls:List Int),j<=ks.length/\t=.int .i64 j/\ix=.int .i64 (ls.getLast?.getD 0)/\Fr D w wr/\w.heap.size+1+1<=wr.heap.size/\Q4 w.heap.size (.int .i64 k) (.string x) (.int .i64 m) (.slice a ks.length c) wr/\qC wr (w.heap.size+1) xV/\CS w0 wr D Kb kn kf vs u (at_+1+kA (ks.take j))/\Hid (R=uL ls (exL E L ctx (ks.drop j) (at_+1+kA (ks.take j))))) (fun _ t _=>ks.length - (intOf t).toNat)
 case atStart =>
  have hz:=hZ1.lt;refine ⟨0,[],jz _,rfl,rfl,hF1,by omega,hQ1,hZ1,by simpa [kA] using hI1,?_⟩;show _=_;rw [<- HR.out,List.drop_zero];simp only [List.take_zero,kA,Int.add_zero]
  cases exL E L ctx ks (at_+1) with
  | bad c b=>rfl
  | ok q=>rfl
 case round =>
  clear hI1 hQ1 hF1 hZ1;obtain ⟨j,ls,hj,rfl,rfl,hFr,hsz,hQ,hZb,hI,HRR⟩:=hrel;obtain ⟨q0,q1,q2,q3⟩:=id hQ;by_cases hlt:j<ks.length
  ·obtain ⟨g,o,rfl,hg,hat⟩:=hk (by intro e;rw [e] at hlt;simp at hlt);obtain ⟨v1,⟨x0,x1,x2,x3,rfl,c0,c1',c2,c3⟩,hlk⟩:=hat.get j hlt;obtain ⟨kk,xx,mm,_,he,aa,na,ca,rfl⟩:=hlk.shape;injection he with he;simp only [Array.mk.injEq,jq,and_true] at he;obtain ⟨rfl,rfl,rfl,rfl⟩:=he;have k0:=(hI.bs.cell (p:=⟨g,o+j*4,none⟩) hg).trans c0;have k1:=(hI.bs.cell (p:=⟨g,o+j*4+1,none⟩) hg).trans c1';have k2:=(hI.bs.cell (p:=⟨g,o+j*4+2,none⟩) hg).trans c2;have k3:=(hI.bs.cell (p:=⟨g,o+j*4+3,none⟩) hg).trans c3;have hs1:=cntL_take ks j hlt;have hs2:=fA ks (j+1);have hs3:=kR ks[j];have hs4:=kX (ks.take j);have hI1:=hI.alloc (.cells #[.int .i64 kk,.string xx,.int .i64 mm,.slice aa na ca] 25);have hFr1:=hFr.alloc (.cells #[.int .i64 kk,.string xx,.int .i64 mm,.slice aa na ca] 25);have hQ1:=Q4.alloc hQ (.cells #[.int .i64 kk,.string xx,.int .i64 mm,.slice aa na ca] 25);have hZ1:=hZb.alloc (.cells #[.int .i64 kk,.string xx,.int .i64 mm,.slice aa na ca] 25);have hC:=ih j hlt _ _ _ (hkids _ (jH hlt)) hlk hI1 (by omega) (by omega)
   have HP:Hid (R=match exF E L ctx false ks[j] (at_+1+kA (ks.take j)) with
     | .bad c b=>.bad c b
     | .ok q=>uL (ls++[q.1]) (exL E L ctx (ks.drop (j+1)) q.2)):=HRR.out.trans (zey E L ctx ks j hlt ls _)
   have HA:Hid (∀ q,exF E L ctx false ks[j] (at_+1+kA (ks.take j))=.ok q->q.2=at_+1+kA (ks.take (j+1))):=fun q hq=>by
    have:=dW E L ctx _ _ _ _ hq;omega
   clear c0 c1' c2 c3 hat hlk hk HRR hs1 hs2 hs3 hs4 ih;generalize hXX:exF E L ctx false ks[j] (at_+1+kA (ks.take j))=X at *;have HA2:Hid (∀ q,X=.ok q->q.2=at_+1+kA (ks.take (j+1))):=fun q hq=>HA.out q hq
   clear hXX HA
   cases X with
   | bad cc bb =>
    have HRB:Hid (Z=.bad cc bb):=by
     show _=_;rw [<- HZ.out,HP.out];rfl
    go_wp2_with (go_at_call 91;refine hC.mono ?_;rintro e w2 ⟨rfl,hb2⟩)
    exact ⟨rfl,PL.mkBad HRB.out hb2⟩
   | ok q =>
    have HRO:Hid (R=uL (ls++[q.1]) (exL E L ctx (ks.drop (j+1)) q.2)):=HP.out;have HA3:=HA2.out q rfl;obtain ⟨l1,a1⟩:=q;dsimp only at HA3 hC;subst HA3;go_wp2_with (go_at_call 91;refine hC.mono ?_;rintro e w2 ⟨rfl,hI2,hf2⟩);have hs9:=hf2.size;refine ⟨⟨j+1,ls++[l1],by omega,by simp,by simp,hFr1.trans hf2,by simp at hs9;omega,Q4.grown hQ1 hf2 (by simp;omega),hZ1.kept hf2 (by simp;omega),hI2,HRO.out⟩,by simp [intOf];omega⟩
  ·obtain rfl:j=ks.length:=by omega
   have HX:Hid (R=.ok (ls,at_+1+kA ks)):=by
    show _=_;rw [HRR.out,List.drop_eq_nil_of_le (by omega),jG (by omega)];simp [exL,uL]
   rw [jG (by omega)] at hI;have hVr:=hI.variable hvs hx at_
   have HY:Hid (Z=match vJ kf vs x with
     | none=>.bad 4 at_
     | some v=>if decide (0<v.size)=(k==17) then .ok (v,ls.getLast?.getD 0,at_+1+kA ks) else .bad 3 at_):=by
    show _=_;rw [<- HZ.out,HX.out];rfl
   clear HX HRR ih hk hkids;generalize at_+1+kA ks=an at *;generalize ls.getLast?.getD 0=ix at *;generalize vJ kf vs x=V at *
   cases V with
   | none =>
    have HB:Hid (Z=.bad 4 at_):=HY.out;go_wp2_with (go_at_call 120;refine hVr.mono ?_;rintro e w2 ⟨hb2,he⟩;obtain rfl:e=.panicked (qS 4 at_):=he)
    exact ⟨rfl,PL.mkBad HB.out (hI.bs.trans (hb2.mono hI.bs.size))⟩
   | some v =>
    by_cases h17:k=17
    ·by_cases hvz:0<v.size
     ·skip;have hdz:decide (0<v.size)=true:=by simp [hvz]
      have HB:Hid (Z=.ok (v,ix,an)):=by
       show _=_;rw [HY.out];simp [h17,hdz]
      go_wp2_with first
       | (go_at_call 120;refine hVr.mono ?_;rintro e w2 ⟨hb2,he⟩;obtain rfl:e=.returned (qN v):=he;unfold qN;obtain ⟨q0,q1,q2,q3⟩:=id (Q4.below hQ hb2);obtain ⟨z0,z1,z2,z3,zf⟩:=(hZb.below hb2 hZb.lt).cells;have zf0:=zf 0;have zf1:=zf 1;have zf2:=zf 2;have zf3:=zf 3;clear zf;have hI2:=(hI.below hb2).put4 (b:=w.heap.size+1) (by omega) (by omega) (fun e=>by have:=hub _ e;omega) (by omega) (.string v.name) (.bool v.pub) (.int .i64 v.label) (.int .i64 v.size);have hF2:=zap (b:=w.heap.size+1) (hFr.trans (Fr.below hb2)) (by omega) (.string v.name) (.bool v.pub) (.int .i64 v.label) (.int .i64 v.size))
       | (go_at_call 67;refine (vL 3 at_ _).mono ?_;rintro e w3 ⟨rfl,hw3⟩;rw [hw3])
      refine jT (v:=.tuple #[qN v,.int .i64 ix]) (zlg _ _ (((hZb.below hb2 hZb.lt).put v).put v)) rfl ?_;exact PL.mkOk HB.out rfl (hI2.put4 (b:=w.heap.size+1) (by omega) (by omega) (fun e=>by have:=hub _ e;omega) (by omega) _ _ _ _) (zap hF2 (by omega) _ _ _ _)
     ·skip;have hdz:decide (0<v.size)=false:=by simp [hvz]
      have HB:Hid (Z=.bad 3 at_):=by
       show _=_;rw [HY.out];simp [h17,hdz]
      go_wp2_with first
       | (go_at_call 120;refine hVr.mono ?_;rintro e w2 ⟨hb2,he⟩;obtain rfl:e=.returned (qN v):=he;unfold qN;obtain ⟨q0,q1,q2,q3⟩:=id (Q4.below hQ hb2);obtain ⟨z0,z1,z2,z3,zf⟩:=(hZb.below hb2 hZb.lt).cells;have zf0:=zf 0;have zf1:=zf 1;have zf2:=zf 2;have zf3:=zf 3;clear zf;have hI2:=(hI.below hb2).put4 (b:=w.heap.size+1) (by omega) (by omega) (fun e=>by have:=hub _ e;omega) (by omega) (.string v.name) (.bool v.pub) (.int .i64 v.label) (.int .i64 v.size);have hF2:=zap (b:=w.heap.size+1) (hFr.trans (Fr.below hb2)) (by omega) (.string v.name) (.bool v.pub) (.int .i64 v.label) (.int .i64 v.size))
       | (go_at_call 67;refine (vL 3 at_ _).mono ?_;rintro e w3 ⟨rfl,hw3⟩;rw [hw3])
      exact ⟨rfl,PL.mkBad HB.out hI2.bs⟩
    ·by_cases hvz:0<v.size
     ·skip;have hdz:decide (0<v.size)=true:=by simp [hvz]
      have h17b:(k==17)=false:=by simp [h17]
      have h17c:decide (k=17)=false:=by simp [h17]
      have HB:Hid (Z=.bad 3 at_):=by
       show _=_;rw [HY.out];simp [h17,hdz]
      go_wp2_with first
       | (go_at_call 120;refine hVr.mono ?_;rintro e w2 ⟨hb2,he⟩;obtain rfl:e=.returned (qN v):=he;unfold qN;obtain ⟨q0,q1,q2,q3⟩:=id (Q4.below hQ hb2);obtain ⟨z0,z1,z2,z3,zf⟩:=(hZb.below hb2 hZb.lt).cells;have zf0:=zf 0;have zf1:=zf 1;have zf2:=zf 2;have zf3:=zf 3;clear zf;have hI2:=(hI.below hb2).put4 (b:=w.heap.size+1) (by omega) (by omega) (fun e=>by have:=hub _ e;omega) (by omega) (.string v.name) (.bool v.pub) (.int .i64 v.label) (.int .i64 v.size);have hF2:=zap (b:=w.heap.size+1) (hFr.trans (Fr.below hb2)) (by omega) (.string v.name) (.bool v.pub) (.int .i64 v.label) (.int .i64 v.size))
       | (go_at_call 67;refine (vL 3 at_ _).mono ?_;rintro e w3 ⟨rfl,hw3⟩;rw [hw3])
      exact ⟨rfl,PL.mkBad HB.out hI2.bs⟩
     ·skip;have hdz:decide (0<v.size)=false:=by simp [hvz]
      have h17b:(k==17)=false:=by simp [h17]
      have h17c:decide (k=17)=false:=by simp [h17]
      have HB:Hid (Z=.ok (v,ix,an)):=by
       show _=_;rw [HY.out];simp [h17,hdz]
      go_wp2_with first
       | (go_at_call 120;refine hVr.mono ?_;rintro e w2 ⟨hb2,he⟩;obtain rfl:e=.returned (qN v):=he;unfold qN;obtain ⟨q0,q1,q2,q3⟩:=id (Q4.below hQ hb2);obtain ⟨z0,z1,z2,z3,zf⟩:=(hZb.below hb2 hZb.lt).cells;have zf0:=zf 0;have zf1:=zf 1;have zf2:=zf 2;have zf3:=zf 3;clear zf;have hI2:=(hI.below hb2).put4 (b:=w.heap.size+1) (by omega) (by omega) (fun e=>by have:=hub _ e;omega) (by omega) (.string v.name) (.bool v.pub) (.int .i64 v.label) (.int .i64 v.size);have hF2:=zap (b:=w.heap.size+1) (hFr.trans (Fr.below hb2)) (by omega) (.string v.name) (.bool v.pub) (.int .i64 v.label) (.int .i64 v.size))
       | (go_at_call 67;refine (vL 3 at_ _).mono ?_;rintro e w3 ⟨rfl,hw3⟩;rw [hw3])
      refine jT (v:=.tuple #[qN v,.int .i64 ix]) (zlg _ _ (((hZb.below hb2 hZb.lt).put v).put v)) rfl ?_;exact PL.mkOk HB.out rfl (hI2.put4 (b:=w.heap.size+1) (by omega) (by omega) (fun e=>by have:=hub _ e;omega) (by omega) _ _ _ _) (zap hF2 (by omega) _ _ _ _)
end
def xW:List Int->List Int->Bool
 | p :: r,l :: s=>zS p [l]&&xW r s
 | _,_=>true
theorem ztr {w:World} {B:Nat} {y:Value} {ls:List Int} (hl:ls.length<=1000000) (h:w.ownsRow B 3 1 y ls.length (uU ls)):yU w y ls:=by
 obtain ⟨a,cap,rfl,_,hg⟩:=lexs.own_shape h;refine ⟨a,cap,rfl,by omega,fun hne=>?_⟩;have hp:0<ls.length:=List.length_pos_iff.2 hne;obtain ⟨g,rfl⟩:=hg hp;refine ⟨g,0,rfl,fun i hi=>?_⟩;rw [Nat.zero_add];refine (h.cellAt i (by omega)).trans ?_;unfold uU;rw [List.getElem?_map,List.getElem?_eq_getElem hi];rfl
theorem zad (w:World) (l:Int):yU (w.alloc (.cells #[.int .i64 l] 3)) (.slice (some ⟨w.heap.size,0,none⟩) 1 1) [l] :=
 ⟨_,_,rfl,by simp,fun _=>⟨_,_,rfl,fun i hi=>by obtain rfl:i=0:=by { simp at hi;exact hi };simp⟩⟩
theorem zir {ps ls:List Int} {j:Nat} (h1:j<ps.length) (h2:j<ls.length):xW (ps.drop j) (ls.drop j)=(zS ps[j] [ls[j]]&&xW (ps.drop (j+1)) (ls.drop (j+1))):=by
 rw [List.drop_eq_getElem_cons h1,List.drop_eq_getElem_cons h2];rfl
def clP (kf:ByteArray->Option FV) (ctx:Int) (alone:Bool) (x:ByteArray) (a:Int):Res (List Int × Int)->Res (ProcD × Int)
 | .bad c b=>.bad c b
 | .ok q=>match uP kf x with
  | none=>.bad 4 a
  | some p=>if q.1.length≠p.params.length then .bad 6 a else if (!p.gives&&!alone)=true then .bad 3 a else if xW p.params q.1=false then .bad 7 a else if zS p.writes [ctx]=false then .bad 7 a else .ok (p,q.2)
def CL (w0:World) (D Kb kn:Nat) (kf:KF) (vs:List VarD) (u:Value) (w:World) (r:Res (ProcD × Int)) (e:Ending) (w':World):Prop:=match r with
 | .bad c b=>e=.panicked (qS c b)/\Below w0.heap.size w0 w'
 | .ok q=>(∃ z,e=.returned (yJ q.1 z))/\CS w0 w' D Kb kn kf vs u q.2/\Fr D w w'
section
variable {w0:World} {D Kb kn:Nat} {kf:KF} {vs:List VarD} {u:Value}
theorem CL.mkBad {w w':World} {r:Res (ProcD × Int)} {c b:Int} (h:r=.bad c b) (hb:Below w0.heap.size w0 w'):CL w0 D Kb kn kf vs u w r (.panicked (qS c b)) w':=by rw [h];exact ⟨rfl,hb⟩
theorem CL.mkOk {w w':World} {r:Res (ProcD × Int)} {p:ProcD} {z:Value} {a:Int} {e:Ending} (h:r=.ok (p,a)) (he:e=.returned (yJ p z)) (hc:CS w0 w' D Kb kn kf vs u a) (hf:Fr D w w'):CL w0 D Kb kn kf vs u w r e w':=by rw [h];exact ⟨⟨z,he⟩,hc,hf⟩
theorem zn4 (E:Env) (L:List Loc) (k:Int) (x:ByteArray) (m:Int) (ks:List Tree) (v:Value) (w:World) (ctx at_:Int) (alone:Bool) (hkids:∀ t∈ks,ExT t) (hx:zG x) (hv:kC (·<w0.heap.size) w0 (.node k x m ks) v) (h:CS w0 w D Kb kn kf vs u at_) (h0:0<=at_) (hm:at_+1+kA ks<=1000000) (ih:∀ j (hj:j<ks.length) (v:Value) (w:World) (at_:Int),ExT ks[j]->kC (·<w0.heap.size) w0 ks[j] v->CS w0 w D Kb kn kf vs u at_->0<=at_->at_+kB ks[j]<=1000000 -> Calls Tryz.prog 91 #[.pointer (some ⟨D,0,none⟩),v,.int .i64 ctx] w fun e w'=>EX w0 D Kb kn kf vs u w (exF E L ctx false ks[j] at_) e w') : Calls Tryz.prog 107 #[.pointer (some ⟨D,0,none⟩),v,.int .i64 ctx,.bool alone] w fun e w'=>CL w0 D Kb kn kf vs u w (clP kf ctx alone x at_ (exL E L ctx ks (at_+1))) e w':=by
 have c24:=kc25;have c6:Tryz.prog.cellsOf 62=6:=fL;have c1:Tryz.prog.cellsOf 3=1:=zb6;obtain ⟨i0,hi,hz0,hz1,hz2⟩:=info_parts zol;unfold kC at hv;obtain ⟨a,c,rfl,hl,hk⟩:=hv;have hcp:=kX ks;have hd:=h.lt;have hlen:=len_cnt ks;obtain ⟨R,hR⟩:∃ R,exL E L ctx ks (at_+1)=R:=⟨_,rfl⟩
 rw [hR];have HR:Hid (exL E L ctx ks (at_+1)=R):=hR;clear hR;obtain ⟨Z,HZ⟩:∃ Z,Hid (clP kf ctx alone x at_ R=Z):=⟨_,rfl⟩
 rw [HZ.out];have hI0:=(h.alloc (.cells #[.int .i64 k,.string x,.int .i64 m,.slice a ks.length c] 25)).alloc (.cells #[.string ⟨#[]⟩,.bool false,.slice none 0 0,.int .i64 0,.bool false,.int .i64 0] 62);have hBg:=hI0.begin h0 (by omega);have hw0:=h.fm;have hKb:=h.mp.lt;have hub:∀ b,u.ownBlock=some b->b<w.heap.size:=fun b e=>(h.rl.lt _ e).2
 clear h;go_enter Tryz.func107,Tryz.ntmps107;go_wp2_with (go_at_call 39;refine hBg.mono ?_;rintro e w1 ⟨rfl,hw1⟩;have hI1:CS w0 w1 D Kb kn kf vs u (at_+1):=by { rw [hw1];exact hI0.setAt _ };have hQ1:Q4 w.heap.size (.int .i64 k) (.string x) (.int .i64 m) (.slice a ks.length c) w1:=by { rw [hw1];exact Q4.other (by omega) ⟨by simp,by simp,by simp,by simp⟩ _ _ };have hF1:Fr D w w1:=by { rw [hw1];exact (((Fr.refl _ _).alloc _).alloc _).set _ _ };have hZ1:Box6 w1 (w.heap.size+1) (.string ⟨#[]⟩) (.bool false) (.slice none 0 0) (.int .i64 0) (.bool false) (.int .i64 0):=by { rw [hw1];have:=Box6.new (w.alloc (.cells #[.int .i64 k,.string x,.int .i64 m,.slice a ks.length c] 25)) (.string ⟨#[]⟩) (.bool false) (.slice none 0 0) (.int .i64 0) (.bool false) (.int .i64 0) 62;rw [jO] at this;exact this.other (by omega) _ };clear hw1;obtain ⟨q0,q1,q2,q3⟩:=id hQ1);clear hI0 hBg q0 q1 q2 q3;go_loopw [10,21] (fun y t wr=>∃ (j:Nat) (ls:List Int),j<=ks.length/\t=.int .i64 j/\ls.length=j/\wr.ownsRow (w.heap.size+1+1) 3 1 y ls.length (uU ls)/\Fr D w wr/\w.heap.size+1+1<=wr.heap.size/\Q4 w.heap.size (.int .i64 k) (.string x) (.int .i64 m) (.slice a ks.length c) wr/\Box6 wr (w.heap.size+1) (.string ⟨#[]⟩) (.bool false) (.slice none 0 0) (.int .i64 0) (.bool false) (.int .i64 0)/\CS w0 wr D Kb kn kf vs u (at_+1+kA (ks.take j))/\Hid (R=uL ls (exL E L ctx (ks.drop j) (at_+1+kA (ks.take j))))) (fun _ t _=>ks.length - (intOf t).toNat)
 case atStart =>
  have hz:=hZ1.lt;refine ⟨0,[],jz _,rfl,rfl,World.ownsRow_nil _ _ _ _,hF1,by omega,hQ1,hZ1,by simpa [kA] using hI1,?_⟩;show _=_;rw [<- HR.out,List.drop_zero];simp only [List.take_zero,kA,Int.add_zero]
  cases exL E L ctx ks (at_+1) with
  | bad c b=>rfl
  | ok q=>rfl
 case round =>
  clear hI1 hQ1 hF1 hZ1;obtain ⟨j,ls,hj,rfl,hlsj,hown,hFr,hsz,hQ,hZb,hI,HRR⟩:=hrel;obtain ⟨q0,q1,q2,q3⟩:=id hQ;have HLS:Hid (ls.length=j):=hlsj;clear hlsj;by_cases hlt:j<ks.length
  ·obtain ⟨g,o,rfl,hg,hat⟩:=hk (by intro e;rw [e] at hlt;simp at hlt);obtain ⟨v1,⟨x0,x1,x2,x3,rfl,c0,c1',c2,c3⟩,hlk⟩:=hat.get j hlt;obtain ⟨kk,xx,mm,_,he,aa,na,ca,rfl⟩:=hlk.shape;injection he with he;simp only [Array.mk.injEq,jq,and_true] at he;obtain ⟨rfl,rfl,rfl,rfl⟩:=he;have k0:=(hI.bs.cell (p:=⟨g,o+j*4,none⟩) hg).trans c0;have k1:=(hI.bs.cell (p:=⟨g,o+j*4+1,none⟩) hg).trans c1';have k2:=(hI.bs.cell (p:=⟨g,o+j*4+2,none⟩) hg).trans c2;have k3:=(hI.bs.cell (p:=⟨g,o+j*4+3,none⟩) hg).trans c3;have hs1:=cntL_take ks j hlt;have hs2:=fA ks (j+1);have hs3:=kR ks[j];have hs4:=kX (ks.take j);have hI1:=hI.alloc (.cells #[.int .i64 kk,.string xx,.int .i64 mm,.slice aa na ca] 25);have hFr1:=hFr.alloc (.cells #[.int .i64 kk,.string xx,.int .i64 mm,.slice aa na ca] 25);have hQ1:=Q4.alloc hQ (.cells #[.int .i64 kk,.string xx,.int .i64 mm,.slice aa na ca] 25);have hZ1:=hZb.alloc (.cells #[.int .i64 kk,.string xx,.int .i64 mm,.slice aa na ca] 25);have hC:=ih j hlt _ _ _ (hkids _ (jH hlt)) hlk hI1 (by omega) (by omega)
   have HP:Hid (R=match exF E L ctx false ks[j] (at_+1+kA (ks.take j)) with
     | .bad c b=>.bad c b
     | .ok q=>uL (ls++[q.1]) (exL E L ctx (ks.drop (j+1)) q.2)):=HRR.out.trans (zey E L ctx ks j hlt ls _)
   have HA:Hid (∀ q,exF E L ctx false ks[j] (at_+1+kA (ks.take j))=.ok q->q.2=at_+1+kA (ks.take (j+1))):=fun q hq=>by
    have:=dW E L ctx _ _ _ _ hq;omega
   have hls1000:ls.length<=1000000:=by have:=HLS.out;omega
   have hls2:=HLS.out;obtain ⟨ua,uc,rfl,_,_⟩:=lexs.own_shape hown;rw [hls2] at hown |-;clear hls2;clear c0 c1' c2 c3 hat hlk hk HRR hs1 hs2 hs3 hs4 ih;generalize hXX:exF E L ctx false ks[j] (at_+1+kA (ks.take j))=X at *;have HA2:Hid (∀ q,X=.ok q->q.2=at_+1+kA (ks.take (j+1))):=fun q hq=>HA.out q hq
   clear hXX HA
   cases X with
   | bad cc bb =>
    have HRB:Hid (Z=.bad cc bb):=by
     show _=_;rw [<- HZ.out,HP.out];rfl
    go_wp2_with (go_at_call 91;refine hC.mono ?_;rintro e w2 ⟨rfl,hb2⟩)
    exact ⟨rfl,CL.mkBad HRB.out hb2⟩
   | ok q =>
    have HRO:Hid (R=uL (ls++[q.1]) (exL E L ctx (ks.drop (j+1)) q.2)):=HP.out;have HA3:=HA2.out q rfl;obtain ⟨l1,a1⟩:=q;dsimp only at HA3 hC;subst HA3;have hown0:=hown.alloc (.cells #[.int .i64 kk,.string xx,.int .i64 mm,.slice aa na ca] 25);have hneD:some D≠(Value.slice ua j uc).ownBlock:=fun e=>by have:=(hown.lt _ e.symm).1;omega
    have hneD2:(Value.slice ua j uc).ownBlock=none\/(Value.slice ua j uc).ownBlock≠some D:=by
     cases e:(Value.slice ua j uc).ownBlock with
     | none=>exact .inl rfl
     | some b=>exact .inr (fun e2=>hneD (by rw [e,e2]))
    go_wp2_with first
     | (go_at_call 91;refine hC.mono ?_;rintro e w2 ⟨rfl,hI2,hf2⟩;have hown1:=hown0.kept hf2 hneD2;have hs9:=hf2.size;rw [jO] at hs9)
     | (at_builtin;refine wpList_append_own _ rfl (.tmp 25) (.tmp 30) 60 rfl (w.heap.size+1+1) 3 i0 (.int .i64 0) 1 8 Tryz.underlying60 hi hz0 hz1 hz2 rfl (by decide) _ _ _ rfl (hown1.alloc _) ⟨w2.heap.size,0,none⟩ 1 1 [.int .i64 l1] rfl rfl (zag _ _ _ (by simp)) (zlw _) (by unfold maxLen;omega) (by omega) (by simp;omega) ?_;intro v5 w5 hown5 hgrow5 hnil5)
     | go_in
    have hlo:∀ b,(Value.slice ua j uc).ownBlock=some b->w.heap.size+1+1<=b:=fun b e=>(hown1.lt _ e).1
    have hs5:=hgrow5.size;simp only [jO] at hs5;refine ⟨⟨j+1,ls++[l1],by omega,by simp,by simp [HLS.out],?_,?_,by omega,?_,?_,?_,HRO.out⟩,by simp [intOf];omega⟩;·rw [jb,zj3,HLS.out];exact hown5
    ·exact World.grownBy.andThen ((hFr1.trans hf2).alloc _) hgrow5 (fun b e=>.inl (by have:=hlo b e;omega))
    ·exact Q4.grown (Q4.alloc (Q4.grown hQ1 hf2 (by simp;omega)) _) hgrow5 (fun e=>by have:=hlo _ e;omega)
    ·exact ((hZ1.grown hf2 (by simp;omega)).alloc _).grown hgrow5 (fun e=>by have:=hlo _ e;omega)
    ·exact (hI2.alloc _).grown hgrow5 (fun b e=>by have:=hlo b e;exact ⟨by omega,by omega,fun e2=>by have:=hub b e2;omega,by omega⟩)
  ·obtain rfl:j=ks.length:=by omega
   have HX:Hid (R=.ok (ls,at_+1+kA ks)):=by
    show _=_;rw [HRR.out,List.drop_eq_nil_of_le (by omega),jG (by omega)];simp [exL,uL]
   rw [jG (by omega)] at hI;have hPr:=hI.procedure hx at_
   have HY:Hid (Z=match uP kf x with
     | none=>.bad 4 at_
     | some p=>if ls.length≠p.params.length then .bad 6 at_ else if (!p.gives&&!alone)=true then .bad 3 at_ else if xW p.params ls=false then .bad 7 at_ else if zS p.writes [ctx]=false then .bad 7 at_ else .ok (p,at_+1+kA ks)):=by
    show _=_;rw [<- HZ.out,HX.out];rfl
   have hl9:ls.length<=1000000:=by have:=HLS.out;omega
   clear HX HRR ih hk hkids;generalize at_+1+kA ks=an at *;generalize uP kf x=V at *
   cases V with
   | none =>
    have HB:Hid (Z=.bad 4 at_):=HY.out;go_wp2_with (go_at_call 121;refine hPr.mono ?_;rintro e w2 ⟨hb2,he⟩;obtain rfl:e=.panicked (qS 4 at_):=he)
    exact ⟨rfl,CL.mkBad HB.out (hI.bs.trans (hb2.mono hI.bs.size))⟩
   | some p =>
    have hyi:=ztr hl9 hown;obtain ⟨ua,uc,rfl,_,_⟩:=lexs.own_shape hown;obtain ⟨pn,pb,ps,pw,pg,pv⟩:=p;dsimp only at HY;by_cases hne:ls.length=ps.length
    ·cases pg with
     | true =>
      skip
      go_wp2_with first
       | (go_at_call 121;refine hPr.mono ?_;rintro e w2 ⟨hb2,z,rfl,hz⟩;obtain ⟨za,zc,rfl,hzl,hzk⟩:=id hz;unfold yJ;have hI2:=(hI.below hb2).alloc (.cells #[.string pn,.bool pb,.slice za ps.length zc,.int .i64 pw,.bool true,.int .i64 pv] 62))
       | fail
      have hb6:=Box6.new w2 (.string pn) (.bool pb) (.slice za ps.length zc) (.int .i64 pw) (.bool true) (.int .i64 pv) 62;have hBx:Below w2.heap.size w2 (w2.alloc (.cells #[.string pn,.bool pb,.slice za ps.length zc,.int .i64 pw,.bool true,.int .i64 pv] 62)):=bal _;have hyi3:=(hyi.below hb2).below hBx;have hzi3:=hz.below hBx;have hF3:Fr D w (w2.alloc (.cells #[.string pn,.bool pb,.slice za ps.length zc,.int .i64 pw,.bool true,.int .i64 pv] 62)):=(hFr.trans (Fr.below hb2)).alloc _;have hZ3:=(hZb.below hb2).alloc (.cells #[.string pn,.bool pb,.slice za ps.length zc,.int .i64 pw,.bool true,.int .i64 pv] 62);have hN1:w.heap.size+1+1<=w2.heap.size:=jp hsz hb2.size;clear hBx hb2 hz hzk hyi hFr hZb hown hPr hQ q0 q1 q2 q3 hI;generalize w2.alloc (.cells #[.string pn,.bool pb,.slice za ps.length zc,.int .i64 pw,.bool true,.int .i64 pv] 62)=W3 at *;generalize w2.heap.size=N at *;go_loopw [57] (fun t wr'=>∃ j:Nat,j<=ps.length/\t=.int .i64 j/\Hid (xW ps ls=xW (ps.drop j) (ls.drop j))/\Below W3.heap.size W3 wr') (fun t _=>ps.length - (intOf t).toNat)
      case atStart=>exact ⟨0,jz _,rfl,rfl,Below.refl _ _⟩
      case round =>
       obtain ⟨j,hj,rfl,HA,hbr⟩:=hrel;have hbr2:Hid (Below W3.heap.size W3 wr):=hbr;have hI4:=hI2.below hbr;obtain ⟨y0,y1,y2,y3,y4,y5,_,_,_,_,_,_⟩:=hb6.below hbr;by_cases hlt:j<ps.length
       ·obtain ⟨_,_,ee,_,hyk⟩:=hyi3.below hbr;injection ee with ee _ ee2;obtain rfl:=ee;obtain rfl:=ee2;obtain ⟨_,_,ee3,_,hzk⟩:=hzi3.below hbr;injection ee3 with ee3 _ ee4;obtain rfl:=ee3;obtain rfl:=ee4;have hlt2:j<ls.length:=by rw [hne];exact hlt
        obtain ⟨g1,o1,rfl,hc1⟩:=hyk (by intro e;rw [e] at hlt2;simp at hlt2);obtain ⟨g2,o2,rfl,hc2⟩:=hzk (by intro e;rw [e] at hlt;simp at hlt);have k1:=hc1 j hlt2;have k2:=hc2 j hlt;have hfl:=gT at_ ps[j] [ls[j]] (.slice (some ⟨wr.heap.size,0,none⟩) 1 1) (wr.alloc (.cells #[.int .i64 ls[j]] 3)) (zad _ _);have HS:Hid (xW ps ls=(zS ps[j] [ls[j]]&&xW (ps.drop (j+1)) (ls.drop (j+1)))):=HA.out.trans (zir hlt hlt2);clear hc1 hc2 hyk hzk HA;generalize ps[j]=pj at *;generalize ls[j]=lj at *;cases hf:zS pj [lj]
        ·have HB:Hid (Z=.bad 7 at_):=by
          show _=_;rw [HY.out];have h9:=HS.out;rw [hf,Bool.false_and] at h9;simp [hne,h9]
         have hfl2:=hfl.mono (R':=fun e w'=>e=.panicked (qS 7 at_)/\w'=wr.alloc (.cells #[.int .i64 lj] 3)) (fun e w' h=>by
          rcases h with ⟨h1,_⟩|⟨_,h2⟩
          ·rw [hf] at h1;cases h1
          ·exact h2)
         clear hfl;go_wp2_with (go_at_call 90;refine hfl2.mono ?_;rintro e w4 ⟨rfl,hw4⟩;rw [hw4]);exact ⟨rfl,CL.mkBad HB.out (hI4.alloc _).bs⟩
        ·have HA2:Hid (xW ps ls=xW (ps.drop (j+1)) (ls.drop (j+1))):=by
          show _=_;rw [HS.out,hf,Bool.true_and]
         have hfl2:=hfl.mono (R':=fun e w'=>e=.returned (.tuple #[])/\w'=wr.alloc (.cells #[.int .i64 lj] 3)) (fun e w' h=>by
          rcases h with ⟨_,h2⟩|⟨h1,_⟩
          ·exact h2
          ·rw [hf] at h1;cases h1)
         clear hfl;go_wp2_with (go_at_call 90;refine hfl2.mono ?_;rintro e w4 ⟨rfl,hw4⟩;rw [hw4]);exact ⟨⟨j+1,by omega,by simp,HA2,hbr2.out.alloc hbr2.out.size _⟩,by simp [intOf];omega⟩
       ·obtain rfl:j=ps.length:=by omega
        have HA2:Hid (xW ps ls=true):=by
         show _=_;rw [HA.out,List.drop_eq_nil_of_le (jE _),List.drop_eq_nil_of_le (by omega)];rfl
        have hfl:=gT at_ pw [ctx] (.slice (some ⟨wr.heap.size,0,none⟩) 1 1) (wr.alloc (.cells #[.int .i64 ctx] 3)) (zad _ _);cases hf:zS pw [ctx]
        ·have HB:Hid (Z=.bad 7 at_):=by
          show _=_;rw [HY.out];simp [hne,HA2.out,hf]
         have hfl2:=hfl.mono (R':=fun e w'=>e=.panicked (qS 7 at_)/\w'=wr.alloc (.cells #[.int .i64 ctx] 3)) (fun e w' h=>by
          rcases h with ⟨h1,_⟩|⟨_,h2⟩
          ·rw [hf] at h1;cases h1
          ·exact h2)
         clear hfl;go_wp2_with (go_at_call 90;refine hfl2.mono ?_;rintro e w4 ⟨rfl,hw4⟩;rw [hw4]);exact ⟨rfl,CL.mkBad HB.out (hI4.alloc _).bs⟩
        ·have HB:Hid (Z=.ok (⟨pn,pb,ps,pw,true,pv⟩,an)):=by
          show _=_;rw [HY.out];simp [hne,HA2.out,hf]
         have hfl2:=hfl.mono (R':=fun e w'=>e=.returned (.tuple #[])/\w'=wr.alloc (.cells #[.int .i64 ctx] 3)) (fun e w' h=>by
          rcases h with ⟨_,h2⟩|⟨h1,_⟩
          ·exact h2
          ·rw [hf] at h1;cases h1)
         clear hfl
         have hA:∀ w4,w4=wr.alloc (.cells #[.int .i64 ctx] 3)->CS w0 w4 D Kb kn kf vs u an/\Fr D w w4/\Box6 w4 N (.string pn) (.bool pb) (.slice za ps.length zc) (.int .i64 pw) (.bool true) (.int .i64 pv)/\Box6 w4 (w.heap.size+1) (.string ⟨#[]⟩) (.bool false) (.slice none 0 0) (.int .i64 0) (.bool false) (.int .i64 0):=fun w4 e=>by
          rw [e];exact ⟨hI4.alloc _,(hF3.trans (Fr.below hbr)).alloc _,(hb6.below hbr).alloc _,(hZ3.below hbr).alloc _⟩
         clear y0 y1 y2 y4 y5;go_wp2_with (go_at_call 90;refine hfl2.mono ?_;rintro e w4 ⟨rfl,hw4⟩;obtain ⟨hI5,hF5,⟨s0,s1,s2,s3,s4,s5,_,_,_,_,_,_⟩,⟨t0,t1,t2,t3,t4,t5,t6,t7,t8,t9,t10,t11⟩⟩:=hA w4 hw4;clear hw4 hA);have d1:w.heap.size+1≠D:=by omega
         have d2:w.heap.size+1≠Kb:=by omega
         have d3:u.ownBlock≠some (w.heap.size+1):=fun e=>by have:=hub _ e;omega
         have d4:kf.M<=w.heap.size+1:=by omega
         have d5:w.heap.size<=w.heap.size+1:=by omega
         refine jT (v:=yJ ⟨pn,pb,ps,pw,true,pv⟩ (.slice za ps.length zc)) (by simp [results,Tryz.results107,go_sem,t0,t1,t2,t3,t4,t5,yJ]) rfl ?_
         exact CL.mkOk HB.out rfl ((((((hI5.other d1 d2 d3 d4 _).other d1 d2 d3 d4 _).other d1 d2 d3 d4 _).other d1 d2 d3 d4 _).other d1 d2 d3 d4 _).other d1 d2 d3 d4 _) (uA (uA (uA (uA (uA (uA hF5 d5 _) d5 _) d5 _) d5 _) d5 _) d5 _)
     | false =>
      cases alone with
      | true =>
       go_wp2_with first
        | (go_at_call 121;refine hPr.mono ?_;rintro e w2 ⟨hb2,z,rfl,hz⟩;obtain ⟨za,zc,rfl,hzl,hzk⟩:=id hz;unfold yJ;have hI2:=(hI.below hb2).alloc (.cells #[.string pn,.bool pb,.slice za ps.length zc,.int .i64 pw,.bool false,.int .i64 pv] 62))
        | fail
       have hb6:=Box6.new w2 (.string pn) (.bool pb) (.slice za ps.length zc) (.int .i64 pw) (.bool false) (.int .i64 pv) 62;have hBx:Below w2.heap.size w2 (w2.alloc (.cells #[.string pn,.bool pb,.slice za ps.length zc,.int .i64 pw,.bool false,.int .i64 pv] 62)):=bal _;have hyi3:=(hyi.below hb2).below hBx;have hzi3:=hz.below hBx;have hF3:Fr D w (w2.alloc (.cells #[.string pn,.bool pb,.slice za ps.length zc,.int .i64 pw,.bool false,.int .i64 pv] 62)):=(hFr.trans (Fr.below hb2)).alloc _;have hZ3:=(hZb.below hb2).alloc (.cells #[.string pn,.bool pb,.slice za ps.length zc,.int .i64 pw,.bool false,.int .i64 pv] 62);have hN1:w.heap.size+1+1<=w2.heap.size:=jp hsz hb2.size;clear hBx hb2 hz hzk hyi hFr hZb hown hPr hQ q0 q1 q2 q3 hI;generalize w2.alloc (.cells #[.string pn,.bool pb,.slice za ps.length zc,.int .i64 pw,.bool false,.int .i64 pv] 62)=W3 at *;generalize w2.heap.size=N at *;go_loopw [57] (fun t wr'=>∃ j:Nat,j<=ps.length/\t=.int .i64 j/\Hid (xW ps ls=xW (ps.drop j) (ls.drop j))/\Below W3.heap.size W3 wr') (fun t _=>ps.length - (intOf t).toNat)
       case atStart=>exact ⟨0,jz _,rfl,rfl,Below.refl _ _⟩
       case round =>
        obtain ⟨j,hj,rfl,HA,hbr⟩:=hrel;have hbr2:Hid (Below W3.heap.size W3 wr):=hbr;have hI4:=hI2.below hbr;obtain ⟨y0,y1,y2,y3,y4,y5,_,_,_,_,_,_⟩:=hb6.below hbr;by_cases hlt:j<ps.length
        ·obtain ⟨_,_,ee,_,hyk⟩:=hyi3.below hbr;injection ee with ee _ ee2;obtain rfl:=ee;obtain rfl:=ee2;obtain ⟨_,_,ee3,_,hzk⟩:=hzi3.below hbr;injection ee3 with ee3 _ ee4;obtain rfl:=ee3;obtain rfl:=ee4;have hlt2:j<ls.length:=by rw [hne];exact hlt
         obtain ⟨g1,o1,rfl,hc1⟩:=hyk (by intro e;rw [e] at hlt2;simp at hlt2);obtain ⟨g2,o2,rfl,hc2⟩:=hzk (by intro e;rw [e] at hlt;simp at hlt);have k1:=hc1 j hlt2;have k2:=hc2 j hlt;have hfl:=gT at_ ps[j] [ls[j]] (.slice (some ⟨wr.heap.size,0,none⟩) 1 1) (wr.alloc (.cells #[.int .i64 ls[j]] 3)) (zad _ _);have HS:Hid (xW ps ls=(zS ps[j] [ls[j]]&&xW (ps.drop (j+1)) (ls.drop (j+1)))):=HA.out.trans (zir hlt hlt2);clear hc1 hc2 hyk hzk HA;generalize ps[j]=pj at *;generalize ls[j]=lj at *;cases hf:zS pj [lj]
         ·have HB:Hid (Z=.bad 7 at_):=by
           show _=_;rw [HY.out];have h9:=HS.out;rw [hf,Bool.false_and] at h9;simp [hne,h9]
          have hfl2:=hfl.mono (R':=fun e w'=>e=.panicked (qS 7 at_)/\w'=wr.alloc (.cells #[.int .i64 lj] 3)) (fun e w' h=>by
           rcases h with ⟨h1,_⟩|⟨_,h2⟩
           ·rw [hf] at h1;cases h1
           ·exact h2)
          clear hfl;go_wp2_with (go_at_call 90;refine hfl2.mono ?_;rintro e w4 ⟨rfl,hw4⟩;rw [hw4]);exact ⟨rfl,CL.mkBad HB.out (hI4.alloc _).bs⟩
         ·have HA2:Hid (xW ps ls=xW (ps.drop (j+1)) (ls.drop (j+1))):=by
           show _=_;rw [HS.out,hf,Bool.true_and]
          have hfl2:=hfl.mono (R':=fun e w'=>e=.returned (.tuple #[])/\w'=wr.alloc (.cells #[.int .i64 lj] 3)) (fun e w' h=>by
           rcases h with ⟨_,h2⟩|⟨h1,_⟩
           ·exact h2
           ·rw [hf] at h1;cases h1)
          clear hfl;go_wp2_with (go_at_call 90;refine hfl2.mono ?_;rintro e w4 ⟨rfl,hw4⟩;rw [hw4]);exact ⟨⟨j+1,by omega,by simp,HA2,hbr2.out.alloc hbr2.out.size _⟩,by simp [intOf];omega⟩
        ·obtain rfl:j=ps.length:=by omega
         have HA2:Hid (xW ps ls=true):=by
          show _=_;rw [HA.out,List.drop_eq_nil_of_le (jE _),List.drop_eq_nil_of_le (by omega)];rfl
         have hfl:=gT at_ pw [ctx] (.slice (some ⟨wr.heap.size,0,none⟩) 1 1) (wr.alloc (.cells #[.int .i64 ctx] 3)) (zad _ _);cases hf:zS pw [ctx]
         ·have HB:Hid (Z=.bad 7 at_):=by
           show _=_;rw [HY.out];simp [hne,HA2.out,hf]
          have hfl2:=hfl.mono (R':=fun e w'=>e=.panicked (qS 7 at_)/\w'=wr.alloc (.cells #[.int .i64 ctx] 3)) (fun e w' h=>by
           rcases h with ⟨h1,_⟩|⟨_,h2⟩
           ·rw [hf] at h1;cases h1
           ·exact h2)
          clear hfl;go_wp2_with (go_at_call 90;refine hfl2.mono ?_;rintro e w4 ⟨rfl,hw4⟩;rw [hw4]);exact ⟨rfl,CL.mkBad HB.out (hI4.alloc _).bs⟩
         ·have HB:Hid (Z=.ok (⟨pn,pb,ps,pw,false,pv⟩,an)):=by
           show _=_;rw [HY.out];simp [hne,HA2.out,hf]
          have hfl2:=hfl.mono (R':=fun e w'=>e=.returned (.tuple #[])/\w'=wr.alloc (.cells #[.int .i64 ctx] 3)) (fun e w' h=>by
           rcases h with ⟨_,h2⟩|⟨h1,_⟩
           ·exact h2
           ·rw [hf] at h1;cases h1)
          clear hfl
          have hA:∀ w4,w4=wr.alloc (.cells #[.int .i64 ctx] 3)->CS w0 w4 D Kb kn kf vs u an/\Fr D w w4/\Box6 w4 N (.string pn) (.bool pb) (.slice za ps.length zc) (.int .i64 pw) (.bool false) (.int .i64 pv)/\Box6 w4 (w.heap.size+1) (.string ⟨#[]⟩) (.bool false) (.slice none 0 0) (.int .i64 0) (.bool false) (.int .i64 0):=fun w4 e=>by
           rw [e];exact ⟨hI4.alloc _,(hF3.trans (Fr.below hbr)).alloc _,(hb6.below hbr).alloc _,(hZ3.below hbr).alloc _⟩
          clear y0 y1 y2 y4 y5;go_wp2_with (go_at_call 90;refine hfl2.mono ?_;rintro e w4 ⟨rfl,hw4⟩;obtain ⟨hI5,hF5,⟨s0,s1,s2,s3,s4,s5,_,_,_,_,_,_⟩,⟨t0,t1,t2,t3,t4,t5,t6,t7,t8,t9,t10,t11⟩⟩:=hA w4 hw4;clear hw4 hA);have d1:w.heap.size+1≠D:=by omega
          have d2:w.heap.size+1≠Kb:=by omega
          have d3:u.ownBlock≠some (w.heap.size+1):=fun e=>by have:=hub _ e;omega
          have d4:kf.M<=w.heap.size+1:=by omega
          have d5:w.heap.size<=w.heap.size+1:=by omega
          refine jT (v:=yJ ⟨pn,pb,ps,pw,false,pv⟩ (.slice za ps.length zc)) (by simp [results,Tryz.results107,go_sem,t0,t1,t2,t3,t4,t5,yJ]) rfl ?_
          exact CL.mkOk HB.out rfl ((((((hI5.other d1 d2 d3 d4 _).other d1 d2 d3 d4 _).other d1 d2 d3 d4 _).other d1 d2 d3 d4 _).other d1 d2 d3 d4 _).other d1 d2 d3 d4 _) (uA (uA (uA (uA (uA (uA hF5 d5 _) d5 _) d5 _) d5 _) d5 _) d5 _)
      | false =>
       have HB:Hid (Z=.bad 3 at_):=by
        show _=_;rw [HY.out];simp [hne]
       go_wp2_with first
        | (go_at_call 121;refine hPr.mono ?_;rintro e w2 ⟨hb2,z,rfl,hz⟩;obtain ⟨za,zc,rfl,hzl,hzk⟩:=id hz;unfold yJ;have hI2:=(hI.below hb2).alloc (.cells #[.string pn,.bool pb,.slice za ps.length zc,.int .i64 pw,.bool false,.int .i64 pv] 62))
        | (go_at_call 67;refine (vL 3 at_ _).mono ?_;rintro e w3 ⟨rfl,hw3⟩;rw [hw3])
       exact ⟨rfl,CL.mkBad HB.out hI2.bs⟩
    ·have HB:Hid (Z=.bad 6 at_):=by
      show _=_;rw [HY.out];simp [hne]
     have hne2:¬ ((ls.length:Int)=(ps.length:Int)):=by omega
     go_wp2_with first
      | (go_at_call 121;refine hPr.mono ?_;rintro e w2 ⟨hb2,z,rfl,hz⟩;obtain ⟨za,zc,rfl,hzl,hzk⟩:=id hz;unfold yJ;have hI2:=(hI.below hb2).alloc (.cells #[.string pn,.bool pb,.slice za ps.length zc,.int .i64 pw,.bool pg,.int .i64 pv] 62))
      | (go_at_call 67;refine (vL 6 at_ _).mono ?_;rintro e w3 ⟨rfl,hw3⟩;rw [hw3])
     exact ⟨rfl,CL.mkBad HB.out hI2.bs⟩
end
structure Agr (E:Env) (L:List Loc) (ctx:Int) (kf:ByteArray->Option FV) (vs:List VarD):Prop where
 pl:∀ (k:Int) (x:ByteArray) (a a':Int) (ls:List Int),(k=16/\ls=[]\/k=17/\∃ l,ls=[l])->zG x->(match plP kf vs k x a (.ok (ls,a')) with
  | .bad c b=>Res.bad c b
  | .ok q=>.ok (jn q.1.label q.2.1,q.2.2))=match vR E L ctx false k x ls a with
  | .bad c b=>.bad c b
  | .ok l=>.ok (l,a')
 cl:∀ (alone:Bool) (x:ByteArray) (a a':Int) (ls:List Int),zG x->(match clP kf ctx alone x a (.ok (ls,a')) with
  | .bad c b=>Res.bad c b
  | .ok q=>.ok (q.1.given,q.2))=match vR E L ctx alone 18 x ls a with
  | .bad c b=>.bad c b
  | .ok l=>.ok (l,a')
theorem zls (E:Env) (L:List Loc) (ctx:Int):∀ (ks:List Tree) (a:Int) (q:List Int × Int),exL E L ctx ks a=.ok q->q.1.length=ks.length
 | [],a,q,h=>by
  simp only [exL,Res.ok.injEq] at h;rw [<- h]
  rfl
 | t :: r,a,q,h=>by
  unfold exL at h
  cases h1:exF E L ctx false t a with
  | bad c b=>rw [h1] at h;cases h
  | ok s =>
   rw [h1] at h;dsimp only at h
   cases h2:exL E L ctx r s.2 with
   | bad c b=>rw [h2] at h;cases h
   | ok s2 =>
    rw [h2] at h;simp only [Res.ok.injEq] at h;rw [<- h];simp [zls E L ctx r _ _ h2]
theorem Agr.place {E:Env} {L:List Loc} {ctx:Int} {kf:ByteArray->Option FV} {vs:List VarD} (h:Agr E L ctx kf vs) {k:Int} {x:ByteArray} {m:Int} {ks:List Tree} {a:Int} (hk:k=16\/k=17) (hex:ExT (.node k x m ks)) : exF E L ctx false (.node k x m ks) a=match plP kf vs k x a (exL E L ctx ks (a+1)) with
   | .bad c b=>Res.bad c b
   | .ok q=>.ok (jn q.1.label q.2.1,q.2.2):=by
 have hx:=hex.kids.2.1 (by rcases hk with h | h<;>simp [h])
 cases hR:exL E L ctx ks (a+1) with
 | bad c b=>rw [zfq hR];rfl
 | ok q =>
  obtain ⟨ls,a'⟩:=q;rw [zgl hR];have hl:=zls E L ctx ks _ _ hR;refine (h.pl k x a a' ls ?_ hx).symm
  cases hex with
  | num n=>omega
  | nam _=>exact .inl ⟨rfl,List.eq_nil_of_length_eq_zero hl⟩
  | item _ e=>exact .inr ⟨rfl,List.length_eq_one_iff.1 hl⟩
  | call _ _=>omega
  | op _ _=>omega
  | neg _=>omega
  | nott _=>omega
theorem Agr.call {E:Env} {L:List Loc} {ctx:Int} {kf:ByteArray->Option FV} {vs:List VarD} (h:Agr E L ctx kf vs) {alone:Bool} {x:ByteArray} {m:Int} {ks:List Tree} {a:Int} (hx:zG x) : exF E L ctx alone (.node 18 x m ks) a=match clP kf ctx alone x a (exL E L ctx ks (a+1)) with
   | .bad c b=>Res.bad c b
   | .ok q=>.ok (q.1.given,q.2):=by
 cases hR:exL E L ctx ks (a+1) with
 | bad c b=>rw [zfq hR];rfl
 | ok q =>
  obtain ⟨ls,a'⟩:=q;rw [zgl hR];exact (h.cl alone x a a' ls hx).symm
theorem zup (E:Env) (L:List Loc) (ctx:Int) (k:Int) (x:ByteArray) (ls:List Int) (a:Int) (h1:k≠16) (h2:k≠17) (h3:k≠18):vR E L ctx false k x ls a=.ok (uB ls 0):=by
 unfold vR;rw [ju h1,ju h2,ju h3]
theorem zzo (a b c d e f:Value) (w:World):(Instr.field 62 (.agg #[a,b,c,d,e,f]) 5).run Tryz.prog w=.ok f w:=by kernel_rfl
section
variable {w0:World} {D Kb kn:Nat} {kf:KF} {vs:List VarD} {u:Value}
theorem EX.mkBad {w w':World} {r:Res (Int × Int)} {c b:Int} (h:r=.bad c b) (hb:Below w0.heap.size w0 w'):EX w0 D Kb kn kf vs u w r (.panicked (qS c b)) w':=by rw [h];exact ⟨rfl,hb⟩
theorem EX.mkOk {w w':World} {r:Res (Int × Int)} {l a:Int} {e:Ending} (h:r=.ok (l,a)) (he:e=.returned (.int .i64 l)) (hc:CS w0 w' D Kb kn kf vs u a) (hf:Fr D w w'):EX w0 D Kb kn kf vs u w r e w':=by rw [h];exact ⟨he,hc,hf⟩
theorem oExpr (E:Env) (L:List Loc) (ctx:Int) (hA:Agr E L ctx kf vs) (hvs:vs.length<=1000) (t:Tree) (v:Value) (w:World) (at_:Int) (hex:ExT t) (hv:kC (·<w0.heap.size) w0 t v) (h:CS w0 w D Kb kn kf vs u at_) (h0:0<=at_) (hm:at_+kB t<=1000000) : Calls Tryz.prog 91 #[.pointer (some ⟨D,0,none⟩),v,.int .i64 ctx] w fun e w'=>EX w0 D Kb kn kf vs u w (exF E L ctx false t at_) e w':=by
 match t with
 | .node k x m ks =>
  have ih:∀ j (hj:j<ks.length) (v:Value) (w:World) (at_:Int),ExT ks[j]->kC (·<w0.heap.size) w0 ks[j] v->CS w0 w D Kb kn kf vs u at_->0<=at_->at_+kB ks[j]<=1000000 ->
    Calls Tryz.prog 91 #[.pointer (some ⟨D,0,none⟩),v,.int .i64 ctx] w fun e w'=>EX w0 D Kb kn kf vs u w (exF E L ctx false ks[j] at_) e w':=fun j hj v w at_ h1 h2 h3 h4 h5=>oExpr E L ctx hA hvs ks[j] v w at_ h1 h2 h3 h4 h5
  obtain ⟨hkids,hlong,hkind⟩:=hex.kids;have c24:=kc25;have c4:Tryz.prog.cellsOf 57=4:=cell4;have hcT:kB (.node k x m ks)=1+kA ks:=by unfold kB;omega
  rw [hcT] at hm;have hv0:=hv;unfold kC at hv;obtain ⟨a,c,rfl,hl,hk⟩:=hv;have hB0:Below w.heap.size w (w.alloc (.cells #[.int .i64 k,.string x,.int .i64 m,.slice a ks.length c] 25)):=bal _;have hI0:=h.alloc (.cells #[.int .i64 k,.string x,.int .i64 m,.slice a ks.length c] 25);have hF0:Fr D w (w.alloc (.cells #[.int .i64 k,.string x,.int .i64 m,.slice a ks.length c] 25)):=(Fr.refl _ _).alloc _;obtain ⟨Z,hZ⟩:∃ Z,exF E L ctx false (.node k x m ks) at_=Z:=⟨_,rfl⟩
  rw [hZ];have HZ:Hid (exF E L ctx false (.node k x m ks) at_=Z):=hZ;clear hZ;by_cases h1617:k=16\/k=17
  ·have hx:=hlong (by rcases h1617 with h | h<;>simp [h]);have hP:=oPlace E L hvs k x m ks _ _ ctx at_ hkids hx hv0 hI0 h0 (by omega) ih
   have HZ2:Hid (Z=match plP kf vs k x at_ (exL E L ctx ks (at_+1)) with
     | .bad c b=>Res.bad c b
     | .ok q=>.ok (jn q.1.label q.2.1,q.2.2)):=by
    show _=_;rw [<- HZ.out];exact hA.place h1617 hex
   clear HZ ih hk hv0 hex;generalize plP kf vs k x at_ (exL E L ctx ks (at_+1))=Y at *
   cases Y with
   | bad cc bb =>
    have HB:Hid (Z=.bad cc bb):=HZ2.out;rcases h1617 with rfl | rfl
    ·go_enter Tryz.func91,Tryz.ntmps91;go_wp2_with (go_at_call 106;refine hP.mono ?_;rintro e w2 ⟨rfl,hb2⟩);exact ⟨rfl,EX.mkBad HB.out hb2⟩
    ·go_enter Tryz.func91,Tryz.ntmps91;go_wp2_with (go_at_call 106;refine hP.mono ?_;rintro e w2 ⟨rfl,hb2⟩)
     exact ⟨rfl,EX.mkBad HB.out hb2⟩
   | ok q =>
    obtain ⟨vv,ix,a2⟩:=q;have HB:Hid (Z=.ok (jn vv.label ix,a2)):=HZ2.out;rcases h1617 with rfl | rfl
    ·go_enter Tryz.func91,Tryz.ntmps91
     go_wp2_with first
      | (go_at_call 106;refine hP.mono ?_;rintro e w2 ⟨rfl,hI2,hf2⟩;unfold qN)
      | (go_at_call 109;refine (za0 _ _ _).mono ?_;rintro e w6 ⟨rfl,hw6⟩;rw [hw6])
     go_ret;exact EX.mkOk HB.out rfl (hI2.alloc _) ((hF0.trans hf2).alloc _)
    ·go_enter Tryz.func91,Tryz.ntmps91
     go_wp2_with first
      | (go_at_call 106;refine hP.mono ?_;rintro e w2 ⟨rfl,hI2,hf2⟩;unfold qN)
      | (go_at_call 109;refine (za0 _ _ _).mono ?_;rintro e w6 ⟨rfl,hw6⟩;rw [hw6])
     go_ret;exact EX.mkOk HB.out rfl (hI2.alloc _) ((hF0.trans hf2).alloc _)
  ·have hn16:k≠16:=fun e=>h1617 (.inl e)
   have hn17:k≠17:=fun e=>h1617 (.inr e)
   by_cases h18:k=18
   ·subst h18;have hx:=hlong (by simp);have hP:=zn4 E L 18 x m ks _ _ ctx at_ false hkids hx hv0 hI0 h0 (by omega) ih
    have HZ2:Hid (Z=match clP kf ctx false x at_ (exL E L ctx ks (at_+1)) with
      | .bad c b=>Res.bad c b
      | .ok q=>.ok (q.1.given,q.2)):=by
     show _=_;rw [<- HZ.out];exact hA.call hx
    clear HZ ih hk hv0 hex;generalize clP kf ctx false x at_ (exL E L ctx ks (at_+1))=Y at *
    cases Y with
    | bad cc bb =>
     have HB:Hid (Z=.bad cc bb):=HZ2.out;go_enter Tryz.func91,Tryz.ntmps91;go_wp2_with (go_at_call 107;refine hP.mono ?_;rintro e w2 ⟨rfl,hb2⟩)
     exact ⟨rfl,EX.mkBad HB.out hb2⟩
    | ok q =>
     obtain ⟨p,a2⟩:=q;have HB:Hid (Z=.ok (p.given,a2)):=HZ2.out;go_enter Tryz.func91,Tryz.ntmps91;go_wp2_with (go_at_call 107;refine hP.mono ?_;rintro e w2 ⟨⟨z,rfl⟩,hI2,hf2⟩;unfold yJ;have hf6:=zzo (.string p.name) (.bool p.pub) z (.int .i64 p.writes) (.bool p.gives) (.int .i64 p.given) w2);go_ret;exact EX.mkOk HB.out rfl hI2 (hF0.trans hf2)
   ·have hcp:=kX ks;have hBg:=hI0.begin h0 (by omega);have hd:=h.lt;have hlen:=len_cnt ks;obtain ⟨R,hR⟩:∃ R,exL E L ctx ks (at_+1)=R:=⟨_,rfl⟩
    have HR:Hid (exL E L ctx ks (at_+1)=R):=hR;clear hR;go_enter Tryz.func91,Tryz.ntmps91;go_wp2_with (go_at_call 39;refine hBg.mono ?_;rintro e w1 ⟨rfl,hw1⟩;have hI1:CS w0 w1 D Kb kn kf vs u (at_+1):=by { rw [hw1];exact hI0.setAt _ };have hQ1:Q4 w.heap.size (.int .i64 k) (.string x) (.int .i64 m) (.slice a ks.length c) w1:=by { rw [hw1];exact Q4.other (by omega) ⟨by simp,by simp,by simp,by simp⟩ _ _ };have hF1:Fr D w w1:=by { rw [hw1];exact ((Fr.refl _ _).alloc _).set _ _ };clear hw1;obtain ⟨q0,q1,q2,q3⟩:=id hQ1);clear hI0 hBg q0 q1 q2 q3 h hB0 hF0;go_loopw [9,40] (fun lb t wr=>∃ (j:Nat) (ls:List Int),j<=ks.length/\t=.int .i64 j/\lb=.int .i64 (uB ls 0)/\Fr D w wr/\w.heap.size+1<=wr.heap.size/\Q4 w.heap.size (.int .i64 k) (.string x) (.int .i64 m) (.slice a ks.length c) wr/\CS w0 wr D Kb kn kf vs u (at_+1+kA (ks.take j))/\Hid (R=uL ls (exL E L ctx (ks.drop j) (at_+1+kA (ks.take j))))) (fun _ t _=>ks.length - (intOf t).toNat)
    case atStart =>
     have hz:=jR w1 ⟨w.heap.size,0,none⟩ hQ1.1;refine ⟨0,[],jz _,rfl,rfl,hF1,hz,hQ1,by simpa [kA] using hI1,?_⟩;show _=_;rw [<- HR.out,List.drop_zero];simp only [List.take_zero,kA,Int.add_zero]
     cases exL E L ctx ks (at_+1) with
     | bad c b=>rfl
     | ok q=>rfl
    case round =>
     clear hI1 hQ1 hF1;obtain ⟨j,ls,hj,rfl,rfl,hFr,hsz,hQ,hI,HRR⟩:=hrel;obtain ⟨q0,q1,q2,q3⟩:=id hQ;by_cases hlt:j<ks.length
     ·obtain ⟨g,o,rfl,hg,hat⟩:=hk (by intro e;rw [e] at hlt;simp at hlt);obtain ⟨v1,⟨x0,x1,x2,x3,rfl,c0,c1',c2,c3⟩,hlk⟩:=hat.get j hlt;obtain ⟨kk,xx,mm,_,he,aa,na,ca,rfl⟩:=hlk.shape;injection he with he;simp only [Array.mk.injEq,jq,and_true] at he;obtain ⟨rfl,rfl,rfl,rfl⟩:=he;have k0:=(hI.bs.cell (p:=⟨g,o+j*4,none⟩) hg).trans c0;have k1:=(hI.bs.cell (p:=⟨g,o+j*4+1,none⟩) hg).trans c1';have k2:=(hI.bs.cell (p:=⟨g,o+j*4+2,none⟩) hg).trans c2;have k3:=(hI.bs.cell (p:=⟨g,o+j*4+3,none⟩) hg).trans c3;have hs1:=cntL_take ks j hlt;have hs2:=fA ks (j+1);have hs3:=kR ks[j];have hs4:=kX (ks.take j);have hI1:=hI.alloc (.cells #[.int .i64 kk,.string xx,.int .i64 mm,.slice aa na ca] 25);have hFr1:=hFr.alloc (.cells #[.int .i64 kk,.string xx,.int .i64 mm,.slice aa na ca] 25);have hQ1:=Q4.alloc hQ (.cells #[.int .i64 kk,.string xx,.int .i64 mm,.slice aa na ca] 25);have hC:=ih j hlt _ _ _ (hkids _ (jH hlt)) hlk hI1 (by omega) (by omega)
      have HP:Hid (R=match exF E L ctx false ks[j] (at_+1+kA (ks.take j)) with
        | .bad c b=>.bad c b
        | .ok q=>uL (ls++[q.1]) (exL E L ctx (ks.drop (j+1)) q.2)):=HRR.out.trans (zey E L ctx ks j hlt ls _)
      have HA:Hid (∀ q,exF E L ctx false ks[j] (at_+1+kA (ks.take j))=.ok q->q.2=at_+1+kA (ks.take (j+1))):=fun q hq=>by
       have:=dW E L ctx _ _ _ _ hq;omega
      clear c0 c1' c2 c3 hat hlk hk HRR hs1 hs2 hs3 hs4 ih;generalize hXX:exF E L ctx false ks[j] (at_+1+kA (ks.take j))=X at *;have HA2:Hid (∀ q,X=.ok q->q.2=at_+1+kA (ks.take (j+1))):=fun q hq=>HA.out q hq
      clear hXX HA
      cases X with
      | bad cc bb =>
       have HRB:Hid (Z=.bad cc bb):=by
        show _=_;rw [<- HZ.out];exact zfq (HR.out.trans HP.out)
       go_wp2_with (go_at_call 91;refine hC.mono ?_;rintro e w2 ⟨rfl,hb2⟩)
       exact ⟨rfl,EX.mkBad HRB.out hb2⟩
      | ok q =>
       have HRO:Hid (R=uL (ls++[q.1]) (exL E L ctx (ks.drop (j+1)) q.2)):=HP.out;have HA3:=HA2.out q rfl;obtain ⟨l1,a1⟩:=q;dsimp only at HA3 hC;subst HA3
       go_wp2_with first
        | (go_at_call 91;refine hC.mono ?_;rintro e w2 ⟨rfl,hI2,hf2⟩)
        | (go_at_call 109;refine (za0 _ _ _).mono ?_;rintro e w6 ⟨rfl,hw6⟩;rw [hw6])
       have hs9:=hf2.size;rw [jO] at hs9;exact ⟨⟨j+1,ls++[l1],by omega,by simp,by rw [zik],hFr1.trans hf2,by omega,Q4.grown hQ1 hf2 (by simp;omega),hI2,HRO.out⟩,by simp [intOf];omega⟩
     ·obtain rfl:j=ks.length:=by omega
      have HX:Hid (Z=.ok (uB ls 0,at_+1+kA ks)):=by
       show _=_
       have h9:exL E L ctx ks (at_+1)=.ok (ls,at_+1+kA ks):=by
        rw [HR.out,HRR.out,List.drop_eq_nil_of_le (by omega),jG (by omega)];simp [exL,uL]
       rw [<- HZ.out,zgl h9,zup E L ctx k x ls at_ hn16 hn17 h18]
      rw [jG (by omega)] at hI;clear ih hk HRR HZ;go_wp2;go_ret;exact EX.mkOk HX.out rfl hI hFr
termination_by SizeOf.sizeOf t
decreasing_by exact zdt hj
end
theorem zuk {W:World} {v:VarD} {a0 a1:Value} (tl:List Value) (B:Nat) (h:qC W B v):(results Tryz.f68 (List.toArray (a0 :: a1 :: .pointer (some ⟨B,0,none⟩) :: tl))).run Tryz.prog W=.ok (qN v) W:=by
 obtain ⟨z0,z1,z2,z3,zf⟩:=h.cells;unfold qN;simp [results,Tryz.f68,go_sem,z0,z1,z2,z3]
theorem ze5 (k:Int) (x:ByteArray) (m:Int) (a:Option Addr) (n c:Nat) (w:World) : Calls Tryz.prog 68 #[.agg #[.int .i64 k,.string x,.int .i64 m,.slice a n c]] w fun e w'=>e=.returned (qN ⟨x,false,bits BinOp.and IntKind.i64 m 1,0⟩)/\Below w.heap.size w w':=by
 have c24:=kc25;have c4:Tryz.prog.cellsOf 57=4:=cell4;have hL:=fun W=>cQ k x m a n c W
 generalize bits BinOp.and IntKind.i64 m 1=lb at *;go_enter Tryz.func68,Tryz.ntmps68;have hq:Q4 w.heap.size (.int .i64 k) (.string x) (.int .i64 m) (.slice a n c) ((w.alloc (.cells #[.int .i64 k,.string x,.int .i64 m,.slice a n c] 25)).alloc (.cells #[.string ⟨#[]⟩,.bool false,.int .i64 0,.int .i64 0] 57)):=⟨by simp,by simp,by simp,by simp⟩
 have hZ:qC ((w.alloc (.cells #[.int .i64 k,.string x,.int .i64 m,.slice a n c] 25)).alloc (.cells #[.string ⟨#[]⟩,.bool false,.int .i64 0,.int .i64 0] 57)) (w.heap.size+1) xV:=by
  have:=qC.new (w.alloc (.cells #[.int .i64 k,.string x,.int .i64 m,.slice a n c] 25)) xV;rw [jO] at this;exact this
 have hB:Below w.heap.size w ((w.alloc (.cells #[.int .i64 k,.string x,.int .i64 m,.slice a n c] 25)).alloc (.cells #[.string ⟨#[]⟩,.bool false,.int .i64 0,.int .i64 0] 57)):=((Below.refl _ w).alloc (jE _) _).alloc (by simp) _;go_wp2;generalize ((w.alloc (.cells #[.int .i64 k,.string x,.int .i64 m,.slice a n c] 25)).alloc (.cells #[.string ⟨#[]⟩,.bool false,.int .i64 0,.int .i64 0] 57))=W at *;obtain ⟨q0,q1,q2,q3⟩:=id hq;obtain ⟨z0,z1,z2,z3,zf⟩:=hZ.cells
 go_region_with (go_at_call 88;refine (hL _).mono ?_;rintro e w2 ⟨rfl,hb2⟩;have hbd:Below W.heap.size W w2:=Below.trans (Below.drew (Below.refl _ _)) hb2;obtain ⟨q0,q1,q2,q3⟩:=id (Q4.below hq hbd);obtain ⟨z0,z1,z2,z3,zf⟩:=(hZ.below hbd hZ.lt).cells;have zf0:=zf 0;have zf1:=zf 1;have zf2:=zf 2;have zf3:=zf 3)
 all_goals
  have hP:=(hZ.below hbd hZ.lt).put ⟨x,false,lb,0⟩;have hB2:=zee (M:=w.heap.size+1) (hB.trans (hbd.mono hB.size)) (by omega) (.string x) (.bool false) (.int .i64 lb) (.int .i64 0);go_wp2;refine jT (v:=qN ⟨x,false,lb,0⟩) (zuk _ _ hP) rfl ?_;exact ⟨rfl,hB2⟩
end Go.Proofs.YtaadmdlbkhcfnaaGreatDoor.chk
