/- Proved: for every text and every faces that Check tells no fault of, and every number: with one of the outputs that are low raised, the module is printed, unless its text were too long, and what is printed is checked (law CheckRaised), and all arguments read afterwards as they did. Nothing else is asked but what the card says: that the listed variables hold what the program's own text lays there. -/
import Derived.Test.YtaadmdlbkhcfnaaGreatDoorCards
import Derived.Test.YtaadmdlbkhcfnaaGreatDoorTie
import Derived.Stop.LaidErr
import Derived.Lay
import Derived.Test.YtaadmdlbkhcfnaaGreatDoorNC17
import Derived.Deep.Frames
import Derived.Deep.DeepHandedRow
set_option maxHeartbeats 4000000
set_option linter.unusedSimpArgs false
set_option maxRecDepth 100000
set_option linter.unusedVariables false
namespace Go.Proofs.YtaadmdlbkhcfnaaGreatDoor
namespace syn
open Go.RowKit
open lexs (qP)
theorem gER:Tryz.prog.globalNamed "strconv.ErrRange"=some (Tryz.laysPI_ren.g 16):=by kernel_rfl
theorem zwj:(Tryz.prog.globals[Tryz.laysPI_ren.g 16]?).map (·.type)=some 83:=by kernel_rfl
theorem zwi:Tryz.prog.cellsOf 199=1:=by kernel_rfl
theorem zll:Tryz.prog.cellsOf 9=1:=by kernel_rfl
theorem zj8:Tryz.prog.cellsOf 3=1:=by kernel_rfl
theorem zlq:Tryz.prog.cellsOf 207=2:=by kernel_rfl
theorem zte:Tryz.prog.cellsOf 208=20:=by kernel_rfl
theorem zmx : "*" ++ "errors.errorString" = "*errors.errorString":=by decide
theorem yap (u:TypeId) (h:Tryz.prog.typeName? 3 u=some "*errors.errorString"):u=197 :=
 typeName_ptr_named (nm := "errors.errorString") (by rw [zmx];kernel_rfl) (by kernel_rfl) (by decide) u (by rw [zmx];exact h)
theorem zt8:(Tryz.prog.globals[5]?).map (·.type)=some 208:=by kernel_rfl
theorem zq2 {s:ByteArray} {l:List UInt8} (h:s.data.toList=l):s=⟨l.toArray⟩:=by rw [<- h,Lib.mk_data]
theorem gZ {H:Type} {enc:TypeId × Value->H} {w:World} {base:Nat} {sp:Nat->Bool} {held:Bool} {fuel:Nat} {l:List Value} {y:DataW H × List MemPlace} (h:DataW.trod enc Tryz.prog w base sp held fuel 207 l=some y):∃ (s:ByteArray) (n:Int),l=[.string s,.int .i64 n]/\y.1=.agg [.lit (.string s.data.toList),.lit (.int .i64 n)]:=by
 cases fuel with
 | zero=>simp [DataW.trod] at h
 | succ fuel =>
  simp only [DataW.trod,Tryz.underlying207,zlq] at h;split at h
  ·rename_i hl
   obtain ⟨c0,c1,rfl⟩:∃ c0 c1,l=[c0,c1]:=by
    match l,hl with
    | [a,b],_=>exact ⟨a,b,rfl⟩
   simp only [Option.map_eq_some_iff,List.mapM_cons,List.mapM_nil,Option.bind_eq_bind,jg,Option.pure_def,jh,zll,zj8] at h;obtain ⟨xs,⟨y0,h0,_,⟨y1,h1,_,rfl,rfl⟩,rfl⟩,hx⟩:=h;obtain ⟨s,hs,rfl,_⟩:=DataW.trod_string Tryz.underlying9 h0;obtain ⟨n,hn,rfl,_⟩:=DataW.trod_int Tryz.underlying3 h1;simp at hs hn;subst hs hn;refine ⟨s,n,rfl,?_⟩;rw [<- hx];rfl
  ·cases h
theorem zzr {l:List Value} {i:Nat} {a b:Value} (h:(l.drop i).take 2=[a,b]):l[i]?=some a/\l[i+1]?=some b:=by
 have h0:((l.drop i).take 2)[0]?=some a:=by rw [h];rfl
 have h1:((l.drop i).take 2)[1]?=some b:=by rw [h];rfl
 rw [List.getElem?_take_of_lt (by omega),List.getElem?_drop] at h0 h1;exact ⟨h0,h1⟩
theorem fI {l:List Value} {k:Nat} {s:ByteArray} {n:Int} {bs:List UInt8} (h:(l.drop (k*2)).take 2=[.string s,.int .i64 n]) (hs:s.data.toList=bs) (h1:opAt k=⟨bs.toArray⟩) (h2:kZ k=n) : (⟨l⟩:Array Value)[k*2]?=some (.string (opAt k))/\(⟨l⟩:Array Value)[k*2+1]?=some (.int .i64 (kZ k)):=by
 obtain ⟨b0,b1⟩:=zzr h;rw [h1,h2,<- zq2 hs];exact ⟨by simpa using b0,by simpa using b1⟩
abbrev laidL:List (String × DataW Unit):=Rows.checkRaisedRow.laid
def zl7:String:=(laidL.getD 5 ("",.nil)).1
theorem zon:Tryz.prog.globalNamed zl7=some 5:=by kernel_rfl
theorem zov {W:World} (h0:laidMet Tryz.prog laidL W):qP W:=by
 have h1:=(h0.tail).tail.tail;obtain ⟨a0,s0,hv0,_⟩:=laid_sentinel h1 gER zwj Tryz.underlying83 yap Tryz.underlying197 Tryz.underlying199 rfl rfl Tryz.underlying9 zwi zll;exact ⟨_,by have h2:=World.var?_cell gER hv0 0;simpa using h2,.inr ⟨_,_,rfl⟩⟩
theorem zoz {W:World} (h0:laidMet Tryz.prog laidL W):gR W:=by
 obtain ⟨ps,⟨g,t,cs,fuel,p,q,hg,ht,hvar,hd,_,_⟩,_⟩:=h0.tail.tail.tail.tail.tail;obtain rfl:=jw (zon.symm.trans hg);obtain rfl:=jw (zt8.symm.trans ht);obtain ⟨l⟩:=cs
 have hheap:∃ t fr,W.heap[5]?=some (.cells ⟨l⟩ t fr):=by
  replace hvar:W.var? Tryz.prog zl7=some ⟨l⟩:=hvar;simp only [World.var?,zon,jf] at hvar;split at hvar;·rename_i c t fr hh;simp only [jh] at hvar;exact ⟨t,fr,by rw [hh,hvar]⟩
  ·cases hvar
 obtain ⟨t',fr,hheap⟩:=hheap
 cases fuel with
 | zero=>simp [DataW.trod] at hd
 | succ fuel =>
  simp only [DataW.trod,Tryz.underlying208,zte,zlq] at hd;split at hd
  ·rename_i hl;have e:List.range 10=[0,1,2,3,4,5,6,7,8,9]:=rfl;rw [e] at hd;simp only [Option.map_eq_some_iff,List.mapM_cons,List.mapM_nil,Option.bind_eq_bind,jg,Option.pure_def,jh] at hd;obtain ⟨xs,⟨y0,h0,_,⟨y1,h1,_,⟨y2,h2,_,⟨y3,h3,_,⟨y4,h4,_,⟨y5,h5,_,⟨y6,h6,_,⟨y7,h7,_,⟨y8,h8,_,⟨y9,h9,_,rfl,rfl⟩,rfl⟩,rfl⟩,rfl⟩,rfl⟩,rfl⟩,rfl⟩,rfl⟩,rfl⟩,rfl⟩,hx⟩:=hd;obtain ⟨s0,n0,e0,f0⟩:=gZ h0;obtain ⟨s1,n1,e1,f1⟩:=gZ h1;obtain ⟨s2,n2,e2,f2⟩:=gZ h2;obtain ⟨s3,n3,e3,f3⟩:=gZ h3;obtain ⟨s4,n4,e4,f4⟩:=gZ h4;obtain ⟨s5,n5,e5,f5⟩:=gZ h5;obtain ⟨s6,n6,e6,f6⟩:=gZ h6;obtain ⟨s7,n7,e7,f7⟩:=gZ h7;obtain ⟨s8,n8,e8,f8⟩:=gZ h8;obtain ⟨s9,n9,e9,f9⟩:=gZ h9;simp only [List.map_cons,List.map_nil,f0,f1,f2,f3,f4,f5,f6,f7,f8,f9] at hx;simp [Rows.laid_dryshod_syntax_operators] at hx;obtain ⟨⟨⟨a0,rfl⟩,⟨a1,rfl⟩,⟨a2,rfl⟩,⟨a3,rfl⟩,⟨a4,rfl⟩,⟨a5,rfl⟩,⟨a6,rfl⟩,⟨a7,rfl⟩,⟨a8,rfl⟩,a9,rfl⟩,_⟩:=hx;refine ⟨⟨l⟩,t',fr,hheap,by simpa using hl,fun k hk=>?_⟩;rcases ten hk with rfl | rfl | rfl | rfl | rfl | rfl | rfl | rfl | rfl | rfl
   ·exact fI e0 (by rw [a0]) rfl rfl
   ·exact fI e1 a1 rfl rfl
   ·exact fI e2 a2 rfl rfl
   ·exact fI e3 a3 rfl rfl
   ·exact fI e4 a4 rfl rfl
   ·exact fI e5 a5 rfl rfl
   ·exact fI e6 a6 rfl rfl
   ·exact fI e7 a7 rfl rfl
   ·exact fI e8 a8 rfl rfl
   ·exact fI e9 a9 rfl rfl
  ·cases hd
end syn
namespace chk
open Go.RowKit
open syn face
theorem hasMax_of_shaped {W:World} (h:W.ShapedOpen Tryz.prog):vO W:=by
 obtain ⟨cs,hh,hs,hr⟩:=h.1 1 #[.int .i64 0] 3 (of_decide_eq_true (by kernel_rfl)) (by kernel_rfl);obtain ⟨ts,hts,_,hall⟩:=hr (by kernel_rfl);have hc:Tryz.prog.cellTypes Tryz.prog.depth 3=some [3]:=by kernel_rfl
 rw [hc] at hts;cases hts;have h1:0<cs.size:=by rw [hs];decide
 obtain ⟨u,hu',hok⟩:=hall 0 cs[0] (by simp [h1]);have:u=3:=by simpa using hu'.symm
 subst this;have hcell:W.cell? ⟨1,0,none⟩=some cs[0]:=by simp [World.cell?,hh,h1]
 have e:Tryz.laysCut_ren.g 1=1:=by kernel_rfl
 unfold vO;rw [e,hcell];unfold Cell.ok at hok;rw [Tryz.underlying3] at hok;cases hv:cs[0]<;>rw [hv] at hok<;>simp at hok;exact ⟨_,by rw [hok.1]⟩
end chk
namespace pr
open Go.RowKit
open syn
open lexs (qP)
theorem zpd {H:Type} {enc:TypeId × Value->H} {P:Program} {w:World} {base:Nat} {spare:Nat->Bool} {held:Bool} {t:TypeId} {f0 f1 f2 f3 f4:Field} {fuel:Nat} {cs:List Value} {x:DataW H × List MemPlace} (ht:P.underlying t=some (.struct #[f0,f1,f2,f3,f4])) (h:DataW.trod enc P w base spare held fuel t cs=some x) : ∃ y0 y1 y2 y3 y4 n,x.1=.agg [y0.1,y1.1,y2.1,y3.1,y4.1]/\DataW.trod enc P w base spare held n f0.type ((cs.drop f0.offset).take (P.cellsOf f0.type))=some y0 /\ DataW.trod enc P w base spare held n f1.type ((cs.drop f1.offset).take (P.cellsOf f1.type))=some y1/\DataW.trod enc P w base spare held n f2.type ((cs.drop f2.offset).take (P.cellsOf f2.type))=some y2 /\ DataW.trod enc P w base spare held n f3.type ((cs.drop f3.offset).take (P.cellsOf f3.type))=some y3/\DataW.trod enc P w base spare held n f4.type ((cs.drop f4.offset).take (P.cellsOf f4.type))=some y4:=by
 obtain ⟨xs,n,_,rfl,hl,hlen,hf⟩:=DataW.trod_struct ht h
 match xs,hlen with
 | [y0,y1,y2,y3,y4],_=>exact ⟨y0,y1,y2,y3,y4,n,by simp,by simpa using hf 0 f0 rfl,by simpa using hf 1 f1 rfl,by simpa using hf 2 f2 rfl,by simpa using hf 3 f3 rfl,by simpa using hf 4 f4 rfl⟩
def zns:String:=(laidL.getD 6 ("",.nil)).1
theorem gSh:Tryz.prog.globalNamed zns=some 0:=by kernel_rfl
theorem zxf:(Tryz.prog.globals[0]?).map (·.type)=some 133:=by kernel_rfl
theorem zvx:Tryz.prog.cellsOf 132=5:=by kernel_rfl
theorem zt4:Tryz.prog.cellsOf 133=110:=by kernel_rfl
theorem zvc:Tryz.prog.cellsOf 2=1:=by kernel_rfl
theorem zb7 {l:List Value} {i j:Nat} {a:Value} (h:List.take 1 (List.drop j (List.take 5 (List.drop (i*5) l)))=[a]) (hj:j<5):l[i*5+j]?=some a:=by
 have h0:(List.take 1 (List.drop j (List.take 5 (List.drop (i*5) l))))[0]?=some a:=by rw [h];rfl
 rw [List.getElem?_take_of_lt (by omega),List.getElem?_drop,List.getElem?_take_of_lt (by omega),List.getElem?_drop,Nat.add_zero] at h0;exact h0
theorem zr0 {k:Nat} (h1:1<=k) (h2:k<=21):k=1\/k=2\/k=3\/k=4\/k=5\/k=6\/k=7\/k=8\/k=9\/k=10\/k=11\/k=12\/k=13\/k=14\/k=15\/k=16\/k=17\/k=18\/k=19\/k=20\/k=21:=by omega
theorem zot {W:World} (h0:laidMet Tryz.prog laidL W):zbk W:=by
 obtain ⟨ps,⟨g,t,cs,fuel,p,q,hg,ht,hvar,hd,_,_⟩,_⟩:=h0.tail.tail.tail.tail.tail.tail;obtain rfl:=jw (gSh.symm.trans hg);obtain rfl:=jw (zxf.symm.trans ht);obtain ⟨l⟩:=cs;replace hvar:W.var? Tryz.prog zns=some ⟨l⟩:=hvar
 have hcell:∀ i u,l[i]?=some u->W.cell? ⟨0,i,none⟩=some u:=fun i u hu=>by
  have:=World.var?_cell gSh hvar i;rw [this];simpa using hu
 cases fuel with
 | zero=>simp [DataW.trod] at hd
 | succ fuel =>
  simp only [DataW.trod,Tryz.underlying133,zt4,zvx] at hd;split at hd
  ·rename_i hl;obtain ⟨xs,hm,hx⟩:=Option.map_eq_some_iff.1 hd;have hxs:=congrArg Prod.fst hx;simp only [Rows.laid_dryshod_syntax_shapes] at hxs;injection hxs with hxs;intro k hk1 hk2;obtain ⟨b,hb,hf⟩:=Lib.mapM_at hm k k (List.getElem?_range (by omega));have hbk:(xs.map (·.1))[k]?=some b.1:=by simp [hb]
   rw [hxs] at hbk;obtain ⟨y0,y1,y2,y3,y4,n,e,t0,t1,t2,t3,t4⟩:=zpd Tryz.underlying132 hf;simp only [zj8,zvc] at t0 t1 t2 t3 t4;obtain ⟨j0,e0,rfl,_⟩:=DataW.trod_int Tryz.underlying3 t0;obtain ⟨j1,e1,rfl,_⟩:=DataW.trod_int Tryz.underlying2 t1;obtain ⟨j2,e2,rfl,_⟩:=DataW.trod_int Tryz.underlying2 t2;obtain ⟨j3,e3,rfl,_⟩:=DataW.trod_int Tryz.underlying3 t3;obtain ⟨j4,e4,rfl,_⟩:=DataW.trod_int Tryz.underlying3 t4;rw [e] at hbk;have z0:=hcell _ _ (zb7 e0 (by omega));have z1:=hcell _ _ (zb7 e1 (by omega));have z2:=hcell _ _ (zb7 e2 (by omega));have z3:=hcell _ _ (zb7 e3 (by omega));have z4:=hcell _ _ (zb7 e4 (by omega));clear e0 e1 e2 e3 e4 hm hxs hx hd hcell hf hb t0 t1 t2 t3 t4
   have key:j0=(qT k).1/\j1=(qT k).2.1/\j2=(qT k).2.2.1/\j3=(qT k).2.2.2.1/\j4=(qT k).2.2.2.2:=by
    rcases zr0 hk1 hk2 with rfl | rfl | rfl | rfl | rfl | rfl | rfl | rfl | rfl | rfl | rfl | rfl | rfl | rfl | rfl | rfl | rfl | rfl | rfl | rfl | rfl <;>
    ·simp at hbk;obtain ⟨rfl,rfl,rfl,rfl,rfl⟩:=hbk
     decide
   obtain ⟨rfl,rfl,rfl,rfl,rfl⟩:=key;exact ⟨z0,z1,z2,z3,z4⟩
  ·cases hd
theorem zua:(Tryz.prog.globals[4]?).map (·.type)=some 193:=by kernel_rfl
theorem zo0 {W:World} (h0:laidMet Tryz.prog laidL W):Lib.TabIs Tryz.prog W "internal/strconv.uint64pow10" .u64 Lib.pow10Tab :=
 Lib.tabIs_of_head zg9 zua Tryz.underlying193 Tryz.underlying164 (by kernel_rfl) (by kernel_rfl) h0.tail.tail
theorem ph_of_laid {W:World} (h:laidMetH Tryz.prog laidL W) (hS:W.ShapedOpen Tryz.prog):PH W:=by
 have h0:laidMet Tryz.prog laidL W:=by rw [<- MakeChecks.laidMetH_plain _ _ _ (by kernel_rfl)];exact h
 exact ⟨zot h0,zoz h0,zov h0,chk.hasMax_of_shaped hS,zo0 h0⟩
end pr
namespace checkRaised
open Go.ChangeShapes Go.WideShapes Go.ChangeAt Go.RowKit
open Go.ChangeMaps (open_string shut_string)
theorem own:ownKnob Tryz.prog.godebug=none:=by kernel_rfl
theorem zlu:laidOutB Tryz.prog=true:=by kernel_rfl
theorem zog {H:Type} {enc:TypeId × Value->H} {W W':World} {t:TypeId} {v:Value} {d:DataW H} {p:List MemPlace} (rec:Tryz.prog.readableRec t=true) (row:t<Tryz.prog.types.size) (hb:Below W.heap.size W W') (h:DataW.Trod enc Tryz.prog W 0 (fun _=>true) true t v d p) (hlt:∀ q∈p,q.block<W.heap.size) : DataW.Trod enc Tryz.prog W' 0 (fun b=>decide (b<W.heap.size)) true t v d p:=by
 obtain ⟨n,h⟩:=h;have hk:W.keptBut W' (fun _=>False):=hb.frame _
 exact ⟨n,DataW.trod_stays (kids_book zlu rec) (book_sized rec) (fun h=>by cases h) ⟨row,book_self _⟩ h
  (fun p hp=>hk.sameAt (hlt p hp) (fun h=>h) (fun b e=>by
   have:=DataW.trod_good (kids_book zlu rec) (fun h=>by cases h) n _ _ _ ⟨row,book_self _⟩ h p hp;subst e
   exact this))
  (fun p hp=>by simpa using hlt p hp)⟩
theorem zts (H:Type) (enc:TypeId × Value->H) (W:World) (base:Nat) (args:Array Value) (ds gs:List (DataW H)) (before:List MemPlace) (hval:∀ (j:Nat) t v,Tryz.f3.params[j]?=some t->args[j]?=some v->Value.okWide Tryz.prog W .any base t v) (hW:DataW.Whole enc Tryz.prog Tryz.f3.params.toList Rows.checkRaisedSpec.vars false W args.toList ds gs before) (hwt:(DataW.weightsEach Tryz.prog (Tryz.f3.params.toList++(OpenSpec.ofChange Rows.checkRaisedSpec).bare.plain.varTypes Tryz.prog) (ds++gs)).all (·<=reachBytes)=true) (hL:laidMetH Tryz.prog Rows.checkRaisedRow.laid W) (hSh:W.ShapedOpen Tryz.prog) : Calls Tryz.prog 3 args W fun e W'=>∃ v,e=.returned v/\Rows.checkRaisedSpec.post enc Tryz.prog Tryz.f3 false true false false W args v W':=by
 have hW':=hW;have hbl:=hW.lt;obtain ⟨p,q,hA0,hV,rfl,hfz,hnd⟩:=hW;have hA:DataW.TrodAll enc Tryz.prog W 0 (fun _=>true) true Tryz.f3.params.toList args.toList ds p:=hA0;rw [Tryz.params3] at hA hval hwt;obtain ⟨v0,vs0,d0,ds0,p0,q0,hargs,rfl,rfl,h0,r0⟩:=trodAll_cons hA;obtain ⟨v1,vs1,d1,ds1,p1,q1,rfl,rfl,rfl,h1,r1⟩:=trodAll_cons r0;obtain ⟨v2,vs2,d2,ds2,p2,q2,rfl,rfl,rfl,h2,r2⟩:=trodAll_cons r1;obtain ⟨rfl,rfl,rfl⟩:=trodAll_nil r2;obtain rfl:args=#[v0,v1,v2]:=by cases args;simp_all
 obtain ⟨rfl,rfl⟩:=trodVars_none hV
 have w1:∀ k∈d1.weights Tryz.prog 22,k<=reachBytes:=fun k hk=>by
  have:=List.all_eq_true.1 hwt k (DataW.weights_mem_each (j:=1) (t:=22) (d:=d1) rfl rfl k hk);simpa using this
 obtain ⟨a0,rfl,rfl,rfl,w0⟩:=open_string Tryz.underlying9 (hval 0 9 v0 rfl rfl) h0;have h1':=h1;obtain ⟨n1,h1n⟩:=h1';obtain ⟨sa,sl,sc,rfl⟩:=okWide_slice Tryz.underlying22 (hval 1 22 v1 rfl rfl);obtain ⟨qs,hq,hql⟩:=chk.open_faces (x:=(d1,p1)) h1n w1;obtain ⟨a2,rfl,rfl,rfl,w2⟩:=open_int Tryz.underlying5 (hval 2 5 v2 rfl rfl) h2;obtain ⟨b0,b1⟩:=bounds_u8 w2;obtain ⟨z,rfl⟩:∃ z:Nat,a2=(z:Int):=⟨a2.toNat,by omega⟩
 clear hA0;refine (pr.raised_walk a0 qs _ z (by omega) W (pr.ph_of_laid hL hSh) hq).mono fun e W' ⟨he,hB⟩=>?_
 subst he;have s1:=zog (by kernel_rfl) (of_decide_eq_true (by kernel_rfl)) hB h1 (fun q hq=>hbl q (by simp [hq]));exact ⟨_,rfl,_,_,_,[],_,[],hW',trodAll_mk1 (shut_bool Tryz.underlying4 _),(trodAll_cons_mk (shut_string Tryz.underlying9 w0) (trodAll_cons_mk s1 (trodAll_cons_mk (shut_int Tryz.underlying5 w2) trodAll_mk0))),rfl,hB.frame _,fun h=>by cases h⟩
theorem ya0 (os:Os) {H:Type} (enc:TypeId × Value->H):∃ places,DataW.whole enc Tryz.prog ((World.laidAll Tryz.prog os syn.laidL).forCall (fun _ _=>0) ⟨#[],#[.string ByteArray.empty,.slice none 0 0,.int .u8 0],[]⟩).memory Tryz.f3.params.toList Rows.checkRaisedSpec.vars false #[.string ByteArray.empty,.slice none 0 0,.int .u8 0].toList 8=some ([.lit (.string []),.nil,.lit (.int .u8 0)],[],places) :=
 ⟨[],by kernel_rfl⟩
theorem zt1 (os:Os):laidMetH Tryz.prog syn.laidL ((World.laidAll Tryz.prog os syn.laidL).forCall (fun _ _=>0) ⟨#[],#[.string ByteArray.empty,.slice none 0 0,.int .u8 0],[]⟩).memory:=by
 rw [MakeChecks.laidMetH_plain _ _ _ (by kernel_rfl)];exact laidMet_laidAll _ (by kernel_rfl) (by kernel_rfl)
theorem zzj (os:Os) (started:os.Started) (H:Type) (enc:TypeId × Value->H) (F:Stop.Interp) : ReturnsInHanded {} Tryz.checked os 3 .any ((OpenSpec.ofChange Rows.checkRaisedSpec).preRow enc Tryz.prog Tryz.f3 Rows.checkRaisedRow.domain false Rows.checkRaisedRow.laid) (((OpenSpec.ofChange Rows.checkRaisedSpec).at F).post enc Tryz.prog Tryz.f3 false true false false):=by
 obtain ⟨places,hx⟩:=ya0 os enc
 refine returnsInHanded_of_row (C:=Tryz.checked) (s:=OpenSpec.ofChange Rows.checkRaisedSpec) own started (by kernel_rfl) Tryz.func3
  (witness_row_at (enc:=enc) (C:=Tryz.checked) false (World.laidAll Tryz.prog os syn.laidL) #[.string ByteArray.empty,.slice none 0 0,.int .u8 0] (World.laidAll_os _ _ _) (by kernel_rfl) (by kernel_rfl) (by kernel_rfl)
   (OpenSpec.preRow_of_cond 8 hx (by kernel_rfl) (fun k hk=>by cases hk) (by kernel_rfl) (zt1 os))) ?_
 intro W base args ds gs before hval hW _ _ hwt hL hSh _;exact zts H enc W base args ds gs before hval hW hwt hL hSh
end checkRaised
namespace checkRaised
theorem kIn:(Rows.checkRaisedRow.inPlace==Tryz.prog.inPlace 3)=true:=by kernel_rfl
theorem kUn:(Rows.checkRaisedRow.unfollowed==Tryz.prog.unfollowed 3)=true:=by kernel_rfl
theorem kRe:(Rows.checkRaisedRow.recurses==Tryz.prog.recurses 3)=true:=by kernel_rfl
theorem kNa:(Rows.checkRaisedRow.named==Tryz.prog.varsNamed 3)=true:=by kernel_rfl
end checkRaised
namespace checkRaised
open Go.ChangeShapes Go.WideShapes Go.ChangeAt Go.RowKit
open Go.ChangeMaps (open_string shut_string)
theorem zy7:joinedFacts Tryz.prog 3 Tryz.f3 (OpenSpec.ofChange Rows.checkRaisedSpec).bare Rows.checkRaisedRow=true:=by
 unfold joinedFacts;rw [kIn,kUn,kRe,kNa]
 kernel_rfl
theorem ybj:Rows.CheckRaisedSaid :=
 OpenClaim.holds_of_cond 3 Tryz.f3 rfl rfl rfl rfl rfl rfl rfl ⟨rfl,rfl,rfl,rfl,rfl⟩ rfl rfl rfl rfl rfl (by kernel_rfl) Tryz.func3 zy7
  (of_decide_eq_true (by kernel_rfl)) (by unfold Func.isWrapper;first | (rw [jv (by decide +kernel)];kernel_rfl) | (rw [ju (by decide +kernel)];exact ⟨rfl,rfl⟩))
  (fun os started H enc _ F=>by rw [OpenClaim.pre_eq_preRow];exact zzj os started H enc F)
theorem plain (f:FuncId) (fn:Func) (hf:Tryz.pinned.checked.prog.funcNamed Rows.checkRaisedRow.func=some f) (hfn:Tryz.pinned.checked.prog.funcs[f]?=some fn) : true=Tryz.pinned.checked.prog.looks []/\∀ (j:Nat) t,fn.params[j]?=some t->Tryz.pinned.checked.prog.wantsStandIn t=false:=by
 obtain rfl:f=3:=jw ((show Tryz.prog.funcNamed Rows.checkRaisedRow.func=some 3 by kernel_rfl).symm.trans hf) |>.symm
 obtain rfl:fn=Tryz.f3:=(jw (Tryz.func3.symm.trans hfn)).symm;refine ⟨by kernel_rfl,fun j t ht=>?_⟩;rw [Tryz.params3] at ht;have ht':t=9\/t=22\/t=5:=by simpa using Array.mem_of_getElem? ht
 rcases ht' with rfl | rfl | rfl
 ·exact (show Tryz.prog.wantsStandIn 9=false by kernel_rfl)
 ·exact (show Tryz.prog.wantsStandIn 22=false by kernel_rfl)
 ·exact (show Tryz.prog.wantsStandIn 5=false by kernel_rfl)
theorem card:Rows.CheckRaisedCardSaid :=
 Claim7.holds_tied_plain_at .later [] _ _ _ _ ybj (fun _ h=>by cases h) (by kernel_rfl) (fun _ h=>by cases h) checkRaised_row_tie rfl ⟨rfl,rfl⟩ (by kernel_rfl) rfl plain (by kernel_rfl)
end checkRaised
end Go.Proofs.YtaadmdlbkhcfnaaGreatDoor
