/- Proved: for every texts, where the program tells an order, each module stands once in it, behind all that it imports (law OrderRises), and the texts read afterwards as they did. Nothing else is asked but what the card says: that the listed variables hold what the program's own text lays there. -/
import Derived.Test.YtfopddgjdaoidaaGreatDoorCards
import Derived.Test.YtfopddgjdaoidaaGreatDoorTie
import Derived.Stop.LaidErr
import Derived.Lay
import Derived.Test.YtfopddgjdaoidaaGreatDoorNR26
import Derived.Deep.Frames
import Derived.Deep.DeepHandedRow
set_option linter.unusedSimpArgs false
set_option maxRecDepth 100000
set_option linter.unusedVariables false
namespace Go.Proofs.YtfopddgjdaoidaaGreatDoor
namespace syn
open Go.RowKit
open lexs (HasErr)
theorem gER:Tryz.prog.globalNamed "strconv.ErrRange"=some (Tryz.laysPI_ren.g 16):=by kernel_rfl
theorem gERType:(Tryz.prog.globals[Tryz.laysPI_ren.g 16]?).map (·.type)=some 130:=by kernel_rfl
theorem cellsEs:Tryz.prog.cellsOf 259=1:=by kernel_rfl
theorem cellsStr:Tryz.prog.cellsOf 9=1:=by kernel_rfl
theorem cellsInt:Tryz.prog.cellsOf 3=1:=by kernel_rfl
theorem cellsOp:Tryz.prog.cellsOf 272=2:=by kernel_rfl
theorem cellsOps:Tryz.prog.cellsOf 273=20:=by kernel_rfl
theorem starEs : "*" ++ "errors.errorString" = "*errors.errorString":=by decide
theorem rowEs (u:TypeId) (h:Tryz.prog.typeName? 3 u=some "*errors.errorString"):u=257 :=
 typeName_ptr_named (nm := "errors.errorString") (by rw [starEs];kernel_rfl) (by kernel_rfl) (by decide) u (by rw [starEs];exact h)
theorem gOpsType:(Tryz.prog.globals[5]?).map (·.type)=some 273:=by kernel_rfl
theorem ba_of_list {s:ByteArray} {l:List UInt8} (h:s.data.toList=l):s=⟨l.toArray⟩:=by rw [← h,Lib.mk_data]
theorem pair_of_trod {H:Type} {enc:TypeId × Value→H} {w:World} {base:Nat} {sp:Nat→Bool} {held:Bool} {fuel:Nat} {l:List Value} {y:DataW H × List MemPlace}
  (h:DataW.trod enc Tryz.prog w base sp held fuel 272 l=some y):∃ (s:ByteArray) (n:Int),l=[.string s,.int .i64 n]∧y.1=.agg [.lit (.string s.data.toList),.lit (.int .i64 n)]:=by
 cases fuel with
 | zero=>simp [DataW.trod] at h
 | succ fuel =>
  simp only [DataW.trod,Tryz.underlying272,cellsOp] at h
  split at h
  ·rename_i hl
   obtain ⟨c0,c1,rfl⟩:∃ c0 c1,l=[c0,c1]:=by
    match l,hl with
    | [a,b],_=>exact ⟨a,b,rfl⟩
   simp only [Option.map_eq_some_iff,List.mapM_cons,List.mapM_nil,Option.bind_eq_bind,Option.bind_eq_some_iff,Option.pure_def,Option.some.injEq,cellsStr,cellsInt] at h
   obtain ⟨xs,⟨y0,h0,_,⟨y1,h1,_,rfl,rfl⟩,rfl⟩,hx⟩:=h
   obtain ⟨s,hs,rfl,_⟩:=DataW.trod_string Tryz.underlying9 h0
   obtain ⟨n,hn,rfl,_⟩:=DataW.trod_int Tryz.underlying3 h1
   simp at hs hn
   subst hs hn
   refine ⟨s,n,rfl,?_⟩
   rw [← hx]
   rfl
  ·cases h
theorem two_at {l:List Value} {i:Nat} {a b:Value} (h:(l.drop i).take 2=[a,b]):l[i]?=some a∧l[i+1]?=some b:=by
 have h0:((l.drop i).take 2)[0]?=some a:=by rw [h];rfl
 have h1:((l.drop i).take 2)[1]?=some b:=by rw [h];rfl
 rw [List.getElem?_take_of_lt (by omega),List.getElem?_drop] at h0 h1
 exact ⟨h0,h1⟩
theorem ops_at {l:List Value} {k:Nat} {s:ByteArray} {n:Int} {bs:List UInt8} (h:(l.drop (k*2)).take 2=[.string s,.int .i64 n]) (hs:s.data.toList=bs) (h1:opAt k=⟨bs.toArray⟩) (h2:opIs k=n) :
  (⟨l⟩:Array Value)[k*2]?=some (.string (opAt k))∧(⟨l⟩:Array Value)[k*2+1]?=some (.int .i64 (opIs k)):=by
 obtain ⟨b0,b1⟩:=two_at h
 rw [h1,h2,← ba_of_list hs]
 exact ⟨by simpa using b0,by simpa using b1⟩
abbrev laidL:List (String × DataW Unit):=Rows.checkLowRow.laid
def opsName:String:=(laidL.getD 5 ("",.nil)).1
theorem gOps:Tryz.prog.globalNamed opsName=some 5:=by kernel_rfl
theorem hasErr_of_laid {W:World} (h0:laidMet Tryz.prog laidL W):HasErr W:=by
 have h1:=(h0.tail).tail.tail
 obtain ⟨a0,s0,hv0,_⟩:=laid_sentinel h1 gER gERType Tryz.underlying130 rowEs Tryz.underlying257 Tryz.underlying259 rfl rfl Tryz.underlying9 cellsEs cellsStr
 exact ⟨_,by have h2:=World.var?_cell gER hv0 0;simpa using h2,.inr ⟨_,_,rfl⟩⟩
set_option maxHeartbeats 2000000 in
theorem hasOps_of_laid {W:World} (h0:laidMet Tryz.prog laidL W):HasOps W:=by
 obtain ⟨ps,⟨g,t,cs,fuel,p,q,hg,ht,hvar,hd,_,_⟩,_⟩:=h0.tail.tail.tail.tail.tail
 obtain rfl:=Option.some.inj (gOps.symm.trans hg)
 obtain rfl:=Option.some.inj (gOpsType.symm.trans ht)
 obtain ⟨l⟩:=cs
 have hheap:∃ t fr,W.heap[5]?=some (.cells ⟨l⟩ t fr):=by
  replace hvar:W.var? Tryz.prog opsName=some ⟨l⟩:=hvar
  simp only [World.var?,gOps,Option.bind_some] at hvar
  split at hvar
  ·rename_i c t fr hh
   simp only [Option.some.injEq] at hvar
   exact ⟨t,fr,by rw [hh,hvar]⟩
  ·cases hvar
 obtain ⟨t',fr,hheap⟩:=hheap
 cases fuel with
 | zero=>simp [DataW.trod] at hd
 | succ fuel =>
  simp only [DataW.trod,Tryz.underlying273,cellsOps,cellsOp] at hd
  split at hd
  ·rename_i hl
   have e:List.range 10=[0,1,2,3,4,5,6,7,8,9]:=rfl
   rw [e] at hd
   simp only [Option.map_eq_some_iff,List.mapM_cons,List.mapM_nil,Option.bind_eq_bind,Option.bind_eq_some_iff,Option.pure_def,Option.some.injEq] at hd
   obtain ⟨xs,⟨y0,h0,_,⟨y1,h1,_,⟨y2,h2,_,⟨y3,h3,_,⟨y4,h4,_,⟨y5,h5,_,⟨y6,h6,_,⟨y7,h7,_,⟨y8,h8,_,⟨y9,h9,_,rfl,rfl⟩,rfl⟩,rfl⟩,rfl⟩,rfl⟩,rfl⟩,rfl⟩,rfl⟩,rfl⟩,rfl⟩,hx⟩:=hd
   obtain ⟨s0,n0,e0,f0⟩:=pair_of_trod h0
   obtain ⟨s1,n1,e1,f1⟩:=pair_of_trod h1
   obtain ⟨s2,n2,e2,f2⟩:=pair_of_trod h2
   obtain ⟨s3,n3,e3,f3⟩:=pair_of_trod h3
   obtain ⟨s4,n4,e4,f4⟩:=pair_of_trod h4
   obtain ⟨s5,n5,e5,f5⟩:=pair_of_trod h5
   obtain ⟨s6,n6,e6,f6⟩:=pair_of_trod h6
   obtain ⟨s7,n7,e7,f7⟩:=pair_of_trod h7
   obtain ⟨s8,n8,e8,f8⟩:=pair_of_trod h8
   obtain ⟨s9,n9,e9,f9⟩:=pair_of_trod h9
   simp only [List.map_cons,List.map_nil,f0,f1,f2,f3,f4,f5,f6,f7,f8,f9] at hx
   simp [Rows.laid_dryshod_syntax_operators] at hx
   obtain ⟨⟨⟨a0,rfl⟩,⟨a1,rfl⟩,⟨a2,rfl⟩,⟨a3,rfl⟩,⟨a4,rfl⟩,⟨a5,rfl⟩,⟨a6,rfl⟩,⟨a7,rfl⟩,⟨a8,rfl⟩,a9,rfl⟩,_⟩:=hx
   refine ⟨⟨l⟩,t',fr,hheap,by simpa using hl,fun k hk=>?_⟩
   rcases ten hk with rfl | rfl | rfl | rfl | rfl | rfl | rfl | rfl | rfl | rfl
   ·exact ops_at e0 (by rw [a0]) rfl rfl
   ·exact ops_at e1 a1 rfl rfl
   ·exact ops_at e2 a2 rfl rfl
   ·exact ops_at e3 a3 rfl rfl
   ·exact ops_at e4 a4 rfl rfl
   ·exact ops_at e5 a5 rfl rfl
   ·exact ops_at e6 a6 rfl rfl
   ·exact ops_at e7 a7 rfl rfl
   ·exact ops_at e8 a8 rfl rfl
   ·exact ops_at e9 a9 rfl rfl
  ·cases hd
theorem hasBoth_of_laid {W:World} (h:laidMetH Tryz.prog laidL W):HasBoth W:=by
 have h0:laidMet Tryz.prog laidL W:=by rw [← MakeChecks.laidMetH_plain _ _ _ (by kernel_rfl)];exact h
 exact ⟨hasErr_of_laid h0,hasOps_of_laid h0⟩
end syn
namespace chk
open Go.RowKit
open syn face
theorem hasMax_of_shaped {W:World} (h:W.ShapedOpen Tryz.prog):HasMax W:=by
 obtain ⟨cs,hh,hs,hr⟩:=h.1 1 #[.int .i64 0] 3 (of_decide_eq_true (by kernel_rfl)) (by kernel_rfl)
 obtain ⟨ts,hts,_,hall⟩:=hr (by kernel_rfl)
 have hc:Tryz.prog.cellTypes Tryz.prog.depth 3=some [3]:=by kernel_rfl
 rw [hc] at hts
 cases hts
 have h1:0<cs.size:=by rw [hs];decide
 obtain ⟨u,hu',hok⟩:=hall 0 cs[0] (by simp [h1])
 have:u=3:=by simpa using hu'.symm
 subst this
 have hcell:W.cell? ⟨1,0,none⟩=some cs[0]:=by simp [World.cell?,hh,h1]
 have e:Tryz.laysCut_ren.g 1=1:=by kernel_rfl
 unfold HasMax
 rw [e,hcell]
 unfold Cell.ok at hok
 rw [Tryz.underlying3] at hok
 cases hv:cs[0]<;>rw [hv] at hok<;>simp at hok
 exact ⟨_,by rw [hok.1]⟩
end chk
namespace orderRises
open Go.ChangeShapes Go.WideShapes Go.ChangeAt Go.RowKit
open Go.ChangeMaps (open_string shut_string)
theorem own:ownKnob Tryz.prog.godebug=none:=by kernel_rfl
theorem laidOut:laidOutB Tryz.prog=true:=by kernel_rfl
theorem stays {H:Type} {enc:TypeId × Value→H} {W W':World} {t:TypeId} {v:Value} {d:DataW H} {p:List MemPlace} (rec:Tryz.prog.readableRec t=true) (row:t<Tryz.prog.types.size) (hb:Below W.heap.size W W') (h:DataW.Trod enc Tryz.prog W 0 (fun _=>true) true t v d p) (hlt:∀ q∈p,q.block<W.heap.size) :
  DataW.Trod enc Tryz.prog W' 0 (fun b=>decide (b<W.heap.size)) true t v d p:=by
 obtain ⟨n,h⟩:=h
 have hk:W.keptBut W' (fun _=>False):=hb.frame _
 exact ⟨n,DataW.trod_stays (kids_book laidOut rec) (book_sized rec) (fun h=>by cases h) ⟨row,book_self _⟩ h
  (fun p hp=>hk.sameAt (hlt p hp) (fun h=>h) (fun b e=>by
   have:=DataW.trod_good (kids_book laidOut rec) (fun h=>by cases h) n _ _ _ ⟨row,book_self _⟩ h p hp
   subst e
   exact this))
  (fun p hp=>by simpa using hlt p hp)⟩
theorem contract (H:Type) (enc:TypeId × Value→H) (W:World) (base:Nat) (args:Array Value) (ds gs:List (DataW H)) (before:List MemPlace)
  (hval:∀ (j:Nat) t v,Tryz.f8.params[j]?=some t→args[j]?=some v→Value.okWide Tryz.prog W .any base t v)
  (hW:DataW.Whole enc Tryz.prog Tryz.f8.params.toList Rows.orderRisesSpec.vars false W args.toList ds gs before)
  (hwt:(DataW.weightsEach Tryz.prog (Tryz.f8.params.toList++(OpenSpec.ofChange Rows.orderRisesSpec).bare.plain.varTypes Tryz.prog) (ds++gs)).all (·≤reachBytes)=true) (hL:laidMetH Tryz.prog Rows.orderRisesRow.laid W) (hSh:W.ShapedOpen Tryz.prog) :
  Calls Tryz.prog 8 args W fun e W'=>∃ v,e=.returned v∧Rows.orderRisesSpec.post enc Tryz.prog Tryz.f8 false true false false W args v W':=by
 have hW':=hW
 have hbl:=hW.lt
 obtain ⟨p,q,hA0,hV,rfl,hfz,hnd⟩:=hW
 have hA:DataW.TrodAll enc Tryz.prog W 0 (fun _=>true) true Tryz.f8.params.toList args.toList ds p:=hA0
 rw [Tryz.params8] at hA hval hwt
 obtain ⟨v0,vs0,d0,ds0,p0,q0,hargs,rfl,rfl,h0,r0⟩:=trodAll_cons hA
 obtain ⟨rfl,rfl,rfl⟩:=trodAll_nil r0
 obtain rfl:args=#[v0]:=by cases args;simp_all
 obtain ⟨rfl,rfl⟩:=trodVars_none hV
 have h0':=h0
 obtain ⟨n0,h0n⟩:=h0'
 obtain ⟨sa,sl,sc,rfl⟩:=okWide_slice Tryz.underlying45 (hval 0 45 v0 rfl rfl)
 obtain ⟨xs,hq⟩:=ord.open_strsS (x:=(d0,p0)) h0n
 clear hA0
 refine (ord.rise_walk W ⟨syn.hasBoth_of_laid hL,chk.hasMax_of_shaped hSh⟩ xs _ hq).mono fun e W' ⟨he,hB⟩=>?_
 subst he
 have s0:=stays (by kernel_rfl) (of_decide_eq_true (by kernel_rfl)) hB h0 (fun q hq=>hbl q (by simp [hq]))
 exact ⟨_,rfl,_,_,_,[],_,[],hW',trodAll_mk1 (shut_bool Tryz.underlying4 _),(trodAll_cons_mk s0 trodAll_mk0),rfl,hB.frame _,fun h=>by cases h⟩
theorem reads (os:Os) {H:Type} (enc:TypeId × Value→H):∃ places,DataW.whole enc Tryz.prog ((World.laidAll Tryz.prog os syn.laidL).forCall (fun _ _=>0) ⟨#[],#[.slice none 0 0],[]⟩).memory Tryz.f8.params.toList Rows.orderRisesSpec.vars false #[.slice none 0 0].toList 8=some ([.nil],[],places) :=
 ⟨[],by kernel_rfl⟩
theorem laid_met (os:Os):laidMetH Tryz.prog syn.laidL ((World.laidAll Tryz.prog os syn.laidL).forCall (fun _ _=>0) ⟨#[],#[.slice none 0 0],[]⟩).memory:=by
 rw [MakeChecks.laidMetH_plain _ _ _ (by kernel_rfl)]
 exact laidMet_laidAll _ (by kernel_rfl) (by kernel_rfl)
theorem lifted (os:Os) (started:os.Started) (H:Type) (enc:TypeId × Value→H) (F:Stop.Interp) :
  ReturnsInHanded {} Tryz.checked os 8 .any ((OpenSpec.ofChange Rows.orderRisesSpec).preRow enc Tryz.prog Tryz.f8 Rows.orderRisesRow.domain false Rows.orderRisesRow.laid) (((OpenSpec.ofChange Rows.orderRisesSpec).at F).post enc Tryz.prog Tryz.f8 false true false false):=by
 obtain ⟨places,hx⟩:=reads os enc
 refine returnsInHanded_of_row (C:=Tryz.checked) (s:=OpenSpec.ofChange Rows.orderRisesSpec) own started (by kernel_rfl) Tryz.func8
  (witness_row_at (enc:=enc) (C:=Tryz.checked) false (World.laidAll Tryz.prog os syn.laidL) #[.slice none 0 0] (World.laidAll_os _ _ _) (by kernel_rfl) (by kernel_rfl) (by kernel_rfl)
   (OpenSpec.preRow_of_cond 8 hx (by kernel_rfl) (fun k hk=>by cases hk) (by kernel_rfl) (laid_met os))) ?_
 intro W base args ds gs before hval hW _ _ hwt hL hSh _
 exact contract H enc W base args ds gs before hval hW hwt hL hSh
theorem said:Rows.OrderRisesSaid :=
 OpenClaim.holds_of_cond 8 Tryz.f8 rfl rfl rfl rfl rfl rfl rfl ⟨rfl,rfl,rfl,rfl,rfl⟩ rfl rfl rfl rfl rfl (by kernel_rfl) Tryz.func8 (by kernel_rfl)
  (of_decide_eq_true (by kernel_rfl)) (by unfold Func.isWrapper;first | (rw [if_pos (by decide +kernel)];kernel_rfl) | (rw [if_neg (by decide +kernel)];exact ⟨rfl,rfl⟩))
  (fun os started H enc _ F=>by rw [OpenClaim.pre_eq_preRow];exact lifted os started H enc F)
theorem plain (f:FuncId) (fn:Func) (hf:Tryz.pinned.checked.prog.funcNamed Rows.orderRisesRow.func=some f) (hfn:Tryz.pinned.checked.prog.funcs[f]?=some fn) :
  true=Tryz.pinned.checked.prog.looks []∧∀ (j:Nat) t,fn.params[j]?=some t→Tryz.pinned.checked.prog.wantsStandIn t=false:=by
 obtain rfl:f=8:=Option.some.inj ((show Tryz.prog.funcNamed Rows.orderRisesRow.func=some 8 by kernel_rfl).symm.trans hf) |>.symm
 obtain rfl:fn=Tryz.f8:=(Option.some.inj (Tryz.func8.symm.trans hfn)).symm
 refine ⟨by kernel_rfl,fun j t ht=>?_⟩
 rw [Tryz.params8] at ht
 have ht':t=45:=by simpa using Array.mem_of_getElem? ht
 rcases ht' with rfl
 exact (show Tryz.prog.wantsStandIn 45=false by kernel_rfl)
theorem card:Rows.OrderRisesCardSaid :=
 Claim7.holds_tied_plain_at .later [] _ _ _ _ said (fun _ h=>by cases h) (by kernel_rfl) (fun _ h=>by cases h) orderRises_row_tie rfl ⟨rfl,rfl⟩ (by kernel_rfl) rfl plain (by kernel_rfl)
end orderRises
end Go.Proofs.YtfopddgjdaoidaaGreatDoor
