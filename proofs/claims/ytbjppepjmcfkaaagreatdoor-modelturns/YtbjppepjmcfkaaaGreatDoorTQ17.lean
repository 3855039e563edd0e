/- Proved: for every texts, both inputs and every fuel: in whatever order the texts stand, a run of the model shows the same; if they are a program in one, they are in the other (law ModelTurns), and all that was handed in reads afterwards as it did. Nothing else is asked but what the card says: that the listed variables hold what the program's own text lays there. -/
import Derived.Test.YtbjppepjmcfkaaaGreatDoorTQr
import Derived.Test.YtbjppepjmcfkaaaGreatDoorCards
import Derived.Test.YtbjppepjmcfkaaaGreatDoorTie
import Derived.Stop.LaidErr
import Derived.Lay
import Derived.Test.YtbjppepjmcfkaaaGreatDoorTQ16
import Derived.Deep.Frames
import Derived.Deep.DeepHandedRow
set_option maxHeartbeats 4000000
set_option linter.unusedSimpArgs false
set_option maxRecDepth 100000
set_option linter.unusedVariables false
namespace Go.Proofs.YtbjppepjmcfkaaaGreatDoor
namespace syn
open Go.RowKit
open lexs (qS)
variable {c:World} {d e:Nat} {f:List Value}
theorem gER:Tryz.prog.globalNamed "strconv.ErrRange"=some (Tryz.laysPI_ren.g 16):=by kernel_rfl
theorem gERType:(Tryz.prog.globals[Tryz.laysPI_ren.g 16]?).map (·.type)=some 207:=oB
theorem zy4:Tryz.prog.cellsOf 274=1:=oB
theorem zld:Tryz.prog.cellsOf 9=1:=oB
theorem zw0:Tryz.prog.cellsOf 3=1:=oB
theorem zns:Tryz.prog.cellsOf 286=2:=oB
theorem zw1:Tryz.prog.cellsOf 287=20:=oB
theorem zra : "*" ++ "errors.errorString" = "*errors.errorString":=by decide
theorem yda (u:TypeId) (h:Tryz.prog.typeName? 3 u=some "*errors.errorString"):u=272 :=
 typeName_ptr_named (nm := "errors.errorString") (by rw[zra];kernel_rfl) (by kernel_rfl) (by decide) u (by rw[zra];exact h)
theorem zxa:(Tryz.prog.globals[3]?).map (·.type)=some 287:=oB
theorem ba_of_list {b:ByteArray} {a:List UInt8} (c:b.data.toList=a):b=⟨a.toArray⟩:=by rw[<- c,Lib.mk_data]
theorem fC {j:Type} {p:TypeId × Value->j} {v:Nat->Bool} {s:Bool} {o:DataW j × List MemPlace} (g:DataW.trod p Tryz.prog c d v s e 286 f=some o):∃(i:ByteArray) (h:Int),f=[.string i,.int .i64 h]/\o.1=.agg [.lit (.string i.data.toList),.lit (.int .i64 h)]:=by
 cases e with
 | zero=>simp[DataW.trod]at g
 | succ e =>
  simp only[DataW.trod,Tryz.underlying286,zns]at g;split at g
  ·rename_i t
   obtain⟨k,l,rfl⟩:∃k l,f=[k,l]:=by
    match f,t with
    | [a,b],_=>exact⟨a,b,rfl⟩
   simp only[Option.map_eq_some_iff,List.mapM_cons,List.mapM_nil,Option.bind_eq_bind,jg,Option.pure_def,jh,zld,zw0]at g;obtain⟨w,⟨x,q,_,⟨y,r,_,rfl,rfl⟩,rfl⟩,u⟩:=g;obtain⟨i,n,rfl,_⟩:=DataW.trod_string Tryz.underlying9 q;obtain⟨h,m,rfl,_⟩:=DataW.trod_int Tryz.underlying3 r;simp at n m;subst n m;refine⟨i,h,rfl,?_⟩;rw[<- u];rfl
  ·cases g
theorem ycg {a b:Value} (c:(f.drop d).take 2=[a,b]):f[d]?=some a/\f[d+1]?=some b:=by
 have e:((f.drop d).take 2)[0]?=some a:=by rw[c];rfl
 have g:((f.drop d).take 2)[1]?=some b:=by rw[c];rfl
 rw[List.getElem?_take_of_lt oA,List.getElem?_drop]at e g;exact⟨e,g⟩
theorem fO {c:ByteArray} {b:Int} {a:List UInt8} (h:(f.drop (d*2)).take 2=[.string c,.int .i64 b]) (k:c.data.toList=a) (i:opAt d=⟨a.toArray⟩) (j:cW d=b) : (⟨f⟩:Array Value)[d*2]?=some (.string (opAt d))/\(⟨f⟩:Array Value)[d*2+1]?=some (.int .i64 (cW d)):=by
 obtain⟨e,g⟩:=ycg h;rw[i,j,<- ba_of_list k];exact⟨by simpa using e,by simpa using g⟩
abbrev laidL:List (String × DataW Unit):=Rows.checkTellsRow.laid
def zod:String:=(laidL.getD 5 ("",.nil)).1
theorem zr4:Tryz.prog.globalNamed zod=some 3:=oB
theorem zsj (a:laidMet Tryz.prog laidL c):qS c:=by
 have b:=(a.tail).tail.tail;obtain⟨f,g,e,_⟩:=laid_sentinel b gER gERType Tryz.underlying207 yda Tryz.underlying272 Tryz.underlying274 rfl rfl Tryz.underlying9 zy4 zld;exact⟨_,by have d:=World.var?_cell gER e 0;simpa using d,.inr ⟨_,_,rfl⟩⟩
theorem zsk (e:laidMet Tryz.prog laidL c):dH c:=by
 obtain⟨ps,⟨aj,d,u,i,az,q,ac,ag,b,a,_,_⟩,_⟩:=e.tail.tail.tail.tail.tail;obtain rfl:=jw (zr4.symm.trans ac);obtain rfl:=jw (zxa.symm.trans ag);obtain⟨h⟩:=u
 have f:∃d fr,c.heap[3]?=some (.cells ⟨h⟩ d fr):=by
  replace b:c.var? Tryz.prog zod=some ⟨h⟩:=b;simp only[World.var?,zr4,jf]at b;split at b;·rename_i ai d fr ad;simp only[jh]at b;exact⟨d,fr,by rw[ad,b]⟩
  ·cases b
 obtain⟨ah,fr,f⟩:=f
 cases i with
 | zero=>simp[DataW.trod]at a
 | succ i =>
  simp only[DataW.trod,Tryz.underlying287,zw1,zns]at a;split at a
  ·rename_i af;have v:List.range 10=[0,1,2,3,4,5,6,7,8,9]:=rfl;rw[v]at a;simp only[Option.map_eq_some_iff,List.mapM_cons,List.mapM_nil,Option.bind_eq_bind,jg,Option.pure_def,jh]at a;obtain⟨aK,⟨aL,e,_,⟨aM,a2,_,⟨aN,a3,_,⟨aO,a5,_,⟨aP,a6,_,⟨aQ,a7,_,⟨aR,a8,_,⟨aS,a9,_,⟨aT,aa,_,⟨aU,ab,_,rfl,rfl⟩,rfl⟩,rfl⟩,rfl⟩,rfl⟩,rfl⟩,rfl⟩,rfl⟩,rfl⟩,rfl⟩,g⟩:=a;obtain⟨aA,am,w,L⟩:=fC e;obtain⟨aB,an,x,M⟩:=fC a2;obtain⟨aC,ao,y,N⟩:=fC a3;obtain⟨aD,ap,z,P⟩:=fC a5;obtain⟨aE,ar,B,Q⟩:=fC a6;obtain⟨aF,au,C,R⟩:=fC a7;obtain⟨aG,av,D,S⟩:=fC a8;obtain⟨aH,aw,E,T⟩:=fC a9;obtain⟨aI,ax,G,V⟩:=fC aa;obtain⟨aJ,ay,K,W⟩:=fC ab;simp only[List.map_cons,List.map_nil,L,M,N,P,Q,R,S,T,V,W]at g;simp[Rows.laid_dryshod_syntax_operators]at g;obtain⟨⟨⟨j,rfl⟩,⟨k,rfl⟩,⟨l,rfl⟩,⟨m,rfl⟩,⟨n,rfl⟩,⟨o,rfl⟩,⟨p,rfl⟩,⟨r,rfl⟩,⟨s,rfl⟩,t,rfl⟩,_⟩:=g;refine⟨⟨h⟩,ah,fr,f,by simpa using af,fun ak ae=>?_⟩;rcases ten ae with rfl | rfl | rfl | rfl | rfl | rfl | rfl | rfl | rfl | rfl
   ·exact fO w (by rw[j]) rfl rfl
   ·exact fO x k rfl rfl
   ·exact fO y l rfl rfl
   ·exact fO z m rfl rfl
   ·exact fO B n rfl rfl
   ·exact fO C o rfl rfl
   ·exact fO D p rfl rfl
   ·exact fO E r rfl rfl
   ·exact fO G s rfl rfl
   ·exact fO K t rfl rfl
  ·cases a
theorem hasBoth_of_laid (b:laidMetH Tryz.prog laidL c):gO c:=by
 have a:laidMet Tryz.prog laidL c:=by rw[<- MakeChecks.laidMetH_plain _ _ _ oB];exact b
 exact⟨zsj a,zsk a⟩
end syn
namespace chk
open Go.RowKit
open syn face
theorem hasMax_of_shaped {c:World} (h:c.ShapedOpen Tryz.prog):uV c:=by
 obtain⟨b,l,n,m⟩:=h.1 0 #[.int .i64 0] 3 (of_decide_eq_true oB) oB;obtain⟨r,e,_,i⟩:=m oB;have j:Tryz.prog.cellTypes Tryz.prog.depth 3=some [3]:=oB;rw[j]at e;cases e;have d:0<b.size:=by rw[n];decide
 obtain⟨q,o,a⟩:=i 0 b[0] (by simp[d]);have:q=3:=by simpa using o.symm
 subst this;have k:c.cell? ⟨0,0,none⟩=some b[0]:=by simp[World.cell?,l,d]
 have f:Tryz.laysCut_ren.g 1=0:=oB;unfold uV;rw[f,k];unfold Cell.ok at a;rw[Tryz.underlying3]at a;cases p:b[0]<;>rw[p]at a<;>simp at a;exact⟨_,by rw[a.1]⟩
end chk
namespace modelTurns
open Go.ChangeShapes Go.WideShapes Go.ChangeAt Go.RowKit
open Go.ChangeMaps (open_string shut_string)
theorem own:ownKnob Tryz.prog.godebug=none:=oB
theorem laidOut:laidOutB Tryz.prog=true:=oB
theorem stays {h:Type} {k:TypeId × Value->h} {c f:World} {e:TypeId} {v:Value} {j:DataW h} {b:List MemPlace} (g:Tryz.prog.readableRec e=true) (n:e<Tryz.prog.types.size) (p:Below c.heap.size c f) (a:DataW.Trod k Tryz.prog c 0 (fun _=>true) true e v j b) (l:∀q∈b,q.block<c.heap.size) : DataW.Trod k Tryz.prog f 0 (fun i=>decide (i<c.heap.size)) true e v j b:=by
 obtain⟨m,a⟩:=a;have r:c.keptBut f (fun _=>False):=p.frame _
 exact⟨m,DataW.trod_stays (kids_book laidOut g) (book_sized g) (fun a=>by cases a) ⟨n,book_self _⟩ a
  (fun b d=>r.sameAt (l b d) (fun a=>a) (fun i o=>by
   have:=DataW.trod_good (kids_book laidOut g) (fun a=>by cases a) m _ _ _ ⟨n,book_self _⟩ a b d;subst o
   exact this))
  (fun b d=>by simpa using l b d)⟩
theorem zw2 (m:Type) (i:TypeId × Value->m) (b:World) (Q:Nat) (args:Array Value) (h r:List (DataW m)) (R:List MemPlace) (c:∀(l:Nat) t v,Tryz.f6.params[l]?=some t->args[l]?=some v->Value.okWide Tryz.prog b .any Q t v) (j:DataW.Whole i Tryz.prog Tryz.f6.params.toList Rows.modelTurnsSpec.vars false b args.toList h r R) (C:(DataW.weightsEach Tryz.prog (Tryz.f6.params.toList++(OpenSpec.ofChange Rows.modelTurnsSpec).bare.plain.varTypes Tryz.prog) (h++r)).all (·<=reachBytes)=true) (a7:laidMetH Tryz.prog Rows.modelTurnsRow.laid b) (a9:b.ShapedOpen Tryz.prog) : Calls Tryz.prog 6 args b fun p n=>∃v,p=.returned v/\Rows.modelTurnsSpec.post i Tryz.prog Tryz.f6 false true false false b args v n:=by
 have ab:=j;have k:=j.lt;obtain⟨aj,q,B,aa,rfl,aK,aL⟩:=j;have z:DataW.TrodAll i Tryz.prog b 0 (fun _=>true) true Tryz.f6.params.toList args.toList h aj:=B;rw[Tryz.params6]at z c C;obtain⟨E,b7,e,aE,D,aR,aJ,rfl,rfl,s,an⟩:=trodAll_cons z;obtain⟨G,b8,S,aF,ak,aS,rfl,rfl,rfl,w,ao⟩:=trodAll_cons an;obtain⟨K,b9,T,aG,am,aT,rfl,rfl,rfl,y,ap⟩:=trodAll_cons ao;obtain⟨L,ba,aC,aH,aP,aU,rfl,rfl,rfl,a3,ar⟩:=trodAll_cons ap;obtain⟨M,bb,aD,aI,aQ,aV,rfl,rfl,rfl,a5,au⟩:=trodAll_cons ar;obtain⟨rfl,rfl,rfl⟩:=trodAll_nil au;obtain rfl:args=#[E,G,K,L,M]:=by cases args;simp_all
 obtain⟨rfl,rfl⟩:=trodVars_none aa;obtain⟨aM,u⟩:=id s;obtain⟨aN,W⟩:=id w;obtain⟨aO,a2⟩:=id y
 have ae:∀g∈e.weights Tryz.prog 33,g<=reachBytes:=fun g ad=>by
  have:=List.all_eq_true.1 C g (DataW.weights_mem_each (j:=0) (t:=33) (d:=e) rfl rfl g ad);simpa using this
 obtain⟨o,rfl,rfl,rfl,N⟩:=open_int Tryz.underlying5 (c 3 5 L rfl rfl) a3;obtain⟨aA,aB⟩:=bounds_u8 N;obtain⟨ai,rfl⟩:∃ah:Nat,o=ah:=⟨o.toNat,oA⟩
 obtain⟨P,rfl,rfl,rfl,ay⟩:=open_int Tryz.underlying3 (c 4 3 M rfl rfl) a5;obtain⟨aW,sl,aX,rfl⟩:=okWide_slice Tryz.underlying33 (c 0 33 E rfl rfl);obtain⟨aY,b0,aZ,rfl⟩:=okWide_slice Tryz.underlying42 (c 1 42 G rfl rfl);obtain⟨b1,b6,b2,rfl⟩:=okWide_slice Tryz.underlying42 (c 2 42 K rfl rfl);obtain⟨az,a⟩:=ord.open_strsS (x:=(e,D)) u;obtain⟨ag,a6⟩:=mdl.open_intsL (x:=(S,ak)) W;obtain⟨af,a8⟩:=mdl.open_intsL (x:=(T,am)) a2;clear B;refine(mdl.turns_walk ⟨syn.hasBoth_of_laid a7,chk.hasMax_of_shaped a9⟩ az _ _ _ ag af ai oA P a (mdl.strs_bound (x:=(e,D)) u ae a) a6 a8).mono fun p n ⟨ac,f⟩=>?_
 subst ac;have av:=stays oB (of_decide_eq_true oB) f s (fun q a=>k q (by simp[a]));have aw:=stays oB (of_decide_eq_true oB) f w (fun q a=>k q (by simp[a]));have ax:=stays oB (of_decide_eq_true oB) f y (fun q a=>k q (by simp[a]));exact⟨_,rfl,_,_,_,[],_,[],ab,trodAll_mk1 (shut_bool Tryz.underlying4 _),(trodAll_cons_mk av (trodAll_cons_mk aw (trodAll_cons_mk ax (trodAll_cons_mk (shut_int Tryz.underlying5 N) (trodAll_cons_mk (shut_int Tryz.underlying3 ay) trodAll_mk0))))),rfl,f.frame _,fun V=>by cases V⟩
theorem reads (c:Os) {a:Type} (b:TypeId × Value->a):∃d,DataW.whole b Tryz.prog ((World.laidAll Tryz.prog c syn.laidL).forCall (fun _ _=>0) ⟨#[],#[.slice none 0 0,.slice none 0 0,.slice none 0 0,.int .u8 0,.int .i64 0],[]⟩).memory Tryz.f6.params.toList Rows.modelTurnsSpec.vars false #[.slice none 0 0,.slice none 0 0,.slice none 0 0,.int .u8 0,.int .i64 0].toList 8=some ([.nil,.nil,.nil,.lit (.int .u8 0),.lit (.int .i64 0)],[],d) :=
 ⟨[],oB⟩
theorem laid_met (a:Os):laidMetH Tryz.prog syn.laidL ((World.laidAll Tryz.prog a syn.laidL).forCall (fun _ _=>0) ⟨#[],#[.slice none 0 0,.slice none 0 0,.slice none 0 0,.int .u8 0,.int .i64 0],[]⟩).memory:=by
 rw[MakeChecks.laidMetH_plain _ _ _ oB];exact laidMet_laidAll _ oB oB
theorem lifted (b:Os) (q:b.Started) (c:Type) (a:TypeId × Value->c) (d:Stop.Interp) : ReturnsInHanded {} Tryz.checked b 6 .any ((OpenSpec.ofChange Rows.modelTurnsSpec).preRow a Tryz.prog Tryz.f6 Rows.modelTurnsRow.domain false Rows.modelTurnsRow.laid) (((OpenSpec.ofChange Rows.modelTurnsSpec).at d).post a Tryz.prog Tryz.f6 false true false false):=by
 obtain⟨t,p⟩:=reads b a
 refine returnsInHanded_of_row (C:=Tryz.checked) (s:=OpenSpec.ofChange Rows.modelTurnsSpec) own q oB Tryz.func6
  (witness_row_at (enc:=a) (C:=Tryz.checked) false (World.laidAll Tryz.prog b syn.laidL) #[.slice none 0 0,.slice none 0 0,.slice none 0 0,.int .u8 0,.int .i64 0] (World.laidAll_os _ _ _) oB oB oB
   (OpenSpec.preRow_of_cond 8 p oB (fun r m=>by cases m) oB (laid_met b))) ?_
 intro e f args h i g n l _ _ o j k _;exact zw2 c a e f args h i g n l o j k
theorem said:Rows.ModelTurnsSaid :=
 OpenClaim.holds_of_cond 6 Tryz.f6 rfl rfl rfl rfl rfl rfl rfl ⟨rfl,rfl,rfl,rfl,rfl⟩ rfl rfl rfl rfl rfl oB Tryz.func6 oB
  (of_decide_eq_true oB) (by unfold Func.isWrapper;first | (rw[jv (by decide +kernel)];kernel_rfl) | (rw[ju (by decide +kernel)];exact⟨rfl,rfl⟩))
  (fun d e b c _ a=>by rw[OpenClaim.pre_eq_preRow];exact lifted d e b c a)
theorem plain (b:FuncId) (c:Func) (f:Tryz.pinned.checked.prog.funcNamed Rows.modelTurnsRow.func=some b) (g:Tryz.pinned.checked.prog.funcs[b]?=some c) : true=Tryz.pinned.checked.prog.looks []/\∀(e:Nat) a,c.params[e]?=some a->Tryz.pinned.checked.prog.wantsStandIn a=false:=by
 obtain rfl:b=6:=jw ((show Tryz.prog.funcNamed Rows.modelTurnsRow.func=some 6 by kernel_rfl).symm.trans f) |>.symm
 obtain rfl:c=Tryz.f6:=(jw (Tryz.func6.symm.trans g)).symm;refine⟨oB,fun e a d=>?_⟩;rw[Tryz.params6]at d;have h:a=33\/a=42\/a=42\/a=5\/a=3:=by simpa using Array.mem_of_getElem? d
 rcases h with rfl | rfl | rfl | rfl | rfl
 ·exact(show Tryz.prog.wantsStandIn 33=false by kernel_rfl)
 ·exact(show Tryz.prog.wantsStandIn 42=false by kernel_rfl)
 ·exact(show Tryz.prog.wantsStandIn 42=false by kernel_rfl)
 ·exact(show Tryz.prog.wantsStandIn 5=false by kernel_rfl)
 ·exact(show Tryz.prog.wantsStandIn 3=false by kernel_rfl)
theorem card:Rows.ModelTurnsCardSaid :=
 Claim7.holds_tied_plain_at .later [] _ _ _ _ said (fun _ a=>by cases a) oB (fun _ a=>by cases a) modelTurns_row_tie rfl ⟨rfl,rfl⟩ oB rfl plain oB
end modelTurns
end Go.Proofs.YtbjppepjmcfkaaaGreatDoor
