/- Proved: for every texts, both inputs and every two fuels, of two runs of the model the one with more fuel goes on as the other one began, and who has ended stays so (law ModelLonger), and all that was handed in reads afterwards as it did. Nothing else is asked but what the card says: that the listed variables hold what the program's own text lays there. -/
import Derived.Test.YtbjppepjmcfkaaaGreatDoorNQr
import Derived.Test.YtbjppepjmcfkaaaGreatDoorCards
import Derived.Test.YtbjppepjmcfkaaaGreatDoorTie
import Derived.Stop.LaidErr
import Derived.Lay
import Derived.Test.YtbjppepjmcfkaaaGreatDoorNQ16
import Derived.Deep.Frames
import Derived.Deep.DeepHandedRow
set_option maxHeartbeats 4000000
set_option linter.unusedSimpArgs false
set_option maxRecDepth 100000
set_option linter.unusedVariables false
namespace Go.Proofs.YtbjppepjmcfkaaaGreatDoor
namespace syn
open Go.RowKit
open lexs (qQ)
variable {c:World} {d e:Nat} {f:List Value}
theorem gER:Tryz.prog.globalNamed "strconv.ErrRange"=some (Tryz.laysPI_ren.g 16):=by kernel_rfl
theorem gERType:(Tryz.prog.globals[Tryz.laysPI_ren.g 16]?).map (·.type)=some 207:=oB
theorem zyc:Tryz.prog.cellsOf 274=1:=oB
theorem zky:Tryz.prog.cellsOf 9=1:=oB
theorem zwc:Tryz.prog.cellsOf 3=1:=oB
theorem znb:Tryz.prog.cellsOf 286=2:=oB
theorem zwd:Tryz.prog.cellsOf 287=20:=oB
theorem zqo : "*" ++ "errors.errorString" = "*errors.errorString":=by decide
theorem ych (u:TypeId) (h:Tryz.prog.typeName? 3 u=some "*errors.errorString"):u=272 :=
 typeName_ptr_named (nm := "errors.errorString") (by rw[zqo];kernel_rfl) (by kernel_rfl) (by decide) u (by rw[zqo];exact h)
theorem zwm:(Tryz.prog.globals[3]?).map (·.type)=some 287:=oB
theorem ba_of_list {b:ByteArray} {a:List UInt8} (c:b.data.toList=a):b=⟨a.toArray⟩:=by rw[<- c,Lib.mk_data]
theorem gY {j:Type} {p:TypeId × Value->j} {v:Nat->Bool} {s:Bool} {o:DataW j × List MemPlace} (g:DataW.trod p Tryz.prog c d v s e 286 f=some o):∃(i:ByteArray) (h:Int),f=[.string i,.int .i64 h]/\o.1=.agg [.lit (.string i.data.toList),.lit (.int .i64 h)]:=by
 cases e with
 | zero=>simp[DataW.trod]at g
 | succ e =>
  simp only[DataW.trod,Tryz.underlying286,znb]at g;split at g
  ·rename_i t
   obtain⟨k,l,rfl⟩:∃k l,f=[k,l]:=by
    match f,t with
    | [a,b],_=>exact⟨a,b,rfl⟩
   simp only[Option.map_eq_some_iff,List.mapM_cons,List.mapM_nil,Option.bind_eq_bind,jg,Option.pure_def,jh,zky,zwc]at g;obtain⟨w,⟨x,q,_,⟨y,r,_,rfl,rfl⟩,rfl⟩,u⟩:=g;obtain⟨i,n,rfl,_⟩:=DataW.trod_string Tryz.underlying9 q;obtain⟨h,m,rfl,_⟩:=DataW.trod_int Tryz.underlying3 r;simp at n m;subst n m;refine⟨i,h,rfl,?_⟩;rw[<- u];rfl
  ·cases g
theorem ybo {a b:Value} (c:(f.drop d).take 2=[a,b]):f[d]?=some a/\f[d+1]?=some b:=by
 have e:((f.drop d).take 2)[0]?=some a:=by rw[c];rfl
 have g:((f.drop d).take 2)[1]?=some b:=by rw[c];rfl
 rw[List.getElem?_take_of_lt oA,List.getElem?_drop]at e g;exact⟨e,g⟩
theorem fJ {c:ByteArray} {b:Int} {a:List UInt8} (h:(f.drop (d*2)).take 2=[.string c,.int .i64 b]) (k:c.data.toList=a) (i:opAt d=⟨a.toArray⟩) (j:cV d=b) : (⟨f⟩:Array Value)[d*2]?=some (.string (opAt d))/\(⟨f⟩:Array Value)[d*2+1]?=some (.int .i64 (cV d)):=by
 obtain⟨e,g⟩:=ybo h;rw[i,j,<- ba_of_list k];exact⟨by simpa using e,by simpa using g⟩
abbrev laidL:List (String × DataW Unit):=Rows.checkTellsRow.laid
def znr:String:=(laidL.getD 5 ("",.nil)).1
theorem zrk:Tryz.prog.globalNamed znr=some 3:=oB
theorem zry (a:laidMet Tryz.prog laidL c):qQ c:=by
 have b:=(a.tail).tail.tail;obtain⟨f,g,e,_⟩:=laid_sentinel b gER gERType Tryz.underlying207 ych Tryz.underlying272 Tryz.underlying274 rfl rfl Tryz.underlying9 zyc zky;exact⟨_,by have d:=World.var?_cell gER e 0;simpa using d,.inr ⟨_,_,rfl⟩⟩
theorem zrz (e:laidMet Tryz.prog laidL c):dF c:=by
 obtain⟨ps,⟨aj,d,u,i,az,q,ac,ag,b,a,_,_⟩,_⟩:=e.tail.tail.tail.tail.tail;obtain rfl:=jw (zrk.symm.trans ac);obtain rfl:=jw (zwm.symm.trans ag);obtain⟨h⟩:=u
 have f:∃d fr,c.heap[3]?=some (.cells ⟨h⟩ d fr):=by
  replace b:c.var? Tryz.prog znr=some ⟨h⟩:=b;simp only[World.var?,zrk,jf]at b;split at b;·rename_i ai d fr ad;simp only[jh]at b;exact⟨d,fr,by rw[ad,b]⟩
  ·cases b
 obtain⟨ah,fr,f⟩:=f
 cases i with
 | zero=>simp[DataW.trod]at a
 | succ i =>
  simp only[DataW.trod,Tryz.underlying287,zwd,znb]at a;split at a
  ·rename_i af;have v:List.range 10=[0,1,2,3,4,5,6,7,8,9]:=rfl;rw[v]at a;simp only[Option.map_eq_some_iff,List.mapM_cons,List.mapM_nil,Option.bind_eq_bind,jg,Option.pure_def,jh]at a;obtain⟨aK,⟨aL,e,_,⟨aM,a2,_,⟨aN,a3,_,⟨aO,a5,_,⟨aP,a6,_,⟨aQ,a7,_,⟨aR,a8,_,⟨aS,a9,_,⟨aT,aa,_,⟨aU,ab,_,rfl,rfl⟩,rfl⟩,rfl⟩,rfl⟩,rfl⟩,rfl⟩,rfl⟩,rfl⟩,rfl⟩,rfl⟩,g⟩:=a;obtain⟨aA,am,w,L⟩:=gY e;obtain⟨aB,an,x,M⟩:=gY a2;obtain⟨aC,ao,y,N⟩:=gY a3;obtain⟨aD,ap,z,P⟩:=gY a5;obtain⟨aE,ar,B,Q⟩:=gY a6;obtain⟨aF,au,C,R⟩:=gY a7;obtain⟨aG,av,D,S⟩:=gY a8;obtain⟨aH,aw,E,T⟩:=gY a9;obtain⟨aI,ax,G,V⟩:=gY aa;obtain⟨aJ,ay,K,W⟩:=gY ab;simp only[List.map_cons,List.map_nil,L,M,N,P,Q,R,S,T,V,W]at g;simp[Rows.laid_dryshod_syntax_operators]at g;obtain⟨⟨⟨j,rfl⟩,⟨k,rfl⟩,⟨l,rfl⟩,⟨m,rfl⟩,⟨n,rfl⟩,⟨o,rfl⟩,⟨p,rfl⟩,⟨r,rfl⟩,⟨s,rfl⟩,t,rfl⟩,_⟩:=g;refine⟨⟨h⟩,ah,fr,f,by simpa using af,fun ak ae=>?_⟩;rcases ten ae with rfl | rfl | rfl | rfl | rfl | rfl | rfl | rfl | rfl | rfl
   ·exact fJ w (by rw[j]) rfl rfl
   ·exact fJ x k rfl rfl
   ·exact fJ y l rfl rfl
   ·exact fJ z m rfl rfl
   ·exact fJ B n rfl rfl
   ·exact fJ C o rfl rfl
   ·exact fJ D p rfl rfl
   ·exact fJ E r rfl rfl
   ·exact fJ G s rfl rfl
   ·exact fJ K t rfl rfl
  ·cases a
theorem hasBoth_of_laid (b:laidMetH Tryz.prog laidL c):gJ c:=by
 have a:laidMet Tryz.prog laidL c:=by rw[<- MakeChecks.laidMetH_plain _ _ _ oB];exact b
 exact⟨zry a,zrz a⟩
end syn
namespace chk
open Go.RowKit
open syn face
theorem hasMax_of_shaped {c:World} (h:c.ShapedOpen Tryz.prog):uP c:=by
 obtain⟨b,l,n,m⟩:=h.1 0 #[.int .i64 0] 3 (of_decide_eq_true oB) oB;obtain⟨r,e,_,i⟩:=m oB;have j:Tryz.prog.cellTypes Tryz.prog.depth 3=some [3]:=oB;rw[j]at e;cases e;have d:0<b.size:=by rw[n];decide
 obtain⟨q,o,a⟩:=i 0 b[0] (by simp[d]);have:q=3:=by simpa using o.symm
 subst this;have k:c.cell? ⟨0,0,none⟩=some b[0]:=by simp[World.cell?,l,d]
 have f:Tryz.laysCut_ren.g 1=0:=oB;unfold uP;rw[f,k];unfold Cell.ok at a;rw[Tryz.underlying3]at a;cases p:b[0]<;>rw[p]at a<;>simp at a;exact⟨_,by rw[a.1]⟩
end chk
namespace modelLonger
open Go.ChangeShapes Go.WideShapes Go.ChangeAt Go.RowKit
open Go.ChangeMaps (open_string shut_string)
theorem own:ownKnob Tryz.prog.godebug=none:=oB
theorem laidOut:laidOutB Tryz.prog=true:=oB
theorem stays {h:Type} {k:TypeId × Value->h} {c f:World} {e:TypeId} {v:Value} {j:DataW h} {b:List MemPlace} (g:Tryz.prog.readableRec e=true) (n:e<Tryz.prog.types.size) (p:Below c.heap.size c f) (a:DataW.Trod k Tryz.prog c 0 (fun _=>true) true e v j b) (l:∀q∈b,q.block<c.heap.size) : DataW.Trod k Tryz.prog f 0 (fun i=>decide (i<c.heap.size)) true e v j b:=by
 obtain⟨m,a⟩:=a;have r:c.keptBut f (fun _=>False):=p.frame _
 exact⟨m,DataW.trod_stays (kids_book laidOut g) (book_sized g) (fun a=>by cases a) ⟨n,book_self _⟩ a
  (fun b d=>r.sameAt (l b d) (fun a=>a) (fun i o=>by
   have:=DataW.trod_good (kids_book laidOut g) (fun a=>by cases a) m _ _ _ ⟨n,book_self _⟩ a b d;subst o
   exact this))
  (fun b d=>by simpa using l b d)⟩
theorem zwe (i:Type) (f:TypeId × Value->i) (a:World) (E:Nat) (args:Array Value) (e l:List (DataW i)) (G:List MemPlace) (c:∀(s:Nat) t v,Tryz.f5.params[s]?=some t->args[s]?=some v->Value.okWide Tryz.prog a .any E t v) (g:DataW.Whole f Tryz.prog Tryz.f5.params.toList Rows.modelLongerSpec.vars false a args.toList e l G) (a8:(DataW.weightsEach Tryz.prog (Tryz.f5.params.toList++(OpenSpec.ofChange Rows.modelLongerSpec).bare.plain.varTypes Tryz.prog) (e++l)).all (·<=reachBytes)=true) (W:laidMetH Tryz.prog Rows.modelLongerRow.laid a) (a3:a.ShapedOpen Tryz.prog) : Calls Tryz.prog 5 args a fun k j=>∃v,k=.returned v/\Rows.modelLongerSpec.post f Tryz.prog Tryz.f5 false true false false a args v j:=by
 have a6:=g;have h:=g.lt;obtain⟨ab,q,r,a5,rfl,aC,aD⟩:=g;have p:DataW.TrodAll f Tryz.prog a 0 (fun _=>true) true Tryz.f5.params.toList args.toList e ab:=r;rw[Tryz.params5]at p c a8;obtain⟨u,aW,K,aw,ac,aJ,aB,rfl,rfl,m,af⟩:=trodAll_cons p;obtain⟨w,aX,L,ax,ad,aK,rfl,rfl,rfl,n,ag⟩:=trodAll_cons af;obtain⟨y,aY,M,ay,ae,aL,rfl,rfl,rfl,o,ah⟩:=trodAll_cons ag;obtain⟨z,aZ,au,az,aH,aM,rfl,rfl,rfl,S,ai⟩:=trodAll_cons ah;obtain⟨B,b0,av,aA,aI,aN,rfl,rfl,rfl,T,aj⟩:=trodAll_cons ai;obtain⟨rfl,rfl,rfl⟩:=trodAll_nil aj;obtain rfl:args=#[u,w,y,z,B]:=by cases args;simp_all
 obtain⟨rfl,rfl⟩:=trodVars_none a5;obtain⟨aE,P⟩:=id m;obtain⟨aF,Q⟩:=id n;obtain⟨aG,R⟩:=id o;obtain⟨C,rfl,rfl,rfl,ao⟩:=open_int Tryz.underlying3 (c 3 3 z rfl rfl) S;obtain⟨D,rfl,rfl,rfl,ap⟩:=open_int Tryz.underlying3 (c 4 3 B rfl rfl) T;obtain⟨aO,sl,aP,rfl⟩:=okWide_slice Tryz.underlying33 (c 0 33 u rfl rfl);obtain⟨aQ,aS,aR,rfl⟩:=okWide_slice Tryz.underlying42 (c 1 42 w rfl rfl);obtain⟨aT,aV,aU,rfl⟩:=okWide_slice Tryz.underlying42 (c 2 42 y rfl rfl);obtain⟨ar,b⟩:=ord.open_strsS (x:=(K,ac)) P;obtain⟨aa,V⟩:=mdl.open_intsL (x:=(L,ad)) Q;obtain⟨a9,a2⟩:=mdl.open_intsL (x:=(M,ae)) R;clear r;refine(mdl.longer_walk a ⟨syn.hasBoth_of_laid W,chk.hasMax_of_shaped a3⟩ ar _ _ _ aa a9 C D b V a2).mono fun k j ⟨a7,d⟩=>?_
 subst a7;have ak:=stays oB (of_decide_eq_true oB) d m (fun q b=>h q (by simp[b]));have am:=stays oB (of_decide_eq_true oB) d n (fun q b=>h q (by simp[b]));have an:=stays oB (of_decide_eq_true oB) d o (fun q b=>h q (by simp[b]));exact⟨_,rfl,_,_,_,[],_,[],a6,trodAll_mk1 (shut_bool Tryz.underlying4 _),(trodAll_cons_mk ak (trodAll_cons_mk am (trodAll_cons_mk an (trodAll_cons_mk (shut_int Tryz.underlying3 ao) (trodAll_cons_mk (shut_int Tryz.underlying3 ap) trodAll_mk0))))),rfl,d.frame _,fun N=>by cases N⟩
theorem reads (c:Os) {a:Type} (b:TypeId × Value->a):∃d,DataW.whole b Tryz.prog ((World.laidAll Tryz.prog c syn.laidL).forCall (fun _ _=>0) ⟨#[],#[.slice none 0 0,.slice none 0 0,.slice none 0 0,.int .i64 0,.int .i64 0],[]⟩).memory Tryz.f5.params.toList Rows.modelLongerSpec.vars false #[.slice none 0 0,.slice none 0 0,.slice none 0 0,.int .i64 0,.int .i64 0].toList 8=some ([.nil,.nil,.nil,.lit (.int .i64 0),.lit (.int .i64 0)],[],d) :=
 ⟨[],oB⟩
theorem laid_met (a:Os):laidMetH Tryz.prog syn.laidL ((World.laidAll Tryz.prog a syn.laidL).forCall (fun _ _=>0) ⟨#[],#[.slice none 0 0,.slice none 0 0,.slice none 0 0,.int .i64 0,.int .i64 0],[]⟩).memory:=by
 rw[MakeChecks.laidMetH_plain _ _ _ oB];exact laidMet_laidAll _ oB oB
theorem lifted (b:Os) (q:b.Started) (c:Type) (a:TypeId × Value->c) (d:Stop.Interp) : ReturnsInHanded {} Tryz.checked b 5 .any ((OpenSpec.ofChange Rows.modelLongerSpec).preRow a Tryz.prog Tryz.f5 Rows.modelLongerRow.domain false Rows.modelLongerRow.laid) (((OpenSpec.ofChange Rows.modelLongerSpec).at d).post a Tryz.prog Tryz.f5 false true false false):=by
 obtain⟨t,p⟩:=reads b a
 refine returnsInHanded_of_row (C:=Tryz.checked) (s:=OpenSpec.ofChange Rows.modelLongerSpec) own q oB Tryz.func5
  (witness_row_at (enc:=a) (C:=Tryz.checked) false (World.laidAll Tryz.prog b syn.laidL) #[.slice none 0 0,.slice none 0 0,.slice none 0 0,.int .i64 0,.int .i64 0] (World.laidAll_os _ _ _) oB oB oB
   (OpenSpec.preRow_of_cond 8 p oB (fun r m=>by cases m) oB (laid_met b))) ?_
 intro e f args h i g n l _ _ o j k _;exact zwe c a e f args h i g n l o j k
theorem said:Rows.ModelLongerSaid :=
 OpenClaim.holds_of_cond 5 Tryz.f5 rfl rfl rfl rfl rfl rfl rfl ⟨rfl,rfl,rfl,rfl,rfl⟩ rfl rfl rfl rfl rfl oB Tryz.func5 oB
  (of_decide_eq_true oB) (by unfold Func.isWrapper;first | (rw[jv (by decide +kernel)];kernel_rfl) | (rw[ju (by decide +kernel)];exact⟨rfl,rfl⟩))
  (fun d e b c _ a=>by rw[OpenClaim.pre_eq_preRow];exact lifted d e b c a)
theorem plain (b:FuncId) (c:Func) (f:Tryz.pinned.checked.prog.funcNamed Rows.modelLongerRow.func=some b) (g:Tryz.pinned.checked.prog.funcs[b]?=some c) : true=Tryz.pinned.checked.prog.looks []/\∀(e:Nat) a,c.params[e]?=some a->Tryz.pinned.checked.prog.wantsStandIn a=false:=by
 obtain rfl:b=5:=jw ((show Tryz.prog.funcNamed Rows.modelLongerRow.func=some 5 by kernel_rfl).symm.trans f) |>.symm
 obtain rfl:c=Tryz.f5:=(jw (Tryz.func5.symm.trans g)).symm;refine⟨oB,fun e a d=>?_⟩;rw[Tryz.params5]at d;have h:a=33\/a=42\/a=42\/a=3\/a=3:=by simpa using Array.mem_of_getElem? d
 rcases h with rfl | rfl | rfl | rfl | rfl
 ·exact(show Tryz.prog.wantsStandIn 33=false by kernel_rfl)
 ·exact(show Tryz.prog.wantsStandIn 42=false by kernel_rfl)
 ·exact(show Tryz.prog.wantsStandIn 42=false by kernel_rfl)
 ·exact(show Tryz.prog.wantsStandIn 3=false by kernel_rfl)
 ·exact(show Tryz.prog.wantsStandIn 3=false by kernel_rfl)
theorem card:Rows.ModelLongerCardSaid :=
 Claim7.holds_tied_plain_at .later [] _ _ _ _ said (fun _ a=>by cases a) oB (fun _ a=>by cases a) modelLonger_row_tie rfl ⟨rfl,rfl⟩ oB rfl plain oB
end modelLonger
end Go.Proofs.YtbjppepjmcfkaaaGreatDoor
