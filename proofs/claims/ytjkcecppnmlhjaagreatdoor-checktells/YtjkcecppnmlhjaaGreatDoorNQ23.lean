/- Proved: for every text and every faces, the program tells the same of it as the document's own Check does: whether it is a module that may be, or what is wrong first (law CheckTells), and both arguments read afterwards as they did. Nothing else is asked but what the card says: that the listed variables hold what the program's own text lays there. -/
import Derived.Test.YtjkcecppnmlhjaaGreatDoorNQr
import Derived.Test.YtjkcecppnmlhjaaGreatDoorCards
import Derived.Test.YtjkcecppnmlhjaaGreatDoorTie
import Derived.Stop.LaidErr
import Derived.Lay
import Derived.Test.YtjkcecppnmlhjaaGreatDoorNQ22
import Derived.Deep.Frames
import Derived.Deep.DeepHandedRow
set_option maxHeartbeats 4000000
set_option linter.unusedSimpArgs false
set_option maxRecDepth 100000
set_option linter.unusedVariables false
namespace Go.Proofs.YtjkcecppnmlhjaaGreatDoor
namespace syn
open Go.RowKit
open lexs (qV)
variable {c:World} {d e:Nat} {f:List Value}
theorem gER:Tryz.prog.globalNamed "strconv.ErrRange"=some (Tryz.laysPI_ren.g 16):=by kernel_rfl
theorem gERType:(Tryz.prog.globals[Tryz.laysPI_ren.g 16]?).map (·.type)=some 133:=oD
theorem zxb:Tryz.prog.cellsOf 191=1:=oD
theorem zjl:Tryz.prog.cellsOf 9=1:=oD
theorem zva:Tryz.prog.cellsOf 3=1:=oD
theorem zmv:Tryz.prog.cellsOf 203=2:=oD
theorem zvb:Tryz.prog.cellsOf 204=20:=oD
theorem zp8 : "*" ++ "errors.errorString" = "*errors.errorString":=by decide
theorem ybh (u:TypeId) (h:Tryz.prog.typeName? 3 u=some "*errors.errorString"):u=189 :=
 typeName_ptr_named (nm := "errors.errorString") (by rw[zp8];kernel_rfl) (by kernel_rfl) (by decide) u (by rw[zp8];exact h)
theorem zvo:(Tryz.prog.globals[3]?).map (·.type)=some 204:=oD
theorem ba_of_list {b:ByteArray} {a:List UInt8} (c:b.data.toList=a):b=⟨a.toArray⟩:=by rw[<- c,Lib.mk_data]
theorem gM {j:Type} {p:TypeId × Value->j} {v:Nat->Bool} {s:Bool} {o:DataW j × List MemPlace} (g:DataW.trod p Tryz.prog c d v s e 203 f=some o):∃(i:ByteArray) (h:Int),f=[.string i,.int .i64 h]/\o.1=.agg [.lit (.string i.data.toList),.lit (.int .i64 h)]:=by
 cases e with
 | zero=>simp[DataW.trod]at g
 | succ e =>
  simp only[DataW.trod,Tryz.underlying203,zmv]at g;split at g
  ·rename_i t
   obtain⟨k,l,rfl⟩:∃k l,f=[k,l]:=by
    match f,t with
    | [a,b],_=>exact⟨a,b,rfl⟩
   simp only[Option.map_eq_some_iff,List.mapM_cons,List.mapM_nil,Option.bind_eq_bind,jg,Option.pure_def,jh,zjl,zva]at g;obtain⟨w,⟨x,q,_,⟨y,r,_,rfl,rfl⟩,rfl⟩,u⟩:=g;obtain⟨i,n,rfl,_⟩:=DataW.trod_string Tryz.underlying9 q;obtain⟨h,m,rfl,_⟩:=DataW.trod_int Tryz.underlying3 r;simp at n m;subst n m;refine⟨i,h,rfl,?_⟩;rw[<- u];rfl
  ·cases g
theorem yan {a b:Value} (c:(f.drop d).take 2=[a,b]):f[d]?=some a/\f[d+1]?=some b:=by
 have e:((f.drop d).take 2)[0]?=some a:=by rw[c];rfl
 have g:((f.drop d).take 2)[1]?=some b:=by rw[c];rfl
 rw[List.getElem?_take_of_lt oA,List.getElem?_drop]at e g;exact⟨e,g⟩
theorem gS {c:ByteArray} {b:Int} {a:List UInt8} (h:(f.drop (d*2)).take 2=[.string c,.int .i64 b]) (k:c.data.toList=a) (i:opAt d=⟨a.toArray⟩) (j:dQ d=b) : (⟨f⟩:Array Value)[d*2]?=some (.string (opAt d))/\(⟨f⟩:Array Value)[d*2+1]?=some (.int .i64 (dQ d)):=by
 obtain⟨e,g⟩:=yan h;rw[i,j,<- ba_of_list k];exact⟨by simpa using e,by simpa using g⟩
abbrev laidL:List (String × DataW Unit):=Rows.checkTellsRow.laid
def zm9:String:=(laidL.getD 5 ("",.nil)).1
theorem zqt:Tryz.prog.globalNamed zm9=some 3:=oD
theorem zqw (a:laidMet Tryz.prog laidL c):qV c:=by
 have b:=(a.tail).tail.tail;obtain⟨f,g,e,_⟩:=laid_sentinel b gER gERType Tryz.underlying133 ybh Tryz.underlying189 Tryz.underlying191 rfl rfl Tryz.underlying9 zxb zjl;exact⟨_,by have d:=World.var?_cell gER e 0;simpa using d,.inr ⟨_,_,rfl⟩⟩
theorem zqx (e:laidMet Tryz.prog laidL c):fF c:=by
 obtain⟨ps,⟨ai,d,t,i,ay,az,ab,af,b,a,_,_⟩,_⟩:=e.tail.tail.tail.tail.tail;obtain rfl:=jw (zqt.symm.trans ab);obtain rfl:=jw (zvo.symm.trans af);obtain⟨h⟩:=t
 have f:∃d fr,c.heap[3]?=some (.cells ⟨h⟩ d fr):=by
  replace b:c.var? Tryz.prog zm9=some ⟨h⟩:=b;simp only[World.var?,zqt,jf]at b;split at b;·rename_i ah d fr ac;simp only[jh]at b;exact⟨d,fr,by rw[ac,b]⟩
  ·cases b
 obtain⟨ag,fr,f⟩:=f
 cases i with
 | zero=>simp[DataW.trod]at a
 | succ i =>
  simp only[DataW.trod,Tryz.underlying204,zvb,zmv]at a;split at a
  ·rename_i ae;have u:List.range 10=[0,1,2,3,4,5,6,7,8,9]:=rfl;rw[u]at a;simp only[Option.map_eq_some_iff,List.mapM_cons,List.mapM_nil,Option.bind_eq_bind,jg,Option.pure_def,jh]at a;obtain⟨aK,⟨aL,e,_,⟨aM,W,_,⟨aN,a2,_,⟨aO,a3,_,⟨aP,a5,_,⟨aQ,a6,_,⟨aR,a7,_,⟨aS,a8,_,⟨aT,a9,_,⟨aU,aa,_,rfl,rfl⟩,rfl⟩,rfl⟩,rfl⟩,rfl⟩,rfl⟩,rfl⟩,rfl⟩,rfl⟩,rfl⟩,g⟩:=a;obtain⟨aA,ak,v,K⟩:=gM e;obtain⟨aB,am,w,L⟩:=gM W;obtain⟨aC,an,x,M⟩:=gM a2;obtain⟨aD,ao,y,N⟩:=gM a3;obtain⟨aE,ap,z,P⟩:=gM a5;obtain⟨aF,ar,B,Q⟩:=gM a6;obtain⟨aG,au,C,R⟩:=gM a7;obtain⟨aH,av,D,S⟩:=gM a8;obtain⟨aI,aw,E,T⟩:=gM a9;obtain⟨aJ,ax,G,V⟩:=gM aa;simp only[List.map_cons,List.map_nil,K,L,M,N,P,Q,R,S,T,V]at g;simp[Rows.laid_dryshod_syntax_operators]at g;obtain⟨⟨⟨j,rfl⟩,⟨k,rfl⟩,⟨l,rfl⟩,⟨m,rfl⟩,⟨n,rfl⟩,⟨o,rfl⟩,⟨p,rfl⟩,⟨q,rfl⟩,⟨r,rfl⟩,s,rfl⟩,_⟩:=g;refine⟨⟨h⟩,ag,fr,f,by simpa using ae,fun aj ad=>?_⟩;rcases ten ad with rfl | rfl | rfl | rfl | rfl | rfl | rfl | rfl | rfl | rfl
   ·exact gS v (by rw[j]) rfl rfl
   ·exact gS w k rfl rfl
   ·exact gS x l rfl rfl
   ·exact gS y m rfl rfl
   ·exact gS z n rfl rfl
   ·exact gS B o rfl rfl
   ·exact gS C p rfl rfl
   ·exact gS D q rfl rfl
   ·exact gS E r rfl rfl
   ·exact gS G s rfl rfl
  ·cases a
theorem hasBoth_of_laid (b:laidMetH Tryz.prog laidL c):dA c:=by
 have a:laidMet Tryz.prog laidL c:=by rw[<- MakeChecks.laidMetH_plain _ _ _ oD];exact b
 exact⟨zqw a,zqx a⟩
end syn
namespace chk
open Go.RowKit
open syn face
theorem hasMax_of_shaped {c:World} (h:c.ShapedOpen Tryz.prog):uH c:=by
 obtain⟨b,l,n,m⟩:=h.1 0 #[.int .i64 0] 3 (of_decide_eq_true oD) oD;obtain⟨r,e,_,i⟩:=m oD;have j:Tryz.prog.cellTypes Tryz.prog.depth 3=some [3]:=oD;rw[j]at e;cases e;have d:0<b.size:=by rw[n];decide
 obtain⟨q,o,a⟩:=i 0 b[0] (by simp[d]);have:q=3:=by simpa using o.symm
 subst this;have k:c.cell? ⟨0,0,none⟩=some b[0]:=by simp[World.cell?,l,d]
 have f:Tryz.laysCut_ren.g 1=0:=oD;unfold uH;rw[f,k];unfold Cell.ok at a;rw[Tryz.underlying3]at a;cases p:b[0]<;>rw[p]at a<;>simp at a;exact⟨_,by rw[a.1]⟩
end chk
namespace checkTells
open Go.ChangeShapes Go.WideShapes Go.ChangeAt Go.RowKit
open Go.ChangeMaps (open_string shut_string)
theorem own:ownKnob Tryz.prog.godebug=none:=oD
theorem laidOut:laidOutB Tryz.prog=true:=oD
theorem stays {h:Type} {k:TypeId × Value->h} {c f:World} {e:TypeId} {v:Value} {j:DataW h} {b:List MemPlace} (g:Tryz.prog.readableRec e=true) (row:e<Tryz.prog.types.size) (o:Below c.heap.size c f) (a:DataW.Trod k Tryz.prog c 0 (fun _=>true) true e v j b) (l:∀q∈b,q.block<c.heap.size) : DataW.Trod k Tryz.prog f 0 (fun i=>decide (i<c.heap.size)) true e v j b:=by
 obtain⟨m,a⟩:=a;have p:c.keptBut f (fun _=>False):=o.frame _
 exact⟨m,DataW.trod_stays (kids_book laidOut g) (book_sized g) (fun a=>by cases a) ⟨row,book_self _⟩ a
  (fun b d=>p.sameAt (l b d) (fun a=>a) (fun i n=>by
   have:=DataW.trod_good (kids_book laidOut g) (fun a=>by cases a) m _ _ _ ⟨row,book_self _⟩ a b d;subst n
   exact this))
  (fun b d=>by simpa using l b d)⟩
theorem zvh (l:Type) (g:TypeId × Value->l) (a:World) (C:Nat) (b:Array Value) (f o:List (DataW l)) (D:List MemPlace) (j:∀(k:Nat) t v,Tryz.f3.params[k]?=some t->b[k]?=some v->Value.okWide Tryz.prog a .any C t v) (h:DataW.Whole g Tryz.prog Tryz.f3.params.toList Rows.checkTellsSpec.vars false a b.toList f o D) (u:(DataW.weightsEach Tryz.prog (Tryz.f3.params.toList++(OpenSpec.ofChange Rows.checkTellsSpec).bare.plain.varTypes Tryz.prog) (f++o)).all (·<=reachBytes)=true) (M:laidMetH Tryz.prog Rows.checkTellsRow.laid a) (N:a.ShapedOpen Tryz.prog) : Calls Tryz.prog 3 b a fun n m=>∃v,n=.returned v/\Rows.checkTellsSpec.post g Tryz.prog Tryz.f3 false true false false a b v m:=by
 have Q:=h;have R:=h.lt;obtain⟨V,w,r,P,rfl,ad,ae⟩:=h;have q:DataW.TrodAll g Tryz.prog a 0 (fun _=>true) true Tryz.f3.params.toList b.toList f V:=r;rw[Tryz.params3]at q j u;obtain⟨y,an,a9,aa,ah,ai,ac,rfl,rfl,G,a3⟩:=trodAll_cons q;obtain⟨z,ao,e,ab,W,aj,rfl,rfl,rfl,p,a5⟩:=trodAll_cons a3;obtain⟨rfl,rfl,rfl⟩:=trodAll_nil a5;obtain rfl:b=#[y,z]:=by cases b;simp_all
 obtain⟨rfl,rfl⟩:=trodVars_none P
 have a8:∀c∈e.weights Tryz.prog 22,c<=reachBytes:=fun c T=>by
  have:=List.all_eq_true.1 u c (DataW.weights_mem_each (j:=1) (t:=22) (d:=e) rfl rfl c T);simpa using this
 obtain⟨B,rfl,rfl,rfl,a7⟩:=open_string Tryz.underlying9 (j 0 9 y rfl rfl) G;have K:=p;obtain⟨ag,L⟩:=K;obtain⟨ak,sl,am,rfl⟩:=okWide_slice Tryz.underlying22 (j 1 22 z rfl rfl);obtain⟨a2,i,af⟩:=chk.open_faces (x:=(e,W)) L a8;clear r;refine(chk.tells_walk B a2 _ a ⟨syn.hasBoth_of_laid M,chk.hasMax_of_shaped N⟩ i).mono fun n m ⟨S,s⟩=>?_
 subst S;have a6:=stays oD (of_decide_eq_true oD) s p (fun w i=>R w (by simp[i]));exact⟨_,rfl,_,_,_,[],_,[],Q,trodAll_mk1 (shut_bool Tryz.underlying4 _),(trodAll_cons_mk (shut_string Tryz.underlying9 a7) (trodAll_cons_mk a6 trodAll_mk0)),rfl,s.frame _,fun E=>by cases E⟩
theorem reads (c:Os) {a:Type} (b:TypeId × Value->a):∃d,DataW.whole b Tryz.prog ((World.laidAll Tryz.prog c syn.laidL).forCall (fun _ _=>0) ⟨#[],#[.string ByteArray.empty,.slice none 0 0],[]⟩).memory Tryz.f3.params.toList Rows.checkTellsSpec.vars false #[.string ByteArray.empty,.slice none 0 0].toList 8=some ([.lit (.string []),.nil],[],d) :=
 ⟨[],oD⟩
theorem laid_met (a:Os):laidMetH Tryz.prog syn.laidL ((World.laidAll Tryz.prog a syn.laidL).forCall (fun _ _=>0) ⟨#[],#[.string ByteArray.empty,.slice none 0 0],[]⟩).memory:=by
 rw[MakeChecks.laidMetH_plain _ _ _ oD];exact laidMet_laidAll _ oD oD
theorem lifted (b:Os) (r:b.Started) (c:Type) (a:TypeId × Value->c) (d:Stop.Interp) : ReturnsInHanded {} Tryz.checked b 3 .any ((OpenSpec.ofChange Rows.checkTellsSpec).preRow a Tryz.prog Tryz.f3 Rows.checkTellsRow.domain false Rows.checkTellsRow.laid) (((OpenSpec.ofChange Rows.checkTellsSpec).at d).post a Tryz.prog Tryz.f3 false true false false):=by
 obtain⟨u,q⟩:=reads b a
 refine returnsInHanded_of_row (C:=Tryz.checked) (s:=OpenSpec.ofChange Rows.checkTellsSpec) own r oD Tryz.func3
  (witness_row_at (enc:=a) (C:=Tryz.checked) false (World.laidAll Tryz.prog b syn.laidL) #[.string ByteArray.empty,.slice none 0 0] (World.laidAll_os _ _ _) oD oD oD
   (OpenSpec.preRow_of_cond 8 q oD (fun t n=>by cases n) oD (laid_met b))) ?_
 intro e g f i j h o m _ _ p k l _;exact zvh c a e g f i j h o m p k l
theorem said:Rows.CheckTellsSaid :=
 OpenClaim.holds_of_cond 3 Tryz.f3 rfl rfl rfl rfl rfl rfl rfl ⟨rfl,rfl,rfl,rfl,rfl⟩ rfl rfl rfl rfl rfl oD Tryz.func3 oD
  (of_decide_eq_true oD) (by unfold Func.isWrapper;first | (rw[jv (by decide +kernel)];kernel_rfl) | (rw[ju (by decide +kernel)];exact⟨rfl,rfl⟩))
  (fun d e b c _ a=>by rw[OpenClaim.pre_eq_preRow];exact lifted d e b c a)
theorem plain (b:FuncId) (c:Func) (f:Tryz.pinned.checked.prog.funcNamed Rows.checkTellsRow.func=some b) (g:Tryz.pinned.checked.prog.funcs[b]?=some c) : true=Tryz.pinned.checked.prog.looks []/\∀(e:Nat) a,c.params[e]?=some a->Tryz.pinned.checked.prog.wantsStandIn a=false:=by
 obtain rfl:b=3:=jw ((show Tryz.prog.funcNamed Rows.checkTellsRow.func=some 3 by kernel_rfl).symm.trans f) |>.symm
 obtain rfl:c=Tryz.f3:=(jw (Tryz.func3.symm.trans g)).symm;refine⟨oD,fun e a d=>?_⟩;rw[Tryz.params3]at d;have h:a=9\/a=22:=by simpa using Array.mem_of_getElem? d
 rcases h with rfl | rfl
 ·exact(show Tryz.prog.wantsStandIn 9=false by kernel_rfl)
 ·exact(show Tryz.prog.wantsStandIn 22=false by kernel_rfl)
theorem card:Rows.CheckTellsCardSaid :=
 Claim7.holds_tied_plain_at .later [] _ _ _ _ said (fun _ a=>by cases a) oD (fun _ a=>by cases a) checkTells_row_tie rfl ⟨rfl,rfl⟩ oD rfl plain oD
end checkTells
end Go.Proofs.YtjkcecppnmlhjaaGreatDoor
