/- Faces that come in as a slice: how it is opened. -/
import Derived.Test.YtjkcecppnmlhjaaGreatDoorNQr
import Derived.Test.YtjkcecppnmlhjaaGreatDoorNQ21
set_option maxHeartbeats 4000000
set_option linter.unusedVariables false
set_option linter.unusedSimpArgs false
set_option maxRecDepth 100000
namespace Go.Proofs.YtjkcecppnmlhjaaGreatDoor
theorem oz22y214 {w:Prop} (c:w:=by
 simp[DataW.weights,DataW.weightsEach,Tryz.underlying38,g]):w:=c
namespace chk
open Go.RowKit
open syn face
def zhg (x:ByteArray) (r:Int × Int):Tree:=if r.1=0 then(parse x).tree else .node 0 ⟨#[]⟩ 0 []
theorem vX.ps {d e:World} {f:ByteArray} {a:Int × Int} {c:Ending} (g:vX d f a c e):vJ d ⟨zhg f a,a.1,a.2⟩ c e:=by
 obtain⟨v,k,h,i,j⟩:=g;refine⟨v,k,?_,j⟩;unfold zhg;by_cases b:a.1=0;·rw[jv b];exact h b
 ·rw[ju b,i b];unfold Lies zbh;exact⟨none,0,rfl,oB,oB⟩
theorem tells_walk (d:ByteArray) (D:List FV) (v:Value) (b:World) (a6:zdn b) (w:gA b v D) : Calls Tryz.prog 3 #[.string d,v] b fun l u=>l=.returned (.bool true)/\Below b.heap.size b u:=by
 have ad:=kc25;have ae:=kc28
 obtain⟨e,a,t⟩:∃(e:ByteArray) (a:List Kid),((parse d).code=0->(parse d).tree=.node 1 e 0 (a.map Kid.tree)/\e.size<=16/\(∀k∈a,k.good/\k.named/\vK k)/\kA (a.map Kid.tree)<=900/\a.length<=900/\∀k∈a,k.kids.length<=900):=by
  by_cases m:(parse d).code=0;·obtain⟨e,a,t⟩:=shape5 d m;exact⟨e,a,fun _=>t⟩
  ·exact⟨empty,[],fun S=>absurd S m⟩
 have x:=(zzu d D v e a b a6 w t).mono (fun l u m=>vX.ps m);have y:=fun c (r:Below b.heap.size b c)=>(zz5 (x:=d) (m:=e) (K:=a) v (zhj w r) t).mono (fun l u m=>vX.ps m)
 obtain⟨af,ag,rfl,_,_⟩:=id w;clear w t;generalize ckF d (D.map (·.1)) e a=ab at *
 obtain⟨g,h⟩:=ab;generalize zhg d (g,h)=N at *;unfold vJ at x y;simp only at x y;go_enter Tryz.func3,Tryz.ntmps3;go_wp2_with (fail);refine x.mono ?_;rintro l f ⟨ap,rfl,L,z⟩;obtain⟨n,q,o,_,rfl,i,p,j,rfl⟩:=L.shape;have W:=(Box4.new f (.int .i64 n) (.string q) (.int .i64 o) (.slice i p j) 25).alloc (.cells #[.int .i64 g,.int .i64 h] 28);have E:=Box2.new (f.alloc (.cells #[.int .i64 n,.string q,.int .i64 o,.slice i p j] 25)) (.int .i64 g) (.int .i64 h) 28;rw[jO]at E
 have a5:Lies (·<((f.alloc (.cells #[.int .i64 n,.string q,.int .i64 o,.slice i p j] 25)).alloc (.cells #[.int .i64 g,.int .i64 h] 28)).heap.size) ((f.alloc (.cells #[.int .i64 n,.string q,.int .i64 o,.slice i p j] 25)).alloc (.cells #[.int .i64 g,.int .i64 h] 28)) N (.agg #[.int .i64 n,.string q,.int .i64 o,.slice i p j]) :=
  (Lies.to (w:=f) (w':=f) (fun B r=>r.2) (fun _ _ _=>rfl) L).below ((bal _).alloc oB _)
 have K:Below b.heap.size b ((f.alloc (.cells #[.int .i64 n,.string q,.int .i64 o,.slice i p j] 25)).alloc (.cells #[.int .i64 g,.int .i64 h] 28)):=(z.alloc z.size _).alloc (by have:=z.size;simp;omega) _;have G:=y _ K;clear y x;go_wp2_with (fail);refine G.mono ?_;clear G;rintro l c ⟨ar,rfl,M,s⟩;obtain⟨a8,ac,a9,_,rfl,P,aa,R,rfl⟩:=M.shape;have ah:=z.size;have a7:=s.size;simp only[jO]at a7;obtain⟨ai,aj,ak,am,_,_,_,_⟩:=W.below s;obtain⟨an,ao,_,_⟩:=E.below s;have av:f.heap.size<c.heap.size:=oA;have aw:f.heap.size+1<c.heap.size:=oA;have C:Below c.heap.size c ((c.alloc (.cells #[.int .i64 a8,.string ac,.int .i64 a9,.slice P aa R] 25)).alloc (.cells #[.int .i64 g,.int .i64 h] 28)):=(bal _).alloc oB _;have T:=(a5.below s).below C;have V:=(Lies.to (w:=c) (w':=c) (Q:=fun B=>B<c.heap.size) (fun B r=>r.2) (fun _ _ _=>rfl) M).below C;have a2:=zqq N _ _ _ T V;go_wp2_with (fail);refine a2.mono ?_;rintro l au ⟨rfl,a3⟩;go_wp2;go_ret;exact⟨rfl,(K.trans (s.mono oE)).trans ((C.mono oA).trans (a3.mono oE))⟩
end chk
namespace chk
open Go.RowKit Go.ChangeShapes Go.WideShapes
open syn face
section
variable {H:Type} {enc:TypeId × Value->H} {W:World} {n:Nat}
theorem zh1 {e:Program} {f:TypeId}:∀ {d:List (DataW H)} {c:DataW H},c∈d->∀k∈c.weights e f,k∈DataW.weightsAll e f d
 | [],_,b,_,_=>by cases b
 | a :: d,c,b,k,hk=>by
  rw[DataW.weightsAll,List.mem_append];rcases List.mem_cons.1 b with rfl | b
  ·exact .inl hk
  ·exact .inr (zh1 b k hk)
theorem ztk:Tryz.prog.bytesOf 38=64:=oD
theorem zze:Tryz.prog.cellsOf 35=1:=oD
theorem zzd:Tryz.prog.cellsOf 36=1:=oD
theorem open_faces {v:Value} {x:DataW H × List MemPlace} (c:DataW.trod enc Tryz.prog W 0 (fun _=>true) true n 22 [v]=some x) (t:∀b∈x.1.weights Tryz.prog 22,b<=reachBytes):∃u,gA W v u/\u.length+64<=2199023255552:=by
 rcases Deep.open_slice Tryz.underlying22 c with⟨e,_⟩|⟨f,len,z,V,b,o,a9,e,_,aa,ab,N,rfl,K⟩
 ·simp only[jq,and_true]at e;exact⟨[],⟨none,0,e,oB,fun c=>absurd rfl c⟩,oB⟩
 ·simp only[jq,and_true]at e;simp only[if_true]at N
  have M:len+64<=2199023255552:=by
   have h:=t ((len+(V - len))*64) (by simp[DataW.weights,Tryz.underlying22,ztk]);unfold reachBytes at h;omega
  have E:∀a,a<len->∃d:FV,W.cell? (f.add (a*3))=some (.string d.1.module)/\W.cell? (f.add (a*3+1))=some d.2.1/\W.cell? (f.add (a*3+2))=some d.2.2/\qX W (fvV d) d.1/\d.1.module.size<=maxLen:=by
   intro a hi;obtain⟨B,r,h⟩:=K a oA;rw[xG]at r;obtain⟨_,L,j⟩:=World.cells?_some r;obtain⟨a6,a7,a8,ac,C,_,k,l,m⟩:=Deep.trod_struct3 Tryz.underlying38 h;simp only[zbo,zze,zzd]at k l m
   match B,L with
   | [c0,c1,c2],_ =>
    simp only[List.drop,List.take,List.getElem?_cons_zero,List.getElem?_cons_succ,Option.getD_some]at k l m;obtain⟨a3,p,_,S⟩:=DataW.trod_string Tryz.underlying9 k;simp only[jq,and_true]at p;subst p
    have i:∀b∈(o a).weights Tryz.prog 38,b<=reachBytes:=fun b g=>t b (by
     rw[DataW.weights,Tryz.underlying22]
     exact jF _ (List.mem_append.2 (.inl (zh1 (List.mem_map.2 ⟨a,List.mem_range.2 hi,rfl⟩) b g))))
    have D:o a=.agg [a6.1,a7.1,a8.1]:=by
     have:=congrArg Prod.fst C;simpa using this
    rw[D]at i;obtain⟨a5,T⟩:=zuh l (fun b g=>i b oz22y214);obtain⟨ps,R⟩:=zsu m (fun b g=>i b oz22y214);refine⟨(⟨a3,a5,ps⟩,c1,c2),?_,?_,?_,⟨c1,c2,rfl,T,R⟩,S⟩;·simpa[Deep.add_add] using j 0 oA
    ·simpa[Deep.add_add] using j 1 oA
    ·simpa[Deep.add_add] using j 2 oA
  haveI:Inhabited FaceD:=⟨⟨default,[],[]⟩⟩
  haveI:Inhabited FV:=⟨(default,undef,undef)⟩
  obtain⟨y,s⟩:=Deep.choose_lt E;refine⟨(List.range len).map y,⟨some f,z,by simpa using e,oE,fun P=>?_⟩,by simpa using M⟩
  have Q:0<len:=by
   rcases Nat.eq_zero_or_pos len with c | c
   ·subst c;simp at P
   ·exact c
  have q:=(s 0 Q).1;rw[Nat.zero_mul,Addr.add,jv rfl]at q;obtain⟨G,a2,rfl⟩:=zel q;refine⟨G,a2,rfl,fun a hi=>?_⟩;have:=s a (by simpa using hi);simp only[add_plain]at this;simp only[List.getElem_map,List.getElem_range];exact this
end
end chk
end Go.Proofs.YtjkcecppnmlhjaaGreatDoor
