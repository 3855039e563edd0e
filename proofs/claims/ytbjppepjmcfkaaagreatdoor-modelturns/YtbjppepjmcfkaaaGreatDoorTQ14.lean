/- What take's third closure answers: a contract. -/
import Derived.Test.YtbjppepjmcfkaaaGreatDoorTQr
import Derived.Test.YtbjppepjmcfkaaaGreatDoorTQ13
set_option maxHeartbeats 4000000
set_option linter.unusedVariables false
set_option linter.unusedSimpArgs false
set_option maxRecDepth 100000
namespace Go.Proofs.YtbjppepjmcfkaaaGreatDoor
theorem zmv {p:Prop} (c:p:=by
 cases o:f a with
 | none=>rw[o]at d;exact atKey_of_not_has d _
 | some q=>exact g (.int .i64 q) ⟨q,o,rfl⟩ _):p:=c
theorem zdy {a3:Prop} (a6:a3:=by
 have:=p.size;omega):a3:=a6
theorem zmr {a3:Prop} (a6:a3:=by
 refine oneH 10 fun u q=>?_
 refine step_append_lies _ oG (.tmp 35) (.tmp 40) 119 oG (D+2) 173 b8 (.agg #[.string ⟨#[]⟩,.string ⟨#[]⟩,.slice none 0 0,.slice none 0 0,.slice none 0 0]) 5 104 Tryz.underlying119 hi b2 b6 b7 rfl oD (.slice B L.length C) L.length (uA L) oJ n.row ⟨ap,0,none⟩ 1 1 [.string a,.string l,(.slice b e c),(.slice f d g),(.slice i k j)] oJ rfl aG (by intro M aH;simp at aH;rcases aH with rfl | rfl | rfl | rfl | rfl<;>rfl) oA (by unfold maxLen;omega) oA (by have:=n.lt;omega) (ap+1) an.symm ?_;intro bn bm ar aD K aT bv;have b0:(Value.slice B L.length C).ownBlock≠some (D+1):=fun o=>by have:=(n.row.lt _ o).1;omega
 have aV:=n.push G (by rw[<- aW]at aD;exact aD) K (aT.imp id (fun o=>o.trans an));have aP:=p.grown K (by have:=p.size;omega) (fun a8 o=>by have:=(n.row.lt _ o).1;omega);have am:(Value.slice B L.length C).ownBlock≠some N:=fun o=>by have:=aZ _ o;omega
 have aA:ar.cell? ⟨N,0,none⟩=some (.string l)/\ar.cell? ⟨N,1,none⟩=some (.slice b e c)/\ar.cell? ⟨N,2,none⟩=some (.slice f d g):=⟨far h.1 K am,far h.2.1 K am,far h.2.2 K am⟩
 have ah:=n.box.grown K b0;have V:=ah.cell 0 rfl;have b9:=ah.fz 0;clear n ah h p G;refine q.out _ _ aA (fun s=>?_);clear q u s;have h:=aA;simp only[Act.put,jA,jB,jC];refine tkP 11 (.pointer (some ⟨D+1,0,none⟩)) h ?_;simp only[Act.put,jA,jB,jC];refine tkP 12 (.pointer (some ⟨D+1,0,none⟩)) h ?_;simp only[Act.put,jA,jB,jC];refine oneH 13 fun u q=>?_
 go_simp;refine q.out _ _ ⟨zff oA h.1 _,zff oA h.2.1 _,zff oA h.2.2 _⟩ (fun s=>?_);clear q u s V b9;refine wpAnyH_done oB ?_ _;go_wp2;go_roundw
 case rel=>exact⟨m+1,_,L++[⟨a,(.slice b e c),(.slice f d g),(.slice i k j)⟩],oA,oM,aV,aP.setCell (by show D<=D+1;omega) _,by rw[List.map_append,ag];show r.take m++[a]=_;rw[<- ao];exact take_snoc ak,aK.out⟩
 case measure=>simp[intOf];omega):a3:=a6
theorem zmu {aF:Prop} (a7:aF:=by
 obtain⟨z,K,k,aB⟩:=c.shape;obtain⟨e,C,ad⟩:=aB oA;injection k with B
 exact⟨e,B.trans C,ad a a3⟩):aF:=a7
theorem zgx {j:Prop} (l:j:=by
 obtain⟨u,x,y,z,B,C⟩:=d.cells;go_simp):j:=l
theorem zdz {G:Prop} (K:G:=by
 obtain⟨a9,aa,ab,ac,ad,ae⟩:=f.cells;go_simp):G:=K
theorem zd0 {h:Prop} (G:h:=by
 show e≠w.heap.size;omega):h:=G
theorem zmq {h:Prop} (G:h:=by
 refine tkP 0 (.agg #[.int .i64 0,.string ⟨#[]⟩,.int .i64 0,.slice none 0 0]) ab ?_;simp only[Act.put,jA,jB,jC];refine tkP 1 (.agg #[.int .i64 d,.int .i64 g]) ab ?_;simp only[Act.put,jA,jB,jC];obtain⟨b8,b9,ba,bb,b1,b2,i,z⟩:=T.cells;have bc:=i 0;have be:=i 1;have bf:=i 2;have bg:=i 3;have b6:=z 0;have b7:=z 1;refine oneH 2 fun cj aF=>?_
 go_simp;have cL:BoxC ((((af.setCell ⟨w.heap.size,0,none⟩ (.int .i64 0)).setCell ⟨w.heap.size,1,none⟩ (.string ⟨#[]⟩)).setCell ⟨w.heap.size,2,none⟩ (.int .i64 0)).setCell ⟨w.heap.size,3,none⟩ (.slice none 0 0)) w.heap.size ((((#[.int .i64 0,.string ⟨#[]⟩,.int .i64 0,.slice none 0 0]).setIfInBounds 0 (.int .i64 0)).setIfInBounds 1 (.string ⟨#[]⟩)).setIfInBounds 2 (.int .i64 0) |>.setIfInBounds 3 (.slice none 0 0)) 25:=(((T.n.set 0 _).set 1 _).set 2 _).set 3 _;have aH:BoxC ((((af.setCell ⟨w.heap.size,0,none⟩ (.int .i64 0)).setCell ⟨w.heap.size,1,none⟩ (.string ⟨#[]⟩)).setCell ⟨w.heap.size,2,none⟩ (.int .i64 0)).setCell ⟨w.heap.size,3,none⟩ (.slice none 0 0)) (w.heap.size+1) #[.int .i64 0,.int .i64 0] 28:=(((T.f.other oA _).other oA _).other oA _).other oA _
 have aR:(fun W=>W.cell? ⟨e,0,none⟩=some (.int .i64 d)/\W.cell? ⟨e,1,none⟩=some (.int .i64 g)) ((((af.setCell ⟨w.heap.size,0,none⟩ (.int .i64 0)).setCell ⟨w.heap.size,1,none⟩ (.string ⟨#[]⟩)).setCell ⟨w.heap.size,2,none⟩ (.int .i64 0)).setCell ⟨w.heap.size,3,none⟩ (.slice none 0 0)):=by
  have y:∀K,((((af.setCell ⟨w.heap.size,0,none⟩ (.int .i64 0)).setCell ⟨w.heap.size,1,none⟩ (.string ⟨#[]⟩)).setCell ⟨w.heap.size,2,none⟩ (.int .i64 0)).setCell ⟨w.heap.size,3,none⟩ (.slice none 0 0)).cell? ⟨e,K,none⟩=af.cell? ⟨e,K,none⟩:=fun K=>jN (a:=⟨e,K,none⟩) ((((jQ _ _ _ e zd0).trans (jQ _ _ _ e zd0)).trans (jQ _ _ _ e zd0)).trans (jQ _ _ _ e zd0))
  exact⟨(y 0).trans ab.1,(y 1).trans ab.2⟩
 have df:=aH.cell 0 rfl;have dh:=aH.cell 1 rfl;have di:=aH.fz 0;have dj:=aH.fz 1;obtain⟨C,D,bm⟩:=T.done (.int .i64 0) (.string ⟨#[]⟩) (.int .i64 0) (.slice none 0 0) (.int .i64 d) (.int .i64 g);refine aF.out _ _ aR (fun ai=>?_);clear aF ai b8 b9 ba bb b1 b2 i z bc be bf bg b6 b7 cL aH;generalize ((((af.setCell ⟨w.heap.size,0,none⟩ (.int .i64 0)).setCell ⟨w.heap.size,1,none⟩ (.string ⟨#[]⟩)).setCell ⟨w.heap.size,2,none⟩ (.int .i64 0)).setCell ⟨w.heap.size,3,none⟩ (.slice none 0 0))=bi at *;refine oneH 3 fun cj aF=>?_
 go_simp
 have c8:(fun W=>W.cell? ⟨e,0,none⟩=some (.int .i64 d)/\W.cell? ⟨e,1,none⟩=some (.int .i64 g)) ((bi.setCell ⟨w.heap.size+1,0,none⟩ (.int .i64 d)).setCell ⟨w.heap.size+1,1,none⟩ (.int .i64 g)):=by
  have y:∀K,((bi.setCell ⟨w.heap.size+1,0,none⟩ (.int .i64 d)).setCell ⟨w.heap.size+1,1,none⟩ (.int .i64 g)).cell? ⟨e,K,none⟩=bi.cell? ⟨e,K,none⟩:=fun K=>jN (a:=⟨e,K,none⟩) ((jQ _ _ _ e (by show e≠w.heap.size+1;omega)).trans (jQ _ _ _ e (by show e≠w.heap.size+1;omega)))
  exact⟨(y 0).trans aR.1,(y 1).trans aR.2⟩
 refine aF.out _ _ c8 (fun ai=>?_);clear aF ai df dh di dj c8 aR ab;refine wpAnyH_done oB ?_ _;go_wp2;refine jU (v:=.tuple #[.agg #[.int .i64 0,.string ⟨#[]⟩,.int .i64 0,.slice none 0 0],.agg #[.int .i64 d,.int .i64 g]]) (zgi _ _ _ C D) rfl ?_
 exact za5.mkBad N.out a6 rfl bm):h:=G
theorem zms {h:Prop} (G:h:=by
 generalize s.heap.size+1=e at *;have ab:(fun W=>W.cell? ⟨e,0,none⟩=some (.int .i64 d)/\W.cell? ⟨e,1,none⟩=some (.int .i64 g)) aE.drew:=⟨a3.cell 0 rfl,a3.cell 1 rfl⟩
 refine wp_region_held_drew (S:=fun W=>W.cell? ⟨e,0,none⟩=some (.int .i64 d)/\W.cell? ⟨e,1,none⟩=some (.int .i64 g)) oB ab (fun ai=>?_);clear ai;have T:=u.drew;clear u;generalize aE.drew=af at *
 exact zmq):h:=G
theorem zmt {h:Prop} (G:h:=by
 refine jU (v:=.tuple #[.agg #[.int .i64 0,.string ⟨#[]⟩,.int .i64 0,.slice none 0 0],.agg #[.int .i64 2,.int .i64 0]]) (zgi _ _ _ bA bB) rfl ?_
 exact za5.mkBad N.out oD rfl bC):h:=G
theorem zmw {h:Prop} (G:h:=by
 show _=_;rw[<- P.out];unfold ckF
 rw[ju (by rw[bu];decide),ju (by simp[an]),ae]):h:=G
namespace chk
open Go.RowKit Go.Shelf Go.Maps
open syn face
open lexs (qS)
def gQ (w:World):Prop:=gO w/\uV w
theorem vZ {w w':World} (a:gQ w) (b:Below w.heap.size w w'):gQ w':=⟨zbj a.1 b,zbl a.2 b⟩
def zhc:Value:=.agg #[.int .i64 0,.string ⟨#[]⟩,.int .i64 0,.slice none 0 0]
def za5 (w:World) (x:ByteArray) (r:Int × Int) (e:Ending) (w':World):Prop :=
 ∃v,e=.returned (.tuple #[v,.agg #[.int .i64 r.1,.int .i64 r.2]])/\(r.1=0->Lies (fun b=>w.heap.size<=b/\b<w'.heap.size) w' (parse x).tree v)/\(r.1≠0->v=zhc)/\Below w.heap.size w w'
theorem zgi {W:World} {g h i j d e k l m n:Value} (o:List Value) (b c:Nat) (a:BoxC W b #[g,h,i,j] 25) (f:BoxC W c #[d,e] 28):(results Tryz.f7 (List.toArray (k :: l :: m :: n :: .pointer (some ⟨b,0,none⟩) :: .pointer (some ⟨c,0,none⟩) :: o))).run Tryz.prog W=.ok (.tuple #[.agg #[g,h,i,j],.agg #[d,e]]) W:=by
 have v:=kc25;have w:=kc28;have r:=a.cell 0 rfl;have s:=a.cell 1 rfl;have t:=a.cell 2 rfl;have u:=a.cell 3 rfl;have p:=f.cell 0 rfl;have q:=f.cell 1 rfl;simp[results,Tryz.f7,go_sem,r,s,t,u,p,q]
section
variable {w W:World} {N:Nat}
structure RB (w W:World) (N:Nat):Prop where
 n:BoxC W N #[.int .i64 0,.string ⟨#[]⟩,.int .i64 0,.slice none 0 0] 25
 f:BoxC W (N+1) #[.int .i64 0,.int .i64 0] 28
 b:Below w.heap.size w W
 hN:w.heap.size=N
theorem RB.below (a:RB w W N) {d:World} (c:Below W.heap.size W d):RB w d N:=⟨a.n.below c,a.f.below c,a.b.trans (c.mono a.b.size),a.hN⟩
theorem RB.alloc (b:RB w W N) (a:Obj):RB w (W.alloc a) N:=b.below (bal a)
theorem RB.grown (a:RB w W N) {d:World} {b:Nat} (c:W.grownBy d (some b)) (g:N+1<b):RB w d N:=⟨a.n.grown c oE,a.f.grown c oE,a.b.grown c a.b.size (fun h e=>by injection e with e;have:=a.hN;omega),a.hN⟩
theorem RB.cells (a:RB w W N):W.cell? ⟨N,0,none⟩=some (.int .i64 0)/\W.cell? ⟨N,1,none⟩=some (.string ⟨#[]⟩)/\W.cell? ⟨N,2,none⟩=some (.int .i64 0)/\W.cell? ⟨N,3,none⟩=some (.slice none 0 0)/\W.cell? ⟨N+1,0,none⟩=some (.int .i64 0)/\W.cell? ⟨N+1,1,none⟩=some (.int .i64 0)/\(∀b,W.frozen? ⟨N,b,none⟩=false)/\∀b,W.frozen? ⟨N+1,b,none⟩=false :=
 ⟨a.n.cell 0 rfl,a.n.cell 1 rfl,a.n.cell 2 rfl,a.n.cell 3 rfl,a.f.cell 0 rfl,a.f.cell 1 rfl,a.n.fz,a.f.fz⟩
theorem RB.done (j:RB w W N) (e g h i a c:Value):BoxC ((((((W.setCell ⟨N,0,none⟩ e).setCell ⟨N,1,none⟩ g).setCell ⟨N,2,none⟩ h).setCell ⟨N,3,none⟩ i).setCell ⟨N+1,0,none⟩ a).setCell ⟨N+1,1,none⟩ c) N #[e,g,h,i] 25/\BoxC ((((((W.setCell ⟨N,0,none⟩ e).setCell ⟨N,1,none⟩ g).setCell ⟨N,2,none⟩ h).setCell ⟨N,3,none⟩ i).setCell ⟨N+1,0,none⟩ a).setCell ⟨N+1,1,none⟩ c) (N+1) #[a,c] 28/\Below w.heap.size w ((((((W.setCell ⟨N,0,none⟩ e).setCell ⟨N,1,none⟩ g).setCell ⟨N,2,none⟩ h).setCell ⟨N,3,none⟩ i).setCell ⟨N+1,0,none⟩ a).setCell ⟨N+1,1,none⟩ c):=by
 have d:w.heap.size<=N:=Nat.le_of_eq j.hN;refine⟨((((((j.n.set 0 e).set 1 g).set 2 h).set 3 i).other (b:=N+1) (o:=0) oA a).other (b:=N+1) (o:=1) oA c),(((((j.f.other (b:=N) (o:=0) oA e).other (b:=N) (o:=1) oA g).other (b:=N) (o:=2) oA h).other (b:=N) (o:=3) oA i).set 0 a).set 1 c,?_⟩;exact(((((j.b.setCell (p:=⟨N,0,none⟩) d _).setCell (p:=⟨N,1,none⟩) d _).setCell (p:=⟨N,2,none⟩) d _).setCell (p:=⟨N,3,none⟩) d _).setCell (p:=⟨N+1,0,none⟩) (Nat.le_succ_of_le d) _).setCell (p:=⟨N+1,1,none⟩) (Nat.le_succ_of_le d) _
theorem RB.drew (a:RB w W N):RB w W.drew N:=⟨a.n,a.f,a.b.drew,a.hN⟩
theorem za5.mkBad {w W:World} {j:ByteArray} {b:Int × Int} {a d:Int} {c:Ending} (f:b=(a,d)) (h:a≠0) (i:c=.returned (.tuple #[zhc,.agg #[.int .i64 a,.int .i64 d]])) (g:Below w.heap.size w W):za5 w j b c W:=by
 subst f;exact⟨_,i,fun e=>absurd e h,fun _=>rfl,g⟩
end
theorem ybn (o:ByteArray) (a:List FV) (bF:Value) (r:ByteArray) (j:List Kid) (w:World) (aM:gQ w) (co:cD w bF a) (aD:(parse o).code=0->(parse o).tree=.node 1 r 0 (j.map Kid.tree)/\r.size<=16/\(∀L∈j,L.good/\L.named/\gE L)/\kC (j.map Kid.tree)<=900/\j.length<=900/\∀L∈j,L.kids.length<=900) : Calls Tryz.prog 7 #[.string o,bF] w (za5 w o (ckF o (a.map (·.1)) r j)):=by
 have dq:=kc25;have dr:=kc28;have ds:Tryz.prog.cellsOf 55=3:=xW;have e0:=@run_makeMap Tryz.prog;obtain⟨a2,P⟩:∃a2,Hid (ckF o (a.map (·.1)) r j=a2):=⟨_,rfl⟩
 rw[P.out];obtain⟨bj,dp,rfl,e1,aZ⟩:=co
 have aA:∀h∈a,zP w (fvV h) h.1:=fun h d0=>by
  obtain⟨K,hi,rfl⟩:=List.mem_iff_getElem.1 d0;obtain⟨cn,y,_,aT⟩:=aZ (fun Q=>by rw[Q]at hi;cases hi);exact(aT K hi).2.2.2.1
 have p:RB w (((w.alloc (.cells #[.int .i64 0,.string ⟨#[]⟩,.int .i64 0,.slice none 0 0] 25)).alloc (.cells #[.int .i64 0,.int .i64 0] 28)).alloc (.map #[] 0)) w.heap.size:=by
  refine⟨((BoxC.new w _ _).alloc _).alloc _,?_,((bal _).alloc oC _).alloc oE _,rfl⟩;have:=(BoxC.new (w.alloc (.cells #[.int .i64 0,.string ⟨#[]⟩,.int .i64 0,.slice none 0 0] 25)) #[.int .i64 0,.int .i64 0] 28).alloc (.map #[] 0);rw[jP]at this;exact this
 have a9:kI (((w.alloc (.cells #[.int .i64 0,.string ⟨#[]⟩,.int .i64 0,.slice none 0 0] 25)).alloc (.cells #[.int .i64 0,.int .i64 0] 28)).alloc (.map #[] 0)) (w.heap.size+1+1) 0 (fun k=>fvO (vC [] k)):=by
  have:=kI.made ((w.alloc (.cells #[.int .i64 0,.string ⟨#[]⟩,.int .i64 0,.slice none 0 0] 25)).alloc (.cells #[.int .i64 0,.int .i64 0] 28));rw[jP,jP]at this;exact this
 go_enter Tryz.func7,Tryz.ntmps7;go_wp2;generalize (((w.alloc (.cells #[.int .i64 0,.string ⟨#[]⟩,.int .i64 0,.slice none 0 0] 25)).alloc (.cells #[.int .i64 0,.int .i64 0] 28)).alloc (.map #[] 0))=dm at *;go_loopw [20] (fun t wr=>∃c:Nat,c<=a.length/\t=.int .i64 c/\RB w wr w.heap.size/\kI wr (w.heap.size+1+1) c (fun k=>fvO (vC (a.take c) k))/\Hid (gW [] (a.map (·.1))=gW ((a.map (·.1)).take c) ((a.map (·.1)).drop c))) (fun t _=>a.length - (intOf t).toNat)
 case atStart=>exact⟨0,jz _,rfl,p,a9,by show _=_;simp⟩
 case round =>
  clear p a9;obtain⟨c,dy,rfl,p,a9,aL⟩:=hrel;by_cases aJ:c<a.length
  ·obtain⟨cn,y,rfl,aT⟩:=aZ (by intro Q;rw[Q]at aJ;simp at aJ);obtain⟨cg,x,ch,aV,aY⟩:=aT c aJ;have cg:=keep cg p.b;have x:=keep x p.b;have ch:=keep ch p.b;have aV:=aV.below p.b;have bv:=zu2 (a.map (·.1)) c (by simpa using aJ)
   rw[List.getElem_map]at bv;have ad:=zvc (a.take c) a[c].1.module;rw[List.map_take]at ad;have aC:=zvd (a.take c) a[c];rw[List.map_take]at aC;have cf:a.take (c+1)=a.take c++[a[c]]:=List.take_succ_eq_append_getElem aJ;rw[<- cf]at aC;have ay:Hid _:=aL.out.trans bv;clear aZ aT bv cf aL;generalize d4:a[c]=q at *;clear d4;obtain⟨dt,ag,ao,C,ah,ap,D,aK⟩:=zfq aV;obtain⟨l,e9,g⟩:=q;unfold fvV at aK;dsimp only at *;injection aK with aK;simp only[Array.mk.injEq,jq,and_true]at aK;obtain⟨_,rfl,rfl⟩:=aK;have c7:=p.alloc (.cells #[.string l.module,.slice ag ao C,.slice ah ap D] 55);have bp:kI (wr.alloc (.cells #[.string l.module,.slice ag ao C,.slice ah ap D] 55)) (w.heap.size+1+1) c (fun k=>fvO (vC (a.take c) k)):=a9.below (bal _);have dx:=a9.lt
   cases aB:vC (a.take c) l.module with
   | some V =>
    have d1:V∈a:=List.mem_of_mem_take (List.mem_of_find?_eq_some aB);obtain⟨d6,B,M,E,ck,d5,cm,d2⟩:=zfq (aA V d1);have az:=c7.alloc (.cells #[.string d6,.slice B M E,.slice ck d5 cm] 55)
    have N:Hid (a2=(2,0)):=by
     show _=_;rw[<- P.out];unfold ckF;rw[jv];rw[ay.out];rw[aB]at ad;rw[<- ad];rfl
    clear ay P aC ad aD aA;obtain⟨b8,b9,ba,bb,b1,b2,i,z⟩:=az.cells;have bc:=i 0;have be:=i 1;have bf:=i 2;have bg:=i 3;have b6:=z 0;have b7:=z 1
    go_wp2_with first
     | (at_lookup;refine zbq (f:=fun k=>fvO (vC (a.take c) k)) rfl _ _ rfl rfl bp l.module aY rfl ?_;rw[aB,show fvO (some V)=some (fvV V)from rfl,d2])
     | go_in
    obtain⟨bA,bB,bC⟩:=az.done (.int .i64 0) (.string ⟨#[]⟩) (.int .i64 0) (.slice none 0 0) (.int .i64 2) (.int .i64 0)
    exact zmt
   | none =>
    have az:=c7.alloc (.cells #[.string ⟨#[]⟩,.slice none 0 0,.slice none 0 0] 55);have bG:Below wr.heap.size wr ((wr.alloc (.cells #[.string l.module,.slice ag ao C,.slice ah ap D] 55)).alloc (.cells #[.string ⟨#[]⟩,.slice none 0 0,.slice none 0 0] 55)):=(bal _).alloc oC _;have cw:=aV.below bG;have cp:qS ((wr.alloc (.cells #[.string l.module,.slice ag ao C,.slice ah ap D] 55)).alloc (.cells #[.string ⟨#[]⟩,.slice none 0 0,.slice none 0 0] 55)):=(vZ aM az.b).1.1;have aQ:=(BoxC.new wr #[.string l.module,.slice ag ao C,.slice ah ap D] 55).alloc (.cells #[.string ⟨#[]⟩,.slice none 0 0,.slice none 0 0] 55);have dc:=aQ.cell 0 rfl;have dd:=aQ.cell 1 rfl;have de:=aQ.cell 2 rfl;have cr:=a9.below bG;have aO:=ydw l _ _ cp cw;unfold fvV at aO;dsimp only at aO
    have aS:(List.take c (a.map (·.1))).any (fun h=>eqS h.module l.module)=false:=by
     rw[aB]at ad;exact ad.symm
    cases aX:cU l with
    | false =>
     have N:Hid (a2=(2,0)):=by
      show _=_;rw[<- P.out];unfold ckF;rw[jv];rw[ay.out,aX];simp
     clear ay P aC ad aD aA aS
     go_wp2_with first
      | (at_lookup;refine zbq (f:=fun k=>fvO (vC (a.take c) k)) rfl _ _ rfl rfl bp l.module aY rfl ?_;rw[aB,show fvO none=(none:Option Value)from rfl];unfold vQ)
      | (go_at_call 15;refine aO.mono ?_;rintro Q m ⟨rfl,a5⟩;rw[aX];have T:=az.below a5;obtain⟨b8,b9,ba,bb,b1,b2,i,z⟩:=T.cells;have bc:=i 0;have be:=i 1;have bf:=i 2;have bg:=i 3;have b6:=z 0;have b7:=z 1)
      | go_in
     obtain⟨bA,bB,bC⟩:=T.done (.int .i64 0) (.string ⟨#[]⟩) (.int .i64 0) (.slice none 0 0) (.int .i64 2) (.int .i64 0)
     exact zmt
    | true =>
     have ci:Hid (gW [] (a.map (·.1))=gW ((a.map (·.1)).take (c+1)) ((a.map (·.1)).drop (c+1))):=by
      show _=_;rw[ay.out,aX,aS];simp
     have cy:=aC aS;clear ay aC ad aS
     go_wp2_with first
      | (at_lookup;refine zbq (f:=fun k=>fvO (vC (a.take c) k)) rfl _ _ rfl rfl bp l.module aY rfl ?_;rw[aB,show fvO none=(none:Option Value)from rfl];unfold vQ)
      | (go_at_call 15;refine aO.mono ?_;rintro Q m ⟨rfl,a5⟩;rw[aX];have T:=az.below a5;have ct:=cr.below a5;have bq:=aQ.below a5;have dc:=bq.cell 0 rfl;have dd:=bq.cell 1 rfl;have de:=bq.cell 2 rfl)
      | (at_mapUpdate;refine zux rfl _ _ _ rfl rfl ct (by unfold maxLen;omega) l.module aY rfl (.agg #[.string l.module,.slice ag ao C,.slice ah ap D]) rfl ?_;intro ef bS cx)
      | go_in
     have aa:=T.grown cx oA;rw[show(fun k=>if eqS k l.module then some (Value.agg #[.string l.module,.slice ag ao C,.slice ah ap D])else fvO (vC (a.take c) k))=fun k=>fvO (vC (a.take (c+1)) k)from cy]at bS;exact⟨⟨c+1,oA,oC,aa,bS,ci⟩,by simp[intOf];omega⟩
  ·skip;obtain rfl:c=a.length:=oA;rw[jG (jE _)]at a9
   have bu:gW [] (a.map (·.1))=false:=by
    rw[aL.out,List.drop_eq_nil_of_le oC];rfl
   clear aL aZ;have bP:=vZ aM p.b;by_cases an:(parse o).code=0
   ·obtain⟨b0,cH,aN,cq,bR,bo⟩:=aD an;have R:=zqu o r j wr bP.1 an b0 cH (fun L aI=>(aN L aI).1) oA (fun L aI=>by have:=bo L aI;omega);unfold xC at R;rw[zb7]at R
    cases ae:kV r j [] [] 1 with
    | some q =>
     have a6:¬q.1=0:=by have:=zc5 r j _ _ _ q ae;omega
     have N:Hid (a2=q):=by
      exact zmw
     rw[ae]at R;obtain⟨d,g⟩:=q;dsimp only at R a6;have ce:(d != 0)=true:=by simp[a6]
     clear P ae aD aA b0 aN cq bR bo;go_wp2_with (go_at_call 16;refine R.mono ?_;rintro Q s ⟨rfl,ac⟩;have u:=((p.below ac).alloc (.cells #[.string ⟨#[]⟩,.slice none 0 0,.slice none 0 0] 55)).alloc (.cells #[.int .i64 d,.int .i64 g] 28));have a3:=BoxC.new (s.alloc (.cells #[.string ⟨#[]⟩,.slice none 0 0,.slice none 0 0] 55)) #[.int .i64 d,.int .i64 g] 28;rw[jP]at a3;have cd:w.heap.size+1<s.heap.size+1:=by have:=(p.below ac).f.lt;omega
     generalize (s.alloc (.cells #[.string ⟨#[]⟩,.slice none 0 0,.slice none 0 0] 55)).alloc (.cells #[.int .i64 d,.int .i64 g] 28)=aE at *
     exact zms
    | none =>
     rw[ae]at R
     have N:Hid (a2=nz ((moF (qQ true r j) (a.map (·.1)) j [] 1).getD (0,0))):=by
      exact zmw
     have cz:=zzn ae aN;have cR:=yb3 ae;clear P ae aD aN;have aP:=fun W (cu:gO W)=>ze1 o W cu
     unfold fP at aP;rw[an,b0]at aP;generalize (parse o).place=V at *;go_wp2_with (go_at_call 16;refine R.mono ?_;rintro Q s ⟨dn,dl,dk,da,e5,bh,_,rfl,bn,_,_,cb,ac⟩;obtain⟨av,aw,rfl⟩:=bn.shapeV;obtain⟨ar,au,rfl⟩:=bn.shapeP;obtain⟨e3,e4,rfl,_,_⟩:=lexs.own_shape cb;clear bn cb);have ca:Below wr.heap.size wr ((s.alloc (.cells #[.string r,.slice av (kW false j).length aw,.slice ar bh.length au] 55)).alloc (.cells #[.int .i64 0,.int .i64 0] 28)):=ac.trans ((((Below.refl s.heap.size s).alloc (jE _) _).alloc oC _).mono ac.size);have u:=p.below ca;have bX:=a9.below ca;have bM:=vZ aM u.b;have dw:=u.f.lt;refine(aP ((s.alloc (.cells #[.string r,.slice av (kW false j).length aw,.slice ar bh.length au] 55)).alloc (.cells #[.int .i64 0,.int .i64 0] 28)) bM.1).mono ?_;clear aP R;generalize ((s.alloc (.cells #[.string r,.slice av (kW false j).length aw,.slice ar bh.length au] 55)).alloc (.cells #[.int .i64 0,.int .i64 0] 28))=aE at *;rintro Q m ⟨ee,rfl,aW,a5⟩;obtain⟨x,a8,M,B,a7,E,rfl⟩:=lies_shape aW;have ak:Below m.heap.size m ((m.alloc (.cells #[.int .i64 x,.string a8,.int .i64 M,.slice B a7 E] 25)).alloc (.cells #[.int .i64 0,.int .i64 V] 28)):=((Below.refl m.heap.size m).alloc (jE _) _).alloc oC _;have aa:=(u.below a5).below ak;have c6:=(bX.below a5).below ak;have bN:=vZ aM aa.b;have br:BoxC ((m.alloc (.cells #[.int .i64 x,.string a8,.int .i64 M,.slice B a7 E] 25)).alloc (.cells #[.int .i64 0,.int .i64 V] 28)) m.heap.size #[.int .i64 x,.string a8,.int .i64 M,.slice B a7 E] 25:=(BoxC.new m _ _).alloc _;have cc:Lies (·<((m.alloc (.cells #[.int .i64 x,.string a8,.int .i64 M,.slice B a7 E] 25)).alloc (.cells #[.int .i64 0,.int .i64 V] 28)).heap.size) ((m.alloc (.cells #[.int .i64 x,.string a8,.int .i64 M,.slice B a7 E] 25)).alloc (.cells #[.int .i64 0,.int .i64 V] 28)) (.node 1 r 0 (j.map Kid.tree)) (.agg #[.int .i64 x,.string a8,.int .i64 M,.slice B a7 E]):=aW.to (fun b aj=>jo aj.2 ak.size) (fun b aj y=>ak.cell (p:=⟨b,y,none⟩) aj.2)
     have bK:=zzx (gf:=vC a) (a.map (·.1)) r j _ ((m.alloc (.cells #[.int .i64 x,.string a8,.int .i64 M,.slice B a7 E] 25)).alloc (.cells #[.int .i64 0,.int .i64 V] 28)) (zxb a) (fun k q d3=>(aA q (List.mem_of_find?_eq_some d3)).below aa.b) (fun f cv=>zzq (zk6 _ _ bu f cv)) c6 bN.2 cc bR cz (fun L aI=>by have:=bo L aI;omega) oA cR
     have e2:=a5.size;clear cc c6 bX bN bM;go_wp2_with (fail);refine bK.mono ?_;clear bK;rintro Q ax ⟨rfl,am⟩;generalize (moF (qQ true r j) (a.map (·.1)) j [] 1).getD (0,0)=db at *
     obtain⟨d,g⟩:=db;dsimp only;have u:=(aa.below am).alloc (.cells #[.int .i64 d,.int .i64 g] 28);have aG:=(br.below am).alloc (.cells #[.int .i64 d,.int .i64 g] 28);have a3:=BoxC.new ax #[.int .i64 d,.int .i64 g] 28;have cd:w.heap.size+1<ax.heap.size:=(aa.below am).f.lt;have bs:Below m.heap.size m (ax.alloc (.cells #[.int .i64 d,.int .i64 g] 28)):=ak.trans ((am.trans (((Below.refl ax.heap.size ax).alloc (jE _) _).mono am.size)).mono ak.size);have dz:w.heap.size+1<aE.heap.size:=oA;by_cases a6:d=0
     ·subst a6;have bw:Hid (a2=(0,0)):=N.out;have ea:=aG.cell 0 rfl;have eb:=aG.cell 1 rfl;have ec:=aG.cell 2 rfl;have ed:=aG.cell 3 rfl;obtain⟨b8,b9,ba,bb,b1,b2,i,z⟩:=u.cells;have bc:=i 0;have be:=i 1;have bf:=i 2;have bg:=i 3;have b6:=z 0;have b7:=z 1;obtain⟨C,D,bm⟩:=u.done (.int .i64 x) (.string a8) (.int .i64 M) (.slice B a7 E) (.int .i64 0) (.int .i64 0);clear N am aa br a3;go_wp2;refine jU (v:=.tuple #[.agg #[.int .i64 x,.string a8,.int .i64 M,.slice B a7 E],.agg #[.int .i64 0,.int .i64 0]]) (zgi _ _ _ C D) rfl ?_;refine⟨_,by rw[bw.out],fun _=>?_,fun G=>absurd (by rw[bw.out]) G,bm⟩;rw[b0];refine aW.to ?lsz ?lcl
      case lsz =>
       intro b aj;refine⟨oA,?_⟩;simp only[jR];exact jo aj.2 bs.size
      case lcl =>
       intro b aj y;refine(jN (a:=⟨b,y,none⟩) ?_).trans (bs.cell (p:=⟨b,y,none⟩) aj.2);have aU:b≠w.heap.size:=oA;have c9:b≠w.heap.size+1:=oA;exact(((((jQ _ _ _ b c9).trans (jQ _ _ _ b c9)).trans (jQ _ _ _ b aU)).trans (jQ _ _ _ b aU)).trans (jQ _ _ _ b aU)).trans (jQ _ _ _ b aU)
     ·replace N:Hid (a2=(d,g)):=N.out.trans (ju a6);have ce:(d != 0)=true:=by simp[a6]
      clear bs am aa br aG aW ak;go_wp2;generalize ax.alloc (.cells #[.int .i64 d,.int .i64 g] 28)=bz at *;generalize ax.heap.size=e at *;have ab:(fun W=>W.cell? ⟨e,0,none⟩=some (.int .i64 d)/\W.cell? ⟨e,1,none⟩=some (.int .i64 g)) bz.drew:=⟨a3.cell 0 rfl,a3.cell 1 rfl⟩
      refine wp_region_held_drew (S:=fun W=>W.cell? ⟨e,0,none⟩=some (.int .i64 d)/\W.cell? ⟨e,1,none⟩=some (.int .i64 g)) oB ab (fun ai=>?_);clear ai;have T:=u.drew;clear u;generalize bz.drew=af at *;exact zmq
   ·have N:Hid (a2=((parse o).code,(parse o).place)):=by
     show _=_;rw[<- P.out];unfold ckF;rw[ju (by rw[bu];decide),jv an]
    have R:=zoa o wr bP.1 an;clear P aD aA;generalize (parse o).code=d at *;generalize (parse o).place=g at *;have a6:¬d=0:=an;have ce:(d != 0)=true:=by simp[a6]
    go_wp2_with (go_at_call 16;refine R.mono ?_;rintro Q s ⟨du,e8,rfl,⟨dk,da,rfl,⟨av,aw,rfl,_⟩,⟨ar,au,rfl,_⟩⟩,⟨e6,e7,rfl,_⟩,ac⟩;have u:=((p.below ac).alloc (.cells #[.string yY.module,.slice av yY.vars.length aw,.slice ar yY.procs.length au] 55)).alloc (.cells #[.int .i64 d,.int .i64 g] 28));have a3:=BoxC.new (s.alloc (.cells #[.string yY.module,.slice av yY.vars.length aw,.slice ar yY.procs.length au] 55)) #[.int .i64 d,.int .i64 g] 28;rw[jP]at a3;have cd:w.heap.size+1<s.heap.size+1:=by have:=(p.below ac).f.lt;omega
    generalize (s.alloc (.cells #[.string yY.module,.slice av yY.vars.length aw,.slice ar yY.procs.length au] 55)).alloc (.cells #[.int .i64 d,.int .i64 g] 28)=aE at *;exact zms
end chk
namespace ord
open Go.RowKit Go.Shelf
open syn face chk
def holes (Q:Nat->Bool) (w:World):World:={ w with heap:=w.heap.mapIdx fun i o=>if Q i then .cells #[] 0 (0,0)else o }
variable {d:Nat->Bool} {g j:Nat} {s:List ByteArray} {u B:ByteArray}
theorem zfl {b:Nat} (w:World) (a:d b=false):(holes d w).heap[b]?=w.heap[b]?:=by
 simp[holes,a]
theorem zjq {w:World} {a:Addr} {v:Value} (b:(holes d w).cell? a=some v):d a.block=false/\w.cell? a=some v:=by
 cases c:d a.block with
 | false=>exact⟨rfl,by rw[<- jN (zfl w c)];exact b⟩
 | true =>
  exfalso;have f:a.block<(holes d w).heap.size:=jS _ a b
  have e:(holes d w).heap[a.block]?=some (.cells #[] 0 (0,0)):=by
   have g:a.block<w.heap.size:=by simpa[holes] using f
   simp[holes,c,g]
  simp[World.cell?,e]at b
theorem zjr {w:World} {a:Addr} {v:Value} (c:d a.block=false) (b:w.cell? a=some v):(holes d w).cell? a=some v:=by
 rw[jN (zfl w c)];exact b
def zbh (n:Nat) (b:Nat):Bool:=decide (b<n)
theorem zgb {w:World} {c:TypeId} {v:Value} {n:Nat} {h:List Value} (a:w.ownsRow g c j v n h) (l:∀b,g<=b->d b=false):(holes d w).ownsRow g c j v n h:=by
 refine⟨a.1,?_⟩;rcases a.2 with a | ⟨e,i,k,o,f,m,p⟩
 ·exact .inl a
 ·exact .inr ⟨e,i,k,o,f,(zfl w (l e f)).trans m,p⟩
theorem FR.holes {i:Nat->Prop} {w:World} {k j:Value} {h:List VarD} {f:List (ProcD × Value)} (a:FR i g w k j h f) (e:∀b,g<=b->d b=false):FR i g (ord.holes d w) k j h f :=
 ⟨zgb a.ov e,zgb a.op e,fun q m=>(a.par q m).to (fun b c=>⟨c.1,by simpa[ord.holes] using c.2.1,c.2.2⟩) (fun b c n v l=>zjr (e b c.1) l),a.dj,a.xv,a.xp⟩
def ze7 (w:World) (f:FaceD) (l:List ByteArray) (c a:Int) (e:Ending) (w':World):Prop :=
 ∃b lv,e=.returned (.tuple #[b,lv,.agg #[.int .i64 c,.int .i64 a]])/\zP (holes (zbh w.heap.size) w') b f/\zH (holes (zbh w.heap.size) w') lv l/\Below w.heap.size w w'
theorem xC.new {w:World} {c:List Kid} {d:Ending} {w':World} (a:xC w u c d w') : (match kV u c [] [] 1 with
   | some d=>ze7 w yY [] d.1 d.2
   | none=>ze7 w (qQ false u c) (kS c) 0 0) d w':=by
 unfold xC at a;rw[zb7]at a
 cases g:kV u c [] [] 1 with
 | some q =>
  rw[g]at a
  exact⟨_,_,a.1,zkn _,zko _,a.2⟩
 | none =>
  rw[g]at a;obtain⟨o,h,y,x,v,i,r,n,k,e,t,hi,m⟩:=a;have f:∀b,h<=b->zbh w.heap.size b=false:=fun b a=>by unfold zbh;simp;omega
  have s:=zb4 false c;have l:i.length<=1000:=by have j:=congrArg List.length e;have p:=zbt false c;rw[List.length_map]at j;omega
  refine⟨_,_,n,?_,strs_own (zgb hi f),m⟩;have:=(FR.holes k f).face (m:=u) oA l;rw[e]at this;exact this
theorem zH.mono {w w':World} (g:∀a v,w.cell? a=some v->w'.cell? a=some v) {v:Value} (f:zH w v s):zH w' v s:=by
 obtain⟨a,b,c,j,i⟩:=f;refine⟨a,b,c,j,fun k=>?_⟩;obtain⟨e,m,d,h⟩:=i k;exact⟨e,m,d,fun l hi=>g _ _ (h l hi)⟩
structure TX where
 m:ByteArray
 K:List Kid
 F:FaceD
 I:List ByteArray
 ec:Int
 ep:Int
def zfb:Tree->ByteArray × Bool
 | .node _ x l _=>(x,l==1)
def ze9:Tree->Kid
 | .node k x n ks=>if k=2 then .imp x else if k=3 then .var x (decide (2<=n)) (n % 2==1) (match ks with
   | []=>none
   | .node _ _ v _ :: _=>some v)else .proc x (decide (2<=n % 4)) (n % 2==1) (if n<4 then none else some (decide (8<=n))) (ks.dropLast.map zfb) (ks.getLastD (.node 0 empty 0 []))
theorem zwh (q:ByteArray × Bool):zfb (zD q)=q:=by
 obtain⟨b,a⟩:=q;cases a<;>rfl
theorem zt3 (f:Kid):ze9 f.tree=f:=by
 cases f with
 | imp e=>rfl
 | var e c a n=>cases n<;>cases c<;>cases a<;>rfl
 | proc e c a d ps b =>
  have h:(ps.map zD++[b]).dropLast=ps.map zD:=oC;have i:(ps.map zD++[b]).getLastD (.node 0 empty 0 [])=b:=oC
  have j:(ps.map zD).map zfb=ps:=by
   rw[List.map_map];exact(List.map_congr_left (fun q _=>zwh q)).trans (List.map_id ps)
  have key:ze9 (Kid.proc e c a d ps b).tree=.proc e (decide (2<=(2*bI c+bI a+gI d) % 4)) ((2*bI c+bI a+gI d) % 2==1) (if(2*bI c+bI a+gI d)<4 then none else some (decide (8<=(2*bI c+bI a+gI d)))) ((ps.map zD++[b]).dropLast.map zfb) ((ps.map zD++[b]).getLastD (.node 0 empty 0 [])):=rfl;rw[key,h,i,j];cases c<;>cases a<;>(cases d with | none=>rfl | some g=>cases g<;>rfl)
theorem zkj (a:List Kid):(a.map Kid.tree).map ze9=a:=by
 rw[List.map_map];exact(List.map_congr_left (fun b _=>zt3 b)).trans (List.map_id a)
def zbg:Tree->ByteArray
 | .node _ m _ _=>m
def kidsT:Tree->List Kid
 | .node _ _ _ ks=>ks.map ze9
def tx (x:ByteArray):TX :=
 if(parse x).code≠0 then⟨⟨#[]⟩,[],yY,[],(parse x).code,(parse x).place⟩ else
 match kV (zbg (parse x).tree) (kidsT (parse x).tree) [] [] 1 with
 | some q=>⟨zbg (parse x).tree,kidsT (parse x).tree,yY,[],q.1,q.2⟩
 | none=>⟨zbg (parse x).tree,kidsT (parse x).tree,qQ false (zbg (parse x).tree) (kidsT (parse x).tree),kS (kidsT (parse x).tree),0,0⟩
theorem yc0 {w:World} {c b:Int} {d:Ending} {w':World} (a:zrf w yY [] c b d w'):ze7 w yY [] c b d w':=by
 obtain⟨m,lv,f,⟨o,n,rfl,⟨g,j,rfl,_,_⟩,⟨h,k,rfl,_,_⟩⟩,⟨i,l,rfl,_,_⟩,e⟩:=a;exact⟨_,_,f,⟨_,_,rfl,⟨_,_,rfl,by simp[yY],fun a=>absurd rfl a⟩,⟨_,_,rfl,by simp[yY],fun a=>absurd rfl a⟩⟩,⟨_,_,rfl,oC,fun a=>absurd rfl a⟩,e⟩
structure TXOk (x:ByteArray) (t:TX):Prop where
 shp:Shp x t.m t.K
 of:∀W,gO W->Calls Tryz.prog 16 #[.string x] W (ze7 W t.F t.I t.ec t.ep)
 bad:t.ec≠0->∀fs,(ckF x fs t.m t.K).1≠0
 good:t.ec=0->t.F=qQ false t.m t.K/\t.I=kS t.K/\kV t.m t.K [] [] 1=none/\(parse x).code=0/\t.m.size<=16
theorem txo (d:ByteArray):TXOk d (tx d):=by
 unfold tx;by_cases a:(parse d).code=0
 ·obtain⟨h,e,c⟩:=shape5 d a;have n:zbg (parse d).tree=h:=by rw[c.1];rfl
  have o:kidsT (parse d).tree=e:=by
   rw[c.1];exact zkj e
  rw[ju (by simp[a]),n,o];have g:=fun W i=>(zqu d h e W i a c.1 c.2.1 (fun k j=>(c.2.2.1 k j).1) oA (fun k j=>by have:=c.2.2.2.2.2 k j;omega)).mono (fun m w' b=>xC.new b)
  cases f:kV h e [] [] 1 with
  | some q =>
   rw[f]at g;refine⟨fun _=>c,g,fun l p=>?_,fun r=>absurd r (zdo h e [] [] 1 q f)⟩;unfold ckF;rw[a,f];split
   ·decide
   ·rw[ju oD]
    exact l
  | none =>
   rw[f]at g;exact⟨fun _=>c,g,fun b=>absurd rfl b,fun _=>⟨rfl,rfl,f,a,c.2.1⟩⟩
 ·rw[jv a];refine⟨fun b=>absurd b a,fun W i=>(zoa d W i a).mono (fun m w' b=>yc0 b),fun l p=>?_,fun b=>absurd b a⟩;unfold ckF;split
  ·decide
  ·exact a
abbrev Tr:=Int × Int × Int
def nameOf (x:ByteArray):ByteArray:=(tx x).F.module
def yT:List ByteArray->Nat->Option Tr
 | [],_=>none
 | x :: r,i=>if(tx x).ec≠0 then some (i,(tx x).ec,(tx x).ep)else yT r (i+1)
def yR:List ByteArray->List ByteArray->Option Tr
 | _,[]=>none
 | seen,n :: r=>if kJ seen n then some (seen.length,5,0)else yR (seen++[n]) r
def vD (ns:List ByteArray) (i:Nat):List ByteArray->Nat->Option Tr
 | [],_=>none
 | y :: r,k=>if kJ ns y then vD ns i r (k+1)else some (i,4,1+k)
def xX (ns:List ByteArray):List (List ByteArray)->Nat->Option Tr
 | [],_=>none
 | l :: r,i=>match vD ns i l 0 with
  | some t=>some t
  | none=>xX ns r (i+1)
def qI (ns:List ByteArray) (z:ByteArray):Option Nat:=ns.findIdx? fun n=>eqS z n
def qX (ns:List ByteArray) (z:ByteArray):Nat:=(qI ns z).getD 0
def gA (ns:List ByteArray) (a:List Nat) (l:List ByteArray):Bool:=l.any fun y=>!a.contains (qX ns y)
def vT (ns:List ByteArray) (Is:List (List ByteArray)) (a:List Nat) (i:Nat):Bool:=!a.contains i&&!gA ns a (Is.getD i [])
def uI (ns:List ByteArray) (Is:List (List ByteArray)) (a:List Nat):Option Nat:=(List.range Is.length).find? (vT ns Is a)
def takeF (ns:List ByteArray) (Is:List (List ByteArray)):Nat->List Nat->List Nat
 | 0,t=>t
 | k+1,t=>match uI ns Is t with
  | some i=>takeF ns Is k (t++[i])
  | none=>t
def xY (n:Nat) (a:List Nat):Option Tr:=((List.range n).find? fun i=>!a.contains i).map fun (i:Nat)=>((i:Int),(3:Int),(0:Int))
def xK (xs:List ByteArray) (x:ByteArray):List FaceD:=(tx x).I.map fun y=>(tx (xs.getD (qX (xs.map nameOf) y) x)).F
def yU (xs:List ByteArray):List Nat->Option Tr
 | []=>none
 | i :: r=>let x:=xs.getD i ⟨#[]⟩;let f:=ckF x (xK xs x) (tx x).m (tx x).K
  if f.1≠0 then some (i,f.1,f.2)else yU xs r
def xU (p:ProcD):Bool:=eqS p.name ⟨#[109,97,105,110]⟩&&p.params.length==0&&p.writes==0&&!p.gives
def uG (xs:List ByteArray):Option Tr :=
 match qI (xs.map nameOf) ⟨#[109,97,105,110]⟩ with
 | none=>some (0,4,0)
 | some i=>if(tx (xs.getD i ⟨#[]⟩)).F.procs.any xU then none else some (0,4,0)
def qW (xs:List ByteArray):List Nat:=takeF (xs.map nameOf) (xs.map fun x=>(tx x).I) xs.length []
def orderF (xs:List ByteArray):Option Tr :=
 if xs.length=0\/6<xs.length then some (0,1,0)else
 match yT xs 0 with
 | some t=>some t
 | none=>match yR [] (xs.map nameOf)with
  | some t=>some t
  | none=>match xX (xs.map nameOf) (xs.map fun x=>(tx x).I) 0 with
   | some t=>some t
   | none=>match xY xs.length (qW xs)with
    | some t=>some t
    | none=>match yU xs (qW xs)with
     | some t=>some t
     | none=>uG xs
/-! facts -/
theorem zvx (b:List ByteArray) (c a:ByteArray) (d:kJ b c=false):qI (b++[c]) a=if eqS a c then some b.length else qI b a:=by
 unfold qI;rw[List.findIdx?_append]
 cases e:eqS a c with
 | true =>
  have:b.findIdx? (fun n=>eqS a n)=none:=by
   rw[List.findIdx?_eq_none_iff];intro n g
   cases f:eqS a n with
   | false=>rfl
   | true =>
    obtain rfl:=vN.1 f;obtain rfl:=vN.1 e;unfold kJ at d;rw[List.any_eq_false]at d;exact absurd f (d _ g)
  rw[this]
  simp[List.findIdx?_cons,e]
 | false=>simp[List.findIdx?_cons,e]
theorem zdj (a:eqS u B=true):eqS B u=true:=by
 obtain rfl:=vN.1 a;exact a
theorem zan {ns:List ByteArray} {z:ByteArray} (c:kJ ns z=true):∃b,qI ns z=some b/\b<ns.length/\qX ns z=b:=by
 unfold kJ at c;rw[List.any_eq_true]at c;obtain⟨n,e,d⟩:=c
 cases a:qI ns z with
 | none =>
  unfold qI at a;rw[List.findIdx?_eq_none_iff]at a;have:=a n e;rw[zdj d]at this
  cases this
 | some b =>
  refine⟨b,rfl,?_,by simp[qX,a]⟩;unfold qI at a;rw[List.findIdx?_eq_some_iff_getElem]at a;exact a.1
theorem zkp (a:kJ s u=false):qI s u=none:=by
 unfold qI;rw[List.findIdx?_eq_none_iff];intro n b
 cases c:eqS u n with
 | false=>rfl
 | true =>
  unfold kJ at a;rw[List.any_eq_false]at a;exact absurd (zdj c) (a _ b)
theorem zcm (a:qI s u=some g):∃hi:g<s.length,eqS u s[g]=true:=by
 unfold qI at a;rw[List.findIdx?_eq_some_iff_getElem]at a;obtain⟨hi,b,_⟩:=a;exact⟨hi,b⟩
theorem zke (b:List ByteArray) (c:Nat):∀(e:List ByteArray) (d:Nat),vD b c e d=none->∀y∈e,kJ b y=true
 | [],_,_,y,a=>by cases a
 | z :: r,d,h,y,a=>by
  unfold vD at h;split at h
  ·rename_i f;rcases List.mem_cons.1 a with rfl | a
   ·exact f
   ·exact zke b c r _ h y a
  ·cases h
theorem zfs (c:List ByteArray):∀(L:List (List ByteArray)) (d:Nat),xX c L d=none->∀l∈L,∀y∈l,kJ c y=true
 | [],_,_,l,b=>by cases b
 | a :: r,d,h,l,b=>by
  unfold xX at h;split at h;·cases h
  ·rename_i e;rcases List.mem_cons.1 b with rfl | b
   ·exact zke c d _ _ e
   ·exact zfs c r _ h l b
theorem zj1:∀(c:List ByteArray) (b:Nat),yT c b=none->∀x∈c,(tx x).ec=0
 | [],_,_,x,a=>by cases a
 | z :: r,b,h,x,a=>by
  unfold yT at h;split at h;·cases h
  ·rename_i d;rcases List.mem_cons.1 a with rfl | a
   ·simpa using d
   ·exact zj1 r _ h x a
structure Tk (n:Nat) (t:List Nat):Prop where
 lt:∀i∈t,i<n
 nd:t.Nodup
theorem Tk.len {n:Nat} {t:List Nat} (a:Tk n t):t.length<=n:=by
 have:=a.nd.length_le_of_subset (l₂:=List.range n) (fun b hi=>List.mem_range.2 (a.lt b hi));simpa using this
theorem zb0 {a:List (List ByteArray)} {t:List Nat} (b:uI s a t=some g):g<a.length/\vT s a t g=true/\g∉t:=by
 unfold uI at b;have c:=List.find?_some b;have d:=List.mem_range.1 (List.mem_of_find?_eq_some b);refine⟨d,c,fun hi=>?_⟩;unfold vT at c;simp[hi]at c
theorem Tk.snoc {n:Nat} {t:List Nat} (c:Tk n t) (hi:g<n) (h:g∉t):Tk n (t++[g]):=by
 refine⟨fun i a=>?_,?_⟩
 ·rcases List.mem_append.1 a with a | a
  ·exact c.lt i a
  ·simp at a;omega
 ·rw[List.nodup_append];refine⟨c.nd,oC,fun j f b d=>?_⟩;simp at d;subst d;intro e;exact h (e▸f)
theorem zea {ns:List ByteArray} {Is:List (List ByteArray)}:∀(a:Nat) (t:List Nat),Tk Is.length t->Tk Is.length (takeF ns Is a t)
 | 0,t,h=>h
 | a+1,t,h=>by
  unfold takeF;split;·rename_i d hi;obtain⟨b,_,c⟩:=zb0 hi;exact zea a _ (h.snoc b c)
  ·exact h
theorem zus {a:List (List ByteArray)} {t:List Nat} (c:uI s a t=none):∀b,takeF s a b t=t
 | 0=>rfl
 | b+1=>by unfold takeF;rw[c]
theorem zut {ns:List ByteArray} {Is:List (List ByteArray)} {t:List Nat} {i:Nat} (e:Tk Is.length t) (b:uI ns Is t=some i):takeF ns Is (Is.length - t.length) t=takeF ns Is (Is.length - (t++[i]).length) (t++[i]):=by
 obtain⟨c,_,d⟩:=zb0 b;have g:=(e.snoc c d).len;simp only[jb,jd,je]at g |-;obtain⟨a,f⟩:∃a,Is.length - t.length=a+1:=⟨Is.length - t.length - 1,oA⟩
 rw[f,show Is.length - (t.length+(0+1))=a by omega]
 conv=>lhs;unfold takeF
 rw[b]
theorem zju {n:Nat} {t:List Nat} (a:xY n t=none) (b:Nat) (hi:b<n):b∈t:=by
 unfold xY at a;rw[Option.map_eq_none_iff,List.find?_eq_none]at a;have:=a b (List.mem_range.2 hi);simpa using this
end ord
namespace chk
open Go.RowKit Go.Shelf
open syn face
def zew (q:FV):List Value:=[.string q.1.module,q.2.1,q.2.2]
def vM (l:List FV):List Value:=l.flatMap zew
theorem ziz:∀(b:List FV) (a:Nat) (c:a<b.length),(vM b)[a*3]?=some (.string b[a].1.module)/\(vM b)[a*3+1]?=some b[a].2.1/\(vM b)[a*3+2]?=some b[a].2.2
 | [],a,c=>by simp at c
 | q :: b,0,c=>by simp[vM,zew]
 | q :: b,a+1,c=>by
  have g:a<b.length:=by simpa using c
  have d:=ziz b a g;have e:vM (q :: b)=[.string q.1.module,q.2.1,q.2.2]++vM b:=rfl;have f:(a+1)*3=a*3+3:=oA;rw[e,f];refine⟨?_,?_,?_⟩;·rw[List.getElem?_append_right oC];simpa using d.1
  ·rw[List.getElem?_append_right oC];simpa using d.2.1
  ·rw[List.getElem?_append_right oC];simpa using d.2.2
theorem ycq:(Tryz.prog.info? 55).map (fun a=>(a.zero,a.size,a.bytes))=some (some (.agg #[.string ⟨#[]⟩,.slice none 0 0,.slice none 0 0]),3,64):=oB
theorem zik {w w':World} (d:Below w.heap.size w w') {a:Addr} {v:Value} (b:w.cell? a=some v):w'.cell? a=some v:=by
 have e:a.block<w.heap.size:=by
  cases c:w.heap[a.block]? with
  | none=>simp[World.cell?,c]at b
  | some f=>exact(Array.getElem?_eq_some_iff.1 c).1
 rw[d.cell e];exact b
theorem cD.below {w w':World} {v:Value} {b:List FV} (f:cD w v b) (a:Below w.heap.size w w'):cD w' v b:=by
 obtain⟨c,d,rfl,n,m⟩:=f;refine⟨c,d,rfl,n,fun o=>?_⟩;obtain⟨e,q,rfl,l⟩:=m o;refine⟨e,q,rfl,fun p hi=>?_⟩;obtain⟨g,h,i,j,k⟩:=l p hi;exact⟨zik a g,zik a h,zik a i,j.below a,k⟩
end chk
namespace ord
open Go.RowKit Go.Shelf Go.Maps Go.WideMaps
open syn face chk
structure MD where
 x:ByteArray
 vv:Value
 pv:Value
 iv:Value
def MD.q (m:MD):FV:=((tx m.x).F,m.vv,m.pv)
def zez (m:MD):List Value:=[.string m.x,.string (nameOf m.x),m.vv,m.pv,m.iv]
def uA (l:List MD):List Value:=l.flatMap zez
def yI (w:World) (m:MD):Prop:=zP w (fvV m.q) m.q.1/\zH w m.iv (tx m.x).I/\(tx m.x).ec=0
theorem yI.mono {w w':World} {d:MD} (a:yI w d) (c:∀b v,w.cell? b=some v->w'.cell? b=some v):yI w' d:=⟨zP.mono c a.1,zH.mono c a.2.1,a.2.2⟩
theorem yI.move {b Q':Nat->Bool} {w w':World} {c:MD} (d:yI (holes b w) c) (i:∀a v,b a.block=false->w.cell? a=some v->Q' a.block=false/\w'.cell? a=some v):yI (holes Q' w') c :=
 d.mono fun a v j=>by
  obtain⟨e,f⟩:=zjq j;obtain⟨g,h⟩:=i a v e f;exact zjr g h
theorem yI.real {b:Nat->Bool} {w:World} {a:MD} (c:yI (holes b w) a):yI w a:=c.mono fun e v d=>(zjq d).2
theorem yI.small {w:World} {a:MD} (b:yI w a):(nameOf a.x).size<=16:=by
 obtain⟨c,e,f,g,d⟩:=(txo a.x).good b.2.2;show((tx a.x).F.module).size<=16;rw[c];exact d
theorem zso (a:List MD) (b:MD):uA (a++[b])=uA a++zez b:=by simp[uA]
theorem zje:∀(b:List MD) (a:Nat) (d:a<b.length),(uA b)[a*5]?=some (.string b[a].x)/\(uA b)[a*5+1]?=some (.string (nameOf b[a].x))/\(uA b)[a*5+2]?=some b[a].vv/\(uA b)[a*5+3]?=some b[a].pv/\(uA b)[a*5+4]?=some b[a].iv
 | [],a,d=>by simp at d
 | q :: b,0,d=>by simp[uA,zez]
 | q :: b,a+1,d=>by
  have g:a<b.length:=by simpa using d
  have c:=zje b a g;have e:uA (q :: b)=[.string q.x,.string (nameOf q.x),q.vv,q.pv,q.iv]++uA b:=rfl;have f:(a+1)*5=a*5+5:=oA;rw[e,f];refine⟨?_,?_,?_,?_,?_⟩;·rw[List.getElem?_append_right oC];simpa using c.1
  ·rw[List.getElem?_append_right oC];simpa using c.2.1
  ·rw[List.getElem?_append_right oC];simpa using c.2.2.1
  ·rw[List.getElem?_append_right oC];simpa using c.2.2.2.1
  ·rw[List.getElem?_append_right oC];simpa using c.2.2.2.2
theorem ycr:(Tryz.prog.info? 173).map (fun a=>(a.zero,a.size,a.bytes))=some (some (.agg #[.string ⟨#[]⟩,.string ⟨#[]⟩,.slice none 0 0,.slice none 0 0,.slice none 0 0]),5,104):=oB
def natV (i:Nat):Value:=.int .i64 i
def gX (D:Nat) (mv:Value) (b:Nat):Bool:=b==D||b==D+1||mv.ownBlock==some b
structure PS (w:World) (D:Nat) (mv:Value) (L:List MD) (n:Nat) (f:ByteArray->Option Nat):Prop where
 box:BoxC w (D+1) #[mv,.map (some D)] 121
 row:w.ownsRow (D+2) 173 5 mv L.length (uA L)
 map:kI w D n (fun z=>(f z).map natV)
 mods:∀m∈L,yI (holes (gX D mv) w) m
section
variable {w w':World} {D n:Nat} {mv:Value} {L:List MD} {f:ByteArray->Option Nat}
theorem PS.below (a:PS w D mv L n f) (b:Below w.heap.size w w'):PS w' D mv L n f :=
 ⟨a.box.below b,a.row.kept (grown_of_below b) (by cases mv.ownBlock<;>simp),a.map.below b,fun g e=>(a.mods g e).move fun h v c d=>⟨c,keep d b⟩⟩
theorem zlc {D:Nat} {mv:Value} {b:Nat} (a:gX D mv b=false):b≠D/\b≠D+1/\mv.ownBlock≠some b:=by
 unfold gX at a;simp only[Bool.or_eq_false_iff,beq_eq_false_iff_ne,ne_eq]at a;exact⟨a.1.1,a.1.2,a.2⟩
theorem zlz {D:Nat} {mv:Value} {b:Nat} (a:b≠D) (c:b≠D+1) (d:mv.ownBlock≠some b):gX D mv b=false:=by
 unfold gX;simp[a,c,d]
theorem PS.md (b:PS w D mv L n f) {a:MD} (c:a∈L):yI w a:=(b.mods a c).real
theorem PS.push (h:PS w D mv L n f) {j:MD} {c e:Nat} (y:yI (holes (gX D mv) w) j) (z:w'.ownsRow (D+2) 173 5 (.slice (some ⟨c,0,none⟩) (L.length+1) e) (L.length+1) (uA L++zez j)) (k:w.grownBy w' mv.ownBlock) (o:mv.ownBlock=some c\/c=w.heap.size) : PS (w'.setCell ⟨D+1,0,none⟩ (.slice (some ⟨c,0,none⟩) (L.length+1) e)) D (.slice (some ⟨c,0,none⟩) (L.length+1) e) (L++[j]) n f:=by
 have l:∀b,mv.ownBlock=some b->D+2<=b:=fun b a=>(h.row.lt b a).1
 have u:mv.ownBlock≠some (D+1):=fun a=>by have:=l _ a;omega
 have t:mv.ownBlock≠some D:=fun a=>by have:=l _ a;omega
 have E:D+2<=c:=by
  rcases o with a | a
  ·exact l _ a
  ·have:=h.box.lt;omega
 refine⟨?_,?_,?_,?_⟩;·have:=(h.box.grown k u).set 0 (.slice (some ⟨c,0,none⟩) (L.length+1) e);simpa using this
 ·have:=jV (a:=⟨D+1,0,none⟩) z (fun a=>by simp[Value.ownBlock]at a;omega) (.slice (some ⟨c,0,none⟩) (L.length+1) e);rw[jb,zso];exact this
 ·exact(h.map.kept k (fun a=>t a.symm)).setCell (by show D≠D+1;omega) _
 ·have p:∀d,yI (holes (gX D mv) w) d->yI (holes (gX D (.slice (some ⟨c,0,none⟩) (L.length+1) e)) (w'.setCell ⟨D+1,0,none⟩ (.slice (some ⟨c,0,none⟩) (L.length+1) e))) d:=fun d g=>g.move fun i v C s=>by
   obtain⟨B,q,r⟩:=zlc C;have x:=jS w i s;refine⟨zlz B q (fun a=>?_),?_⟩
   ·simp[Value.ownBlock]at a;rcases o with m | m
    ·exact r (by rw[m,a])
    ·omega
   ·rw[jN (jQ w' ⟨D+1,0,none⟩ _ i.block q),k.cell_far i x (fun a=>r a.symm)];exact s
  intro d g;rcases List.mem_append.1 g with g | g
  ·exact p d (h.mods d g)
  ·obtain rfl:d=j:=by simpa using g
   exact p d y
theorem PS.turned {h:ByteArray->Option Nat} {i:Nat} (a:PS w D mv L n f) (e:kI w' D i (fun q=>(h q).map natV)) (d:w.grownBy w' (some D)):PS w' D mv L i h:=by
 have m:∀b,mv.ownBlock=some b->D+2<=b:=fun b c=>(a.row.lt b c).1
 refine⟨a.box.grown d oC,a.row.kept d ?_,e,fun o e=>(a.mods o e).move fun g v j k=>?_⟩
 ·cases c:mv.ownBlock with
  | none=>exact .inl rfl
  | some b=>exact .inr (fun l=>by have:=m b c;simp at l;omega)
 ·obtain⟨p,r,s⟩:=zlc j;refine⟨j,?_⟩;rw[d.cell_far g (jS w g k) (by simpa using p)];exact k
theorem PS.lt (a:PS w D mv L n f):D+1<w.heap.size:=a.box.lt
theorem PS.shape (e:PS w D mv L n f):∃d g,mv=.slice d L.length g/\(0<L.length->∃b,d=some ⟨b,0,none⟩/\∀a (hi:a<L.length),w.cell? ⟨b,a*5,none⟩=some (.string L[a].x)/\w.cell? ⟨b,a*5+1,none⟩=some (.string (nameOf L[a].x))/\w.cell? ⟨b,a*5+2,none⟩=some L[a].vv/\w.cell? ⟨b,a*5+3,none⟩=some L[a].pv/\w.cell? ⟨b,a*5+4,none⟩=some L[a].iv):=by
 have c:=e.row;rcases c.2 with⟨rfl,i⟩|⟨b,h,p,rfl,_,_,q,r,_⟩
 ·exact⟨none,0,by rw[i],fun e=>oA⟩
 ·refine⟨some ⟨b,0,none⟩,h,rfl,fun _=>⟨b,rfl,fun a hi=>?_⟩⟩;obtain⟨j,k,l,m,o⟩:=zje L a hi;exact⟨by rw[c.cellAt _ oA];exact j,by rw[c.cellAt _ oA];exact k,by rw[c.cellAt _ oA];exact l,by rw[c.cellAt _ oA];exact m,by rw[c.cellAt _ oA];exact o⟩
end
/-! the map of numbers -/
theorem zrz (w:World):(zeroValue 3).run Tryz.prog w=.ok (.int .i64 0) w:=oB
section
variable {w w':World} {b n:Nat} {f:ByteArray->Option Nat}
theorem zlx (c:kI w b n (fun m=>(f m).map natV)) (a:ByteArray) (l:a.size<=maxLen):(Instr.lookup 118 (.map (some b)) (.string a) false).run Tryz.prog w=.ok (.int .i64 ((f a).getD 0:Nat)) w:=by
 obtain⟨D,c,i⟩:=c;obtain⟨v,ps,j,k⟩:=c.lookup vE Tryz.underlying118 (zrz w) (zd:=.held (.int .i64 0)) (zp:=[]) rfl (keyOf_string_mk Tryz.underlying9 l);rw[j];obtain⟨d,g⟩:=i a;simp only[Option.isSome_map]at d;simp only[Option.map_eq_some_iff]at g
 have h:D.atKey (qM a) (.held (.int .i64 0))=.held (.int .i64 ((f a).getD 0:Nat)):=by
  exact zmv
 have e:fR v=some (D.atKey (qM a) (.held (.int .i64 0)),ps):=k;rw[h]at e;rw[zas e]
theorem zf8 (c:kI w b n (fun m=>(f m).map natV)) (a:ByteArray) (l:a.size<=maxLen):(Instr.lookup 118 (.map (some b)) (.string a) true).run Tryz.prog w=.ok (.tuple #[.int .i64 ((f a).getD 0:Nat),.bool (f a).isSome]) w:=by
 obtain⟨D,c,i⟩:=c;obtain⟨v,ps,j,k⟩:=c.look_ok vE Tryz.underlying118 (zrz w) (zd:=.held (.int .i64 0)) (zp:=[]) rfl (keyOf_string_mk Tryz.underlying9 l);rw[j];obtain⟨d,g⟩:=i a;simp only[Option.isSome_map]at d;simp only[Option.map_eq_some_iff]at g
 have h:D.atKey (qM a) (.held (.int .i64 0))=.held (.int .i64 ((f a).getD 0:Nat)):=by
  exact zmv
 have e:fR v=some (D.atKey (qM a) (.held (.int .i64 0)),ps):=k;rw[h]at e;rw[zas e,show Maps.has D (Lit.string a.data.toList)=_ from d]
theorem zvq (g:kI w b n (fun a=>(f a).map natV)) (m:n<maxLen) (c:ByteArray) (o:c.size<=maxLen) (e:Nat):∃w',(Instr.mapUpdate 118 (.map (some b)) (.string c) (.int .i64 e)).run Tryz.prog w=.ok () w'/\kI w' b (n+1) (fun a=>(if eqS a c then some e else f a).map natV)/\w.grownBy w' (some b):=by
 obtain⟨D,g,i⟩:=g;obtain⟨w',j,k,l⟩:=g.update vE Tryz.underlying118 m (keyOf_string_mk Tryz.underlying9 o) (d:=.held (.int .i64 e)) (ps:=[]) rfl;refine⟨w',j,⟨_,k,fun a=>?_⟩,l⟩;have:=kI.put (x:=c) (v:=.int .i64 e) i g.isMap a;have h:(Option.map natV (if eqS a c=true then some e else f a))=(if eqS a c=true then some (Value.int .i64 e)else Option.map natV (f a)):=by cases eqS a c<;>rfl
 simp only[h];exact this
end
def fI (t:Tr):List PanicEntry:=[{ v:=.iface 36 (.agg #[.int .i64 t.1,.int .i64 t.2.1,.int .i64 t.2.2]),recovered:=false }]
variable {d:Nat}
theorem oRefuse (c b a:Int) (w:World) : Calls Tryz.prog 98 #[.int .i64 c,.int .i64 b,.int .i64 a] w fun d w'=>d=.panicked (fI (c,b,a))/\w'=w:=by
 unfold fI;go_enter Tryz.func98,Tryz.ntmps98;go_wp2;exact⟨rfl,rfl,rfl⟩
theorem far {w w':World} {c:Option Nat} {a:Addr} {v:Value} (b:w.cell? a=some v) (e:w.grownBy w' c) (f:c≠some a.block):w'.cell? a=some v:=by
 rw[e.cell_far a (jS w a b) (fun d=>f d.symm)];exact b
theorem zff {w:World} {a c b d:Nat} {v:Value} (g:a≠b) (f:w.cell? ⟨a,c,none⟩=some v) (e:Value):(w.setCell ⟨b,d,none⟩ e).cell? ⟨a,c,none⟩=some v:=by
 rw[jN (jQ w ⟨b,d,none⟩ e a g)];exact f
theorem take_snoc {α:Type} {a:List α} (b:d<a.length):a.take d++[a[d]]=a.take (d+1):=by
 rw[List.take_succ_eq_append_getElem b]
theorem zul {a:List ByteArray} (b:d<a.length):yT (a.drop d) d=if(tx a[d]).ec≠0 then some ((d:Int),(tx a[d]).ec,(tx a[d]).ep)else yT (a.drop (d+1)) (d+1):=by
 rw[List.drop_eq_getElem_cons b];rfl
def RdE (w0:World) (D:Nat) (xs:List ByteArray) (e:Ending) (w':World):Prop :=
 Below D w0 w'/\((∃t,yT xs 0=some t/\e=.panicked (fI t))\/(yT xs 0=none/\e=.returned (.tuple #[])/\∃mv L,L.map (·.x)=xs/\PS w' D mv L 0 (fun _=>none)))
theorem oRead (E:World) (D:Nat) (ax:E.heap.size=D) (aQ:gQ E) (r:List ByteArray) (tv:Value) (aB:zH E tv r) (bo:r.length<=6) (w:World) (p:Below D E w) (n:PS w D (.slice none 0 0) [] 0 (fun _=>none)) : Calls Tryz.prog 56 #[.pointer (some ⟨D+1,0,none⟩),tv] w (RdE E D r):=by
 have bh:=kc28;have bi:Tryz.prog.cellsOf 55=3:=xW;have bj:=kc173;obtain⟨b8,hi,b2,b6,b7⟩:=info_parts ycr;have aR:∃a5 a9,tv=.slice a5 r.length a9:=by obtain⟨a5,a9,o,_⟩:=aB;exact⟨a5,a9,o⟩
 obtain⟨a5,a9,rfl⟩:=aR
 have aC:∀W,Below D E W->∀m (a6:m<r.length),∃P a2,a5=some ⟨P,a2,none⟩/\W.cell? ⟨P,a2+m,none⟩=some (.string r[m]):=by
  intro W aS m a7;obtain⟨bf,bg,aM,_,aY⟩:=aB;obtain⟨P,a2,rfl,ai⟩:=aY (by intro o;rw[o]at a7;simp at a7);injection aM with e1;exact⟨P,a2,e1,keep (ai m a7) (ax▸aS)⟩
 go_enter Tryz.func56,Tryz.ntmps56;go_wp2;go_loopw [11] (fun t wr=>∃(m:Nat) (mv:Value) (L:List MD),m<=r.length/\t=.int .i64 m/\PS wr D mv L 0 (fun _=>none)/\Below D E wr/\L.map (·.x)=r.take m/\yT (r.drop m) m=yT r 0) (fun t _=>r.length - (intOf t).toNat)
 case atStart=>exact⟨0,_,[],jz _,rfl,n,p,rfl,rfl⟩
 case round =>
  clear n p;obtain⟨m,mv,L,a7,rfl,n,p,ag,az⟩:=hrel;have aa:=show Hid _ from az
  clear az;by_cases ak:m<r.length
  ·obtain⟨P,a2,rfl,ai⟩:=aC wr p m ak;have aJ:Hid (L.length=m):=by show _=_;have:=congrArg List.length ag;simp at this;omega
   generalize ao:r[m]=a at ai;have au:=show Hid _ from zul ak
   have R:=(txo a).of wr (vZ aQ (ax▸p)).1;generalize aj:(tx a).ec=ac at R;generalize aU:(tx a).ep=z at R;have bw:wr.heap.size≠D/\wr.heap.size≠D+1:=by have:=n.lt;omega
   by_cases ad:ac=0
   ·subst ad;have br:((0:Int) != 0)=false:=rfl
    have aK:Hid (yT (r.drop (m+1)) (m+1)=yT r 0):=by
     show _=_;rw[<- aa.out,au.out,ao,aj,ju oC]
    have bp:L.length<=6:=by have:=aJ.out;omega
    go_wp2_with (go_at_call 16;refine R.mono ?_;rintro o w1 ⟨aO,aN,rfl,⟨aw,av,rfl,aI,aE⟩,aF,x⟩;have ay:yI (holes (zbh wr.heap.size) w1) ⟨a,aw,av,aN⟩:=⟨⟨aw,av,rfl,aI,aE⟩,aF,aj⟩;obtain⟨b,c,rfl,-,-⟩:=aI;obtain⟨f,g,rfl,-,-⟩:=aE;obtain⟨i,j,rfl,-,-⟩:=aF);have aW:nameOf a=(tx a).F.module:=rfl;generalize (tx a).F.vars.length=e at *;generalize (tx a).F.procs.length=d at *;generalize (tx a).I.length=k at *;clear R aC;have Q:=(Joins.below_alloc2 w1 (.cells #[.string (tx a).F.module,(.slice b e c),(.slice f d g)] 55) (.cells #[.int .i64 0,.int .i64 z] 28)).drew;have T:=x.trans (Q.mono x.size);obtain⟨B,C,rfl⟩:∃y ab,mv=.slice y L.length ab:=by obtain⟨y,ab,o,_⟩:=n.shape;exact⟨y,ab,o⟩
    have aZ:∀a8,(Value.slice B L.length C).ownBlock=some a8->a8<w1.heap.size:=fun a8 o=>jo (n.row.lt _ o).2 x.size
    have G:yI (holes (gX D (.slice B L.length C)) ((w1.alloc (.cells #[.string (tx a).F.module,(.slice b e c),(.slice f d g)] 55)).alloc (.cells #[.int .i64 0,.int .i64 z] 28)).drew) ⟨a,(.slice b e c),(.slice f d g),(.slice i k j)⟩:=ay.move fun y v ba bb=>by
     have bs:wr.heap.size<=y.block:=by simpa[zbh] using ba
     have bz:=n.lt;exact⟨zlz oA oA (fun o=>by have:=(n.row.lt _ o).2;omega),keep bb Q⟩
    have h:((w1.alloc (.cells #[.string (tx a).F.module,(.slice b e c),(.slice f d g)] 55)).alloc (.cells #[.int .i64 0,.int .i64 z] 28)).drew.cell? ⟨w1.heap.size,0,none⟩=some (.string (tx a).F.module)/\((w1.alloc (.cells #[.string (tx a).F.module,(.slice b e c),(.slice f d g)] 55)).alloc (.cells #[.int .i64 0,.int .i64 z] 28)).drew.cell? ⟨w1.heap.size,1,none⟩=some (.slice b e c)/\((w1.alloc (.cells #[.string (tx a).F.module,(.slice b e c),(.slice f d g)] 55)).alloc (.cells #[.int .i64 0,.int .i64 z] 28)).drew.cell? ⟨w1.heap.size,2,none⟩=some (.slice f d g):=⟨oC,oC,oC⟩
    have bu:D+1<w1.heap.size:=jo n.lt x.size;replace n:=n.below T;replace p:=p.trans (T.mono zdy);clear ay x Q T;refine wp_region_held_drew (S:=fun W=>W.cell? ⟨w1.heap.size,0,none⟩=some (.string (tx a).F.module)/\W.cell? ⟨w1.heap.size,1,none⟩=some (.slice b e c)/\W.cell? ⟨w1.heap.size,2,none⟩=some (.slice f d g)) oB h (fun s=>?_);clear s;generalize ((w1.alloc (.cells #[.string (tx a).F.module,(.slice b e c),(.slice f d g)] 55)).alloc (.cells #[.int .i64 0,.int .i64 z] 28)).drew=W at *;generalize w1.heap.size=N at *;generalize (tx a).F.module=l at *;refine tkP 0 (.pointer (some ⟨D+1,0,none⟩)) h ?_;simp only[Act.put,jA,jB,jC];refine tkP 1 (.pointer (some ⟨D+1,0,none⟩)) h ?_;simp only[Act.put,jA,jB,jC];refine tkP 2 (.pointer (some ⟨D+1,0,none⟩)) h ?_;simp only[Act.put,jA,jB,jC];refine tkP 3 (.pointer (some ⟨D+1,0,none⟩)) h ?_;simp only[Act.put,jA,jB,jC];refine tkP 5 (.string a) h ?_;simp only[Act.put,jA,jB,jC];refine tkP 6 (.agg #[.string l,(.slice b e c),(.slice f d g)] ) h ?_;simp only[Act.put,jA,jB,jC];refine tkP 7 ((.slice i k j)) h ?_;simp only[Act.put,jA,jB,jC];refine tkP 8 (.agg #[.string a,.string l,(.slice b e c),(.slice f d g),(.slice i k j)] ) h ?_;simp only[Act.put,jA,jB,jC];refine wpAnyH_ready (rs:=[4,9]) oB oC ?_;refine AllReadyH.cons rfl (fun u q=>?_) (AllReadyH.cons rfl (fun u q=>?_) AllReadyH.nil)
    ·skip;have V:=n.box.cell 0 rfl;go_simp;refine q.out _ _ h (fun s=>?_);clear q u s V;refine oneH 9 fun u q=>?_
     go_simp;have aG:∀m M,[Value.string a,.string l,(.slice b e c),(.slice f d g),(.slice i k j)][m]?=some M->(W.alloc (.cells #[.string a,.string l,(.slice b e c),(.slice f d g),(.slice i k j)] 173)).cell? ((⟨W.heap.size,0,none⟩:Addr).add m)=some M:=zZ _ #[.string a,.string l,(.slice b e c),(.slice f d g),(.slice i k j)] _ _ rfl;have an:W.heap.size+1=(W.alloc (.cells #[.string a,.string l,(.slice b e c),(.slice f d g),(.slice i k j)] 173)).heap.size:=oC;replace p:=p.alloc zdy (.cells #[.string a,.string l,(.slice b e c),(.slice f d g),(.slice i k j)] 173);replace n:=n.below (bal (.cells #[.string a,.string l,(.slice b e c),(.slice f d g),(.slice i k j)] 173));replace G:yI (holes (gX D (.slice B L.length C)) (W.alloc (.cells #[.string a,.string l,(.slice b e c),(.slice f d g),(.slice i k j)] 173))) ⟨a,(.slice b e c),(.slice f d g),(.slice i k j)⟩:=G.move fun y v ae af=>⟨ae,zI af _⟩
     replace h:(W.alloc (.cells #[.string a,.string l,(.slice b e c),(.slice f d g),(.slice i k j)] 173)).cell? ⟨N,0,none⟩=some (.string l)/\(W.alloc (.cells #[.string a,.string l,(.slice b e c),(.slice f d g),(.slice i k j)] 173)).cell? ⟨N,1,none⟩=some (.slice b e c)/\(W.alloc (.cells #[.string a,.string l,(.slice b e c),(.slice f d g),(.slice i k j)] 173)).cell? ⟨N,2,none⟩=some (.slice f d g):=⟨zI h.1 _,zI h.2.1 _,zI h.2.2 _⟩
     refine q.out _ _ h (fun s=>?_);clear q u s;generalize W.alloc (.cells #[.string a,.string l,(.slice b e c),(.slice f d g),(.slice i k j)] 173)=aL at *;generalize W.heap.size=ap at *;exact zmr
    ·skip;go_simp;have aG:∀m M,[Value.string a,.string l,(.slice b e c),(.slice f d g),(.slice i k j)][m]?=some M->(W.alloc (.cells #[.string a,.string l,(.slice b e c),(.slice f d g),(.slice i k j)] 173)).cell? ((⟨W.heap.size,0,none⟩:Addr).add m)=some M:=zZ _ #[.string a,.string l,(.slice b e c),(.slice f d g),(.slice i k j)] _ _ rfl;have an:W.heap.size+1=(W.alloc (.cells #[.string a,.string l,(.slice b e c),(.slice f d g),(.slice i k j)] 173)).heap.size:=oC;replace p:=p.alloc zdy (.cells #[.string a,.string l,(.slice b e c),(.slice f d g),(.slice i k j)] 173);replace n:=n.below (bal (.cells #[.string a,.string l,(.slice b e c),(.slice f d g),(.slice i k j)] 173));replace G:yI (holes (gX D (.slice B L.length C)) (W.alloc (.cells #[.string a,.string l,(.slice b e c),(.slice f d g),(.slice i k j)] 173))) ⟨a,(.slice b e c),(.slice f d g),(.slice i k j)⟩:=G.move fun y v ae af=>⟨ae,zI af _⟩
     replace h:(W.alloc (.cells #[.string a,.string l,(.slice b e c),(.slice f d g),(.slice i k j)] 173)).cell? ⟨N,0,none⟩=some (.string l)/\(W.alloc (.cells #[.string a,.string l,(.slice b e c),(.slice f d g),(.slice i k j)] 173)).cell? ⟨N,1,none⟩=some (.slice b e c)/\(W.alloc (.cells #[.string a,.string l,(.slice b e c),(.slice f d g),(.slice i k j)] 173)).cell? ⟨N,2,none⟩=some (.slice f d g):=⟨zI h.1 _,zI h.2.1 _,zI h.2.2 _⟩
     refine q.out _ _ h (fun s=>?_);clear q u s;generalize W.alloc (.cells #[.string a,.string l,(.slice b e c),(.slice f d g),(.slice i k j)] 173)=aL at *;generalize W.heap.size=ap at *;refine oneH 4 fun u q=>?_
     have V:=n.box.cell 0 rfl;go_simp;refine q.out _ _ h (fun s=>?_);clear q u s V;exact zmr
   ·have bq:(ac != 0)=true:=by simp[ad]
    go_wp2_with first
     | (go_at_call 16;refine R.mono ?_;rintro o w1 ⟨aO,lv,rfl,⟨bB,bA,rfl,⟨b,c,rfl,_,_⟩,⟨bc,be,rfl,_,_⟩⟩,⟨i,j,rfl,_,_⟩,x⟩)
     | (go_at_call 98;refine(oRefuse _ _ _ _).mono ?_;rintro o bC ⟨rfl,b1⟩;obtain rfl:=b1.symm)
    have Q:=(Joins.below_alloc2 w1 (.cells #[.string (tx a).F.module,.slice b (tx a).F.vars.length c,.slice bc (tx a).F.procs.length be] 55) (.cells #[.int .i64 ac,.int .i64 z] 28))
    have T:=x.trans (Q.mono x.size);refine⟨rfl,p.trans (T.mono zdy),.inl ⟨_,?_,rfl⟩⟩;rw[<- aa.out,au.out,ao,aj,aU,jv ad]
  ·go_wp2
   go_end0
   have aX:m=r.length:=oA;subst aX;refine⟨p,.inr ⟨?_,rfl,mv,L,?_,n⟩⟩;·rw[<- aa.out,List.drop_length];rfl
   ·rw[ag,List.take_length]
theorem yI.shape {w:World} {b:MD} (j:yI w b):∃g k h e l f c d,b.vv=.slice g k h/\b.pv=.slice e l f/\b.iv=.slice c (tx b.x).I.length d:=by
 obtain⟨⟨n,m,a,⟨g,h,rfl,_⟩,⟨e,f,rfl,_⟩⟩,⟨c,d,i,_⟩,_⟩:=j;unfold fvV MD.q at a;injection a with a;simp only[List.toArray_eq_toArray_eq,Array.mk.injEq,jq,and_true]at a;exact⟨g,_,h,e,_,f,c,d,a.2.1,a.2.2,i⟩
def kM (L:List MD):List ByteArray:=L.map fun m=>nameOf m.x
theorem zs3 {ns:List ByteArray} {j:Nat} (a:j<ns.length):yR (ns.take j) (ns.drop j)=if kJ (ns.take j) ns[j] then some ((j:Int),5,0)else yR (ns.take (j+1)) (ns.drop (j+1)):=by
 rw[List.drop_eq_getElem_cons a]
 conv=>lhs;unfold yR
 rw[take_snoc a,List.length_take,Nat.min_eq_left oA]
def EnE (w0:World) (D:Nat) (mv:Value) (L:List MD) (e:Ending) (w':World):Prop :=
 Below D w0 w'/\((∃t,yR [] (kM L)=some t/\e=.panicked (fI t))\/(yR [] (kM L)=none/\e=.returned (.tuple #[])/\PS w' D mv L L.length (qI (kM L))))
theorem oEnter (G:World) (D:Nat) (aQ:G.heap.size=D) (mv:Value) (L:List MD) (aO:L.length<=6) (w:World) (i:Below D G w) (c:PS w D mv L 0 (fun _=>none)) : Calls Tryz.prog 57 #[.pointer (some ⟨D+1,0,none⟩)] w (EnE G D mv L):=by
 have aL:=kc173;have aK:Tryz.prog.cellsOf 55=3:=xW;obtain⟨aa,a5,rfl⟩:∃z K,mv=.slice z L.length K:=by obtain⟨z,K,k,_⟩:=c.shape;exact⟨z,K,k⟩
 have ao:(kM L).length=L.length:=by simp[kM]
 have au:=c.box.cell 0 rfl;go_enter Tryz.func57,Tryz.ntmps57;go_wp2;go_loopw [11] (fun t wr=>∃(a:Nat),a<=L.length/\t=.int .i64 a/\PS wr D (.slice aa L.length a5) L a (qI ((kM L).take a))/\Below D G wr/\yR ((kM L).take a) ((kM L).drop a)=yR [] (kM L)) (fun t _=>L.length - (intOf t).toNat)
 case atStart=>exact⟨0,jz _,rfl,c,i,rfl⟩
 case round =>
  clear c i au;obtain⟨a,aS,rfl,c,i,az⟩:=hrel;have R:=show Hid _ from az
  clear az;by_cases a3:a<L.length
  ·obtain⟨e,rfl,aG,aH,af,ag,ac⟩:∃e,aa=some ⟨e,0,none⟩/\wr.cell? ⟨e,a*5,none⟩=some (.string L[a].x)/\wr.cell? ⟨e,a*5+1,none⟩=some (.string (nameOf L[a].x))/\wr.cell? ⟨e,a*5+2,none⟩=some L[a].vv/\wr.cell? ⟨e,a*5+3,none⟩=some L[a].pv/\wr.cell? ⟨e,a*5+4,none⟩=some L[a].iv:=by
    exact zmu
   have P:=c.md (jH a3);have an:(kM L)[a]' oA=nameOf L[a].x:=by simp[kM]
   have T:=show Hid _ from zs3 (ns:=kM L) (j:=a) oA
   rw[an]at T
   have HS:Hid (kJ ((kM L).take a) (nameOf L[a].x)=false->qI ((kM L).take (a+1))=fun y=>if eqS y (nameOf L[a].x)then some a else qI ((kM L).take a) y):=fun a7=>by
    funext y
    have:=zvx ((kM L).take a) (nameOf L[a].x) y a7;rw[<- an,take_snoc (by omega:a<(kM L).length),an,List.length_take,Nat.min_eq_left oA]at this;exact this
   have aD:=P.small;obtain⟨q,m,r,o,n,p,j,l,B,C,V⟩:=P.shape;rw[B]at af;rw[C]at ag;rw[V]at ac;generalize (tx L[a].x).I.length=ab at ac;clear P B C V;generalize nameOf L[a].x=d at *;generalize L[a].x=s at *;have M:=(i.alloc (by have:=i.size;omega) (.cells #[.string s,.string d,.slice q m r,.slice o n p,.slice j ab l] 173)).drew;have a2:=(c.below (bal (.cells #[.string s,.string d,.slice q m r,.slice o n p,.slice j ab l] 173))).below (Below.refl _ _).drew;have bc:=c.lt;have b:PS (wr.alloc (.cells #[.string s,.string d,.slice q m r,.slice o n p,.slice j ab l] 173)).drew D (.slice (some ⟨e,0,none⟩) L.length a5) L a (qI ((kM L).take a))/\(wr.alloc (.cells #[.string s,.string d,.slice q m r,.slice o n p,.slice j ab l] 173)).drew.cell? ⟨wr.heap.size,1,none⟩=some (.string d):=⟨a2,oC⟩
   go_wp2;refine wp_region_held_drew (S:=fun W=>PS W D (.slice (some ⟨e,0,none⟩) L.length a5) L a (qI ((kM L).take a))/\W.cell? ⟨wr.heap.size,1,none⟩=some (.string d)) oB b (fun a8=>?_);clear a8 c i a2 aG aH af ag ac;generalize (wr.alloc (.cells #[.string s,.string d,.slice q m r,.slice o n p,.slice j ab l] 173)).drew=W at *;generalize b9:wr.heap.size=N at *;refine tkR 0 (.pointer (some ⟨D+1,0,none⟩)) b ?_;simp only[jA,jB,jC];refine tkR 1 (.pointer (some ⟨D+1,0,none⟩)) b ?_;simp only[jA,jB,jC];refine tkR 2 (.pointer (some ⟨D+1,1,none⟩)) b ?_;simp only[jA,jB,jC];refine tkS (i:=3) (v:=.map (some D)) rfl rfl (Or.inl ⟨oG,fun w E=>by have y:=E.1.box.cell 1 rfl;go_simp⟩) b ?_;simp only[jA,jB,jC];refine tkR 4 (.pointer (some ⟨N,1,none⟩)) b ?_;simp only[jA,jB,jC];refine tkR 5 (.pointer (some ⟨N,1,none⟩)) b ?_;simp only[jA,jB,jC];refine tkS (i:=6) (v:=.string d) rfl rfl (Or.inl ⟨oG,fun w E=>by have y:=E.2;go_simp⟩) b ?_;simp only[jA,jB,jC];generalize am:qI ((kM L).take a) d=x;refine tkS (i:=7) (v:=.tuple #[.int .i64 (x.getD 0:Nat),.bool x.isSome] ) rfl rfl (Or.inl ⟨oG,fun w E=>by have y:=zf8 E.1.map d (by unfold maxLen;omega);rw[am]at y ;go_simp⟩) b ?_;simp only[jA,jB,jC];refine tkR 8 (.tuple #[.int .i64 (x.getD 0:Nat),.bool x.isSome] ) b ?_;simp only[jA,jB,jC];refine tkR 9 (.int .i64 (x.getD 0:Nat)) b ?_;simp only[jA,jB,jC];refine tkR 10 (.bool x.isSome) b ?_;simp only[jA,jB,jC];refine tkR 11 (.int .i64 (x.getD 0:Nat)) b ?_;simp only[jA,jB,jC];refine tkR 12 (.bool x.isSome) b ?_;simp only[jA,jB,jC];refine wpAnyH_done oB ?_ _
   cases u:kJ ((kM L).take a) d with
   | true =>
    obtain⟨Q,hi,_,_⟩:=zan u;obtain rfl:x=some Q:=by rw[<- am,hi]
    go_wp2_with (go_at_call 98;refine(oRefuse _ _ _ _).mono ?_;rintro k aZ ⟨rfl,ar⟩;obtain rfl:=ar.symm);refine⟨rfl,M,.inl ⟨_,?_,rfl⟩⟩;rw[<- R.out,T.out,u]
    rfl
   | false =>
    obtain rfl:x=none:=by rw[<- am,zkp u]
    go_wp2;replace b:PS W.drew D (.slice (some ⟨e,0,none⟩) L.length a5) L a (qI ((kM L).take a))/\W.drew.cell? ⟨N,1,none⟩=some (.string d):=⟨b.1.below (Below.refl _ _).drew,by simpa using b.2⟩
    replace M:=M.drew;refine wp_region_held_drew (S:=fun W=>W.cell? ⟨D+1,1,none⟩=some (.map (some D))/\W.cell? ⟨N,1,none⟩=some (.string d)) oB ⟨b.1.box.cell 1 rfl,b.2⟩ (fun a8=>?_);have ay:=b.1;have aw:=M;clear a8 M;replace b:W.drew.cell? ⟨D+1,1,none⟩=some (.map (some D))/\W.drew.cell? ⟨N,1,none⟩=some (.string d):=⟨b.1.box.cell 1 rfl,b.2⟩
    generalize W.drew=W at *;refine tkR 0 (.pointer (some ⟨D+1,0,none⟩)) b ?_;simp only[jA,jB,jC];refine tkR 1 (.pointer (some ⟨D+1,0,none⟩)) b ?_;simp only[jA,jB,jC];refine tkR 2 (.pointer (some ⟨D+1,1,none⟩)) b ?_;simp only[jA,jB,jC];refine tkS (i:=3) (v:=.map (some D)) rfl rfl (Or.inl ⟨oG,fun w E=>by obtain⟨b2,b6⟩:=E;go_simp⟩) b ?_;simp only[jA,jB,jC];refine tkR 4 (.pointer (some ⟨N,1,none⟩)) b ?_;simp only[jA,jB,jC];refine tkR 5 (.pointer (some ⟨N,1,none⟩)) b ?_;simp only[jA,jB,jC];refine tkS (i:=6) (v:=.string d) rfl rfl (Or.inl ⟨oG,fun w E=>by obtain⟨b2,b6⟩:=E;go_simp⟩) b ?_;simp only[jA,jB,jC];refine tkR 7 (.int .i64 a) b ?_;simp only[jA,jB,jC];refine oneH 8 fun aJ ax=>?_
    obtain⟨b0,bb,aV,ae⟩:=zvq ay.map (by unfold maxLen;omega) d (by unfold maxLen;omega) a;go_simp;have aW:kI b0 D (a+1) (fun y=>(qI ((kM L).take (a+1)) y).map natV):=by rw[HS.out u];exact aV
    have aR:=ay.turned aW ae;have aP:=aw.grown ae (by have:=aw.size;omega) (fun g k=>by cases k;omega);refine ax.out _ _ ⟨far b.1 ae oC,far b.2 ae oE⟩ (fun a8=>?_);clear ax aJ a8;refine wpAnyH_done oB ?_ _;go_wp2;go_roundw
    case rel=>exact⟨a+1,oA,oM,aR,aP,by rw[<- R.out,T.out,u];rfl⟩
    case measure=>simp[intOf];omega
  ·go_wp2
   go_end0
   have ak:a=L.length:=oA;subst ak;refine⟨i,.inr ⟨?_,rfl,?_⟩⟩;·rw[<- R.out,<- ao,List.drop_length];rfl
   ·rw[<- ao,List.take_length]at c;rw[ao]at c;exact c
theorem zjd:∀(c:List Kid) (b:ByteArray),b∈kS c->Kid.imp b∈c
 | [],_,a=>by cases a
 | k :: r,b,a=>by
  have ih:=zjd r b;cases k<;>simp_all [kS];rcases a with a | a
  ·exact .inl a
  ·exact .inr (ih a)
theorem zi0:∀a:List Kid,(kS a).length<=a.length
 | []=>jE _
 | k :: r=>by
  have ih:=zi0 r;cases k<;>simp[kS]<;>omega
theorem zg2 {a:ByteArray} (d:(tx a).ec=0):(∀c∈(tx a).I,c.size<=16)/\(tx a).I.length<=900:=by
 obtain⟨h,e,i,f,j⟩:=(txo a).good d;have b:=(txo a).shp f;rw[e];refine⟨fun c g=>?_,?_⟩;·exact(b.2.2.1 _ (zjd _ _ g)).1
 ·have:=zi0 (tx a).K;have:=b.2.2.2.2.1;omega
def zR (L:List MD):List (List ByteArray):=L.map fun m=>(tx m.x).I
theorem ztu {ns:List ByteArray} {Is:List (List ByteArray)} {j:Nat} (a:j<Is.length):xX ns (Is.drop j) j=match vD ns j Is[j] 0 with
  | some t=>some t
  | none=>xX ns (Is.drop (j+1)) (j+1):=by
 rw[List.drop_eq_getElem_cons a];rfl
theorem zvi {ns b:List ByteArray} {i a:Nat} (c:a<b.length):vD ns i (b.drop a) a=if kJ ns b[a] then vD ns i (b.drop (a+1)) (a+1)else some ((i:Int),4,1+(a:Int)):=by
 rw[List.drop_eq_getElem_cons c];rfl
def FiE (w0:World) (D:Nat) (mv:Value) (L:List MD) (e:Ending) (w':World):Prop :=
 Below D w0 w'/\((∃t,xX (kM L) (zR L) 0=some t/\e=.panicked (fI t))\/(xX (kM L) (zR L) 0=none/\e=.returned (.tuple #[])/\PS w' D mv L L.length (qI (kM L))))
theorem ycv (G:World) (D:Nat) (aQ:G.heap.size=D) (mv:Value) (L:List MD) (aO:L.length<=6) (w:World) (i:Below D G w) (c:PS w D mv L L.length (qI (kM L))) : Calls Tryz.prog 58 #[.pointer (some ⟨D+1,0,none⟩)] w (FiE G D mv L):=by
 have aL:=kc173;have aK:Tryz.prog.cellsOf 55=3:=xW;obtain⟨aa,a5,rfl⟩:∃z K,mv=.slice z L.length K:=by obtain⟨z,K,k,_⟩:=c.shape;exact⟨z,K,k⟩
 have ah:Hid ((zR L).length=L.length):=by show _=_;simp[zR]
 have au:=c.box.cell 0 rfl;generalize ap:kM L=h at c;go_enter Tryz.func58,Tryz.ntmps58;go_wp2;go_loopw [13] (fun t wr=>∃(a:Nat),a<=L.length/\t=.int .i64 a/\PS wr D (.slice aa L.length a5) L L.length (qI h)/\Below D G wr/\Hid (xX h ((zR L).drop a) a=xX h (zR L) 0)) (fun t _=>L.length - (intOf t).toNat)
 case atStart=>exact⟨0,jz _,rfl,c,i,rfl⟩
 case round =>
  clear c i au;obtain⟨a,aS,rfl,c,i,R⟩:=hrel;by_cases a3:a<L.length
  ·obtain⟨e,rfl,aG,aH,af,ag,ac⟩:∃e,aa=some ⟨e,0,none⟩/\wr.cell? ⟨e,a*5,none⟩=some (.string L[a].x)/\wr.cell? ⟨e,a*5+1,none⟩=some (.string (nameOf L[a].x))/\wr.cell? ⟨e,a*5+2,none⟩=some L[a].vv/\wr.cell? ⟨e,a*5+3,none⟩=some L[a].pv/\wr.cell? ⟨e,a*5+4,none⟩=some L[a].iv:=by
    exact zmu
   have P:=c.md (jH a3);have T:=show Hid _ from ztu (ns:=h) (Is:=zR L) (j:=a) (by rw[ah.out];exact a3)
   have aA:(zR L)[a]'(by rw[ah.out];exact a3)=(tx L[a].x).I:=by simp[zR]
   rw[aA]at T;obtain⟨aD,ba⟩:=zg2 P.2.2;obtain⟨q,m,r,o,n,p,j,l,B,C,V⟩:=P.shape;have aE:=P.2.1;rw[V]at aE;rw[B]at af;rw[C]at ag;rw[V]at ac;clear P B C V aA;generalize (tx L[a].x).I=f at *;generalize nameOf L[a].x=d at *;generalize L[a].x=s at *;have M:=i.alloc (by have:=i.size;omega) (.cells #[.string s,.string d,.slice q m r,.slice o n p,.slice j f.length l] 173);have a2:=c.below (bal (.cells #[.string s,.string d,.slice q m r,.slice o n p,.slice j f.length l] 173));have aX:=zH.mono (fun z v a7=>zI a7 (.cells #[.string s,.string d,.slice q m r,.slice o n p,.slice j f.length l] 173)) aE;have bf:=a2.box.cell 1 rfl;go_wp2;go_loopw [21] (fun t b1=>∃(g:Nat),g<=f.length/\t=.int .i64 g/\b1=wr.alloc (.cells #[.string s,.string d,.slice q m r,.slice o n p,.slice j f.length l] 173)/\Hid (vD h a (f.drop g) g=vD h a f 0)) (fun t _=>f.length - (intOf t).toNat)
   case atStart=>exact⟨0,jz _,rfl,rfl,rfl⟩
   case round =>
    obtain⟨g,aB,rfl,rfl,ai⟩:=hrel;by_cases a9:g<f.length
    ·obtain⟨aj,go,rfl,ad⟩:∃aj go,j=some ⟨aj,go,none⟩/\(wr.alloc (.cells #[.string s,.string d,.slice q m r,.slice o n p,.slice j f.length l] 173)).cell? ⟨aj,go+g,none⟩=some (.string f[g]):=by
      obtain⟨b7,b8,aM,_,aT⟩:=aX;obtain⟨aN,aY,C,ad⟩:=aT (by intro k;rw[k]at a9;simp at a9);injection aM with B;exact⟨aN,aY,B.trans C,ad g a9⟩
     have be:=aD _ (jH a9);have av:=show Hid _ from zvi (ns:=h) (i:=a) a9
     generalize f[g]=aI at *;have aC:=zf8 a2.map aI (by unfold maxLen;omega)
     cases u:kJ h aI with
     | true =>
      obtain⟨Q,hi,_,_⟩:=zan u;rw[hi]at aC
      have a6:Hid (vD h a (f.drop (g+1)) (g+1)=vD h a f 0):=by
       show _=_;rw[<- ai.out,av.out,u];rfl
      clear hi;go_wp2;go_roundw
      case rel=>exact⟨g+1,oA,oM,trivial,a6⟩
      case measure=>simp[intOf];omega
     | false =>
      rw[zkp u]at aC
      have a6:Hid (vD h a f 0=some ((a:Int),4,1+(g:Int))):=by
       show _=_;rw[<- ai.out,av.out,u];rfl
      go_wp2_with (go_at_call 98;refine(oRefuse _ _ _ _).mono ?_;rintro k aZ ⟨rfl,ar⟩;obtain rfl:=ar.symm);refine⟨rfl,M,.inl ⟨_,?_,rfl⟩⟩;rw[ap,<- R.out,T.out,a6.out]
    ·have aU:g=f.length:=oA;subst aU
     have a6:Hid (vD h a f 0=none):=by
      show _=_;rw[<- ai.out,List.drop_length];rfl
     go_wp2;go_roundw
     case rel=>exact⟨a+1,oA,oM,a2,M,by show _=_;rw[<- R.out,T.out,a6.out]⟩
     case measure=>simp[intOf];omega
  ·go_wp2
   go_end0
   have ak:a=L.length:=oA;subst ak;refine⟨i,.inr ⟨?_,rfl,by rw[ap];exact c⟩⟩;rw[ap,<- R.out,<- ah.out,List.drop_length];rfl
def fM (w:World) (v:Value) (t:List Nat):Prop:=∃a c,v=.slice a t.length c/\(t≠[]->∃g,a=some ⟨g,0,none⟩/\∀i (b:i<t.length),w.cell? ⟨g,i,none⟩=some (.int .i64 (t[i]:Int)))
theorem fM.below {w w':World} {v:Value} {t:List Nat} (f:fM w v t) (g:Below w.heap.size w w'):fM w' v t:=by
 obtain⟨a,b,c,i⟩:=f;refine⟨a,b,c,fun j=>?_⟩;obtain⟨e,d,h⟩:=i j;exact⟨e,d,fun k hi=>keep (h k hi) g⟩
theorem zx0 {w:World} {v:Value} {t:List Nat} (a:w.ownsRow d 3 1 v t.length (t.map natV)):fM w v t:=by
 rcases a.2 with⟨rfl,c⟩|⟨b,e,f,rfl,_,_,g,h,_⟩
 ·exact⟨none,0,by rw[c],fun a=>absurd (List.eq_nil_of_length_eq_zero c) a⟩
 ·refine⟨some ⟨b,0,none⟩,e,rfl,fun _=>⟨b,rfl,fun i hi=>?_⟩⟩;rw[a.cellAt _ oA];simp[natV,hi]
theorem zzy (c:Nat) (t:List Nat) (v:Value) (w:World) (y:t.length<=6) (n:fM w v t) : Calls Tryz.prog 134 #[v,.int .i64 c] w fun e w'=>∃a:Int,e=.returned (.int .i64 a)/\decide (0<=a)=t.contains c/\w'=w:=by
 obtain⟨o,p,rfl,m⟩:=n;go_enter Tryz.func134,Tryz.ntmps134;go_wp2;go_loopw [8] (fun k wr=>∃a:Nat,a<=t.length/\k=.int .i64 a/\wr=w/\Hid (∀b (h:b<t.length),b<a->t[b]≠c)) (fun k _=>t.length - (intOf k).toNat)
 case atStart=>exact⟨0,jz _,rfl,rfl,fun b _ h=>oA⟩
 case round =>
  obtain⟨a,x,rfl,rfl,j⟩:=hrel;by_cases i:a<t.length
  ·obtain⟨r,rfl,f⟩:=m (by intro e;rw[e]at i;simp at i);have q:=f a i;clear f m;by_cases g:t[a]=c
   ·have d:Hid (t.contains c=true):=by
     show _=_;rw[List.contains_iff_mem,<- g];exact jH i
    rw[g]at q;clear g;go_wp2;go_ret;exact⟨(a:Int),rfl,by rw[d.out];simp,rfl⟩
   ·have d:Hid (t[a]≠c):=g;have u:¬((c:Int)=((t[a]:Nat):Int)):=oA;clear g;go_wp2;go_roundw
    case rel=>exact⟨a+1,oA,oM,by trivial,fun b h s=>by
     rcases jM b a with l | l
     ·exact j.out b h l
     ·have:b=a:=oA;subst this
      exact d.out⟩
    case measure=>simp[intOf];omega
  ·have d:Hid (t.contains c=false):=by
    show _=_
    cases f:t.contains c with
    | false=>rfl
    | true =>
     rw[List.contains_iff_mem]at f;obtain⟨b,h,e⟩:=List.mem_iff_getElem.1 f;exact absurd e (j.out b h oA)
   clear j;go_wp2;go_ret;exact⟨-1,rfl,by rw[d.out];rfl,rfl⟩
theorem zub (a:Nat) (t:List Nat) (v:Value) (w:World) (e:t.length<=6) (c:fM w v t) : Calls Tryz.prog 100 #[v,.int .i64 a] w fun b w'=>b=.returned (.bool (t.contains a))/\w'=w:=by
 have d:=zzy a t v w e c;obtain⟨h,i,rfl,j⟩:=c;generalize t.contains a=g at *;go_enter Tryz.func100,Tryz.ntmps100;go_wp2_with (fail);refine d.mono ?_;rintro b w1 ⟨k,rfl,hi,f⟩;obtain rfl:=f.symm;go_wp2;go_ret;exact⟨by rw[<- hi];rfl,rfl⟩
theorem zhd (a:Nat) (t:List Nat) (v:Value) (d:Nat) (w:World) (f:t.length<=6) (c:fM w v t) (l:w.cell? ⟨d,0,none⟩=some v) : Calls Tryz.prog 99 #[.int .i64 a,.pointer (some ⟨d,0,none⟩)] w fun b w'=>b=.returned (.bool (!t.contains a))/\w'=w:=by
 have e:=zub a t v w f c;obtain⟨i,j,rfl,k⟩:=c;generalize t.contains a=h at *;go_enter Tryz.func99,Tryz.ntmps99;go_wp2_with (go_at_call 100;refine e.mono ?_;rintro b w1 ⟨rfl,g⟩;obtain rfl:=g.symm);go_ret;exact⟨rfl,rfl⟩
abbrev dE (b:Nat):Value:=.func (.func 99) #[] #[.pointer (some ⟨b+1,0,none⟩)]
abbrev cA (b:Nat):Value:=.func (.func 101) #[] #[.pointer (some ⟨b+2,0,none⟩),.pointer (some ⟨b,0,none⟩)]
structure TS (w1:World) (D b:Nat) (mv:Value) (L:List MD) (tv:Value) (t:List Nat) (w:World):Prop where
 sz:w1.heap.size=b
 ps:PS w1 D mv L L.length (qI (kM L))
 bl:Below b w1 w
 b0:BoxC w b #[.pointer (some ⟨D+1,0,none⟩)] 170
 b1:BoxC w (b+1) #[tv] 34
 b2:BoxC w (b+2) #[dE b] 101
 b3:BoxC w (b+3) #[cA b] 83
 row:w.ownsRow (b+4) 3 1 tv t.length (t.map natV)
 tk:Tk L.length t
section
variable {w1 w w':World} {D b:Nat} {mv tv:Value} {L:List MD} {t:List Nat}
theorem TS.now (a:TS w1 D b mv L tv t w):PS w D mv L L.length (qI (kM L)):=a.ps.below (by rw[a.sz];exact a.bl)
theorem TS.below (a:TS w1 D b mv L tv t w) (c:Below w.heap.size w w'):TS w1 D b mv L tv t w' :=
 ⟨a.sz,a.ps,a.bl.trans (c.mono (by have:=a.bl.size;have:=a.sz;omega)),a.b0.below c,a.b1.below c,a.b2.below c,a.b3.below c,a.row.kept (grown_of_below c) (by cases tv.ownBlock<;>simp),a.tk⟩
theorem TS.nats (a:TS w1 D b mv L tv t w):fM w tv t:=zx0 a.row
theorem TS.cells (a:TS w1 D b mv L tv t w):w.cell? ⟨b,0,none⟩=some (.pointer (some ⟨D+1,0,none⟩))/\w.cell? ⟨b+1,0,none⟩=some tv/\w.cell? ⟨b+2,0,none⟩=some (dE b)/\w.cell? ⟨b+3,0,none⟩=some (cA b)/\w.cell? ⟨D+1,0,none⟩=some mv/\w.cell? ⟨D+1,1,none⟩=some (.map (some D)) :=
 ⟨a.b0.cell 0 rfl,a.b1.cell 0 rfl,a.b2.cell 0 rfl,a.b3.cell 0 rfl,a.now.box.cell 0 rfl,a.now.box.cell 1 rfl⟩
end
theorem zx6 {w1 w:World} {D b:Nat} {mv tv:Value} {L:List MD} {t:List Nat} (o:L.length<=6) (a:TS w1 D b mv L tv t w) (c:ByteArray) (r:c.size<=16) : Calls Tryz.prog 101 #[.string c,.pointer (some ⟨b+2,0,none⟩),.pointer (some ⟨b,0,none⟩)] w fun f w'=>f=.returned (.bool (!t.contains (qX (kM L) c)))/\Below w.heap.size w w':=by
 have q:=a.tk.len;go_enter Tryz.func101,Tryz.ntmps101;go_wp2;have g:Below w.heap.size w w.drew:=(Below.refl _ _).drew;replace a:=a.below g;refine wp_region_held_drew (S:=TS w1 D b mv L tv t) oB a (fun e=>?_);clear e;generalize m:w.heap.size=N at *;generalize w.drew=W at *;refine tkS (i:=0) (v:=dE b) rfl rfl (Or.inl ⟨oG,fun w d=>zgx⟩) a ?_;simp only[jA,jB,jC];refine tkS (i:=1) (v:=.pointer (some ⟨D+1,0,none⟩)) rfl rfl (Or.inl ⟨oG,fun w d=>zgx⟩) a ?_;simp only[jA,jB,jC];refine tkR 2 (.pointer (some ⟨D+1,0,none⟩)) a ?_;simp only[jA,jB,jC];refine tkR 3 (.pointer (some ⟨D+1,1,none⟩)) a ?_;simp only[jA,jB,jC];refine tkS (i:=4) (v:=.map (some D)) rfl rfl (Or.inl ⟨oG,fun w d=>zgx⟩) a ?_;simp only[jA,jB,jC];refine tkR 5 (.string c) a ?_;simp only[jA,jB,jC];refine tkS (i:=6) (v:=.int .i64 ((qX (kM L) c:Nat):Int)) rfl rfl (Or.inl ⟨oG,fun w d=>by have p:=zlx d.now.map c (by unfold maxLen;omega);unfold qX;go_simp⟩) a ?_;simp only[jA,jB,jC];refine oneH 7 fun k h=>?_
 go_simp;go_at_call 99;refine(zhd (qX (kM L) c) t tv (b+1) W oA a.nats a.cells.2.1).mono ?_;rintro f s ⟨rfl,n⟩;obtain rfl:=n.symm;go_wp2;refine h.out _ _ a (fun e=>?_);clear e h k;refine tkR 8 (.bool (!t.contains (qX (kM L) c))) a ?_;simp only[jA,jB,jC];refine wpAnyH_done oB ?_ _;go_wp2;go_ret;exact⟨rfl,m▸g⟩
theorem xN {w w':World} {v:Value} {a:List ByteArray} (b:zH w v a) (c:Below w.heap.size w w'):zH w' v a:=zH.mono (fun e v d=>keep d c) b
section
variable {w1 w:World} {D b:Nat} {mv tv:Value} {L:List MD} {t:List Nat}
theorem any_none {α:Type} {a:List α} {b:α->Bool} (c:∀j (g:j<a.length),b a[j]=false):a.any b=false:=by
 rw[List.any_eq_false];intro h e;obtain⟨f,d,rfl⟩:=List.mem_iff_getElem.1 e;simp[c f d]
theorem zno {α:Type} {a:List α} {c:α->Bool} {b:Nat} (e:b<a.length) (d:c a[b]=true):a.any c=true:=by
 rw[List.any_eq_true];exact⟨a[b],jH _,d⟩
theorem zx8 (K:L.length<=6) (M:TS w1 D b mv L tv t w) (c:List ByteArray) (r:Value) (y:zH w r c) (P:∀v∈c,v.size<=16) (a3:c.length<=900) : Calls Tryz.prog 135 #[r,cA b] w fun e w'=>∃a:Int,e=.returned (.int .i64 a)/\decide (0<=a)=gA (kM L) t c/\Below w.heap.size w w':=by
 obtain⟨Q,a5,rfl⟩:∃o p,r=.slice o c.length p:=by obtain⟨o,p,e,_⟩:=y;exact⟨o,p,e⟩
 go_enter Tryz.func135,Tryz.ntmps135;go_wp2;go_loopw [8] (fun u wr=>∃a:Nat,a<=c.length/\u=.int .i64 a/\TS w1 D b mv L tv t wr/\Below w.heap.size w wr/\Hid (∀d (i:d<c.length),d<a->(!t.contains (qX (kM L) c[d]))=false)) (fun u _=>c.length - (intOf u).toNat)
 case atStart=>exact⟨0,jz _,rfl,M,Below.refl _ _,fun d _ i=>oA⟩
 case round =>
  obtain⟨a,a2,rfl,z,f,n⟩:=hrel;by_cases j:a<c.length
  ·obtain⟨q,s,rfl,m⟩:∃q s,Q=some ⟨q,s,none⟩/\wr.cell? ⟨q,s+a,none⟩=some (.string c[a]):=by
    obtain⟨T,V,C,_,N⟩:=xN y f;obtain⟨G,R,E,m⟩:=N (by intro e;rw[e]at j;simp at j);injection C with e1;exact⟨G,R,e1.trans E,m a j⟩
   have h:=zx6 K z c[a] (P _ (jH j));generalize k:(!t.contains (qX (kM L) c[a]))=B at h;cases B
   ·have g:=show Hid _ from k
    clear k;generalize c[a]=v at m h;go_wp2_with (go_at_call 101;refine h.mono ?_;rintro e S ⟨rfl,l⟩);go_roundw
    case rel=>exact⟨a+1,oA,oM,z.below l,f.trans (l.mono f.size),fun d i W=>by
     rcases jM d a with x | x
     ·exact n.out d i x
     ·have:d=a:=oA;subst this
      exact g.out⟩
    case measure=>simp[intOf];omega
   ·have g:Hid (gA (kM L) t c=true):=zno j k;clear k;generalize c[a]=v at m h;go_wp2_with (go_at_call 101;refine h.mono ?_;rintro e S ⟨rfl,l⟩);go_ret;exact⟨(a:Int),rfl,by rw[g.out];simp,f.trans (l.mono f.size)⟩
  ·have g:Hid (gA (kM L) t c=false):=any_none (fun d i=>n.out d i oA);clear n;go_wp2;go_ret;exact⟨-1,rfl,by rw[g.out];rfl,f⟩
theorem ztc (i:L.length<=6) (j:TS w1 D b mv L tv t w) (a:List ByteArray) (d:Value) (g:zH w d a) (l:∀y∈a,y.size<=16) (k:a.length<=900) : Calls Tryz.prog 103 #[d,cA b] w fun c w'=>c=.returned (.bool (gA (kM L) t a))/\Below w.heap.size w w':=by
 have h:=zx8 i j a d g l k;obtain⟨o,p,rfl⟩:∃e f,d=.slice e a.length f:=by obtain⟨e,f,c,_⟩:=g;exact⟨e,f,c⟩
 generalize gA (kM L) t a=n at *;go_enter Tryz.func103,Tryz.ntmps103;go_wp2_with (fail);refine h.mono ?_;rintro c w1 ⟨q,rfl,hi,m⟩;go_wp2;go_ret;exact⟨by rw[<- hi];rfl,m⟩
theorem PS.at {c i j n:Nat} {f:ByteArray->Option Nat} (e:PS w D (.slice (some ⟨c,0,none⟩) i j) L n f) (a:Nat) (hi:a<L.length):w.cell? ⟨c,a*5,none⟩=some (.string L[a].x)/\w.cell? ⟨c,a*5+1,none⟩=some (.string (nameOf L[a].x))/\w.cell? ⟨c,a*5+2,none⟩=some L[a].vv/\w.cell? ⟨c,a*5+3,none⟩=some L[a].pv/\w.cell? ⟨c,a*5+4,none⟩=some L[a].iv:=by
 obtain⟨k,l,d,h⟩:=e.shape;obtain⟨m,b,g⟩:=h oA;injection d with e1;rw[<- e1]at b;injection b with b;injection b with b;subst b;exact g a hi
theorem PS.slot {n:Nat} {f:ByteArray->Option Nat} (d:PS w D mv L n f) (g:0<L.length):∃b a,mv=.slice (some ⟨b,0,none⟩) L.length a:=by
 obtain⟨h,a,rfl,e⟩:=d.shape;obtain⟨c,rfl,i⟩:=e g;exact⟨c,a,rfl⟩
theorem ybr (M:L.length<=6) (a:TS w1 D b mv L tv t w) (c:Nat) (hi:c<L.length) : Calls Tryz.prog 102 #[.int .i64 c,.pointer (some ⟨b+2,0,none⟩),.pointer (some ⟨b,0,none⟩),.pointer (some ⟨b+3,0,none⟩)] w fun d w'=>d=.returned (.bool (vT (kM L) (zR L) t c))/\Below w.heap.size w w':=by
 have a6:=kc173;have a7:=a.tk.len;obtain⟨e,m,rfl⟩:=a.now.slot oA;have u:=a.now.md (jH hi);have E:(zR L).getD c []=(tx L[c].x).I:=by simp[zR,hi]
 have B:vT (kM L) (zR L) t c=(!t.contains c&&!gA (kM L) t (tx L[c].x).I):=by unfold vT;rw[E]
 rw[B];clear B E;obtain⟨T,R⟩:=zg2 u.2.2;have k:zH w L[c].iv (tx L[c].x).I:=u.2.1;have C:∀W,TS w1 D b (.slice (some ⟨e,0,none⟩) L.length m) L tv t W->W.cell? ⟨e,c*5+4,none⟩=some L[c].iv:=fun W l=>(l.now.at c hi).2.2.2.2
 obtain⟨a2,a3,y⟩:∃p q,L[c].iv=.slice p (tx L[c].x).I.length q:=by obtain⟨p,q,d,_⟩:=k;exact⟨p,q,d⟩
 rw[y]at k C
 clear u y;generalize (tx L[c].x).I=n at *;have s:∀W,TS w1 D b (.slice (some ⟨e,0,none⟩) L.length m) L tv t W->Calls Tryz.prog 99 #[.int .i64 c,.pointer (some ⟨b+1,0,none⟩)] W fun d w'=>d=.returned (.bool (!t.contains c))/\w'=W:=fun W l=>zhd c t tv (b+1) W oA l.nats l.cells.2.1
 generalize (!t.contains c)=g at s |-;go_enter Tryz.func102,Tryz.ntmps102;go_wp2;have h:Below w.heap.size w w.drew:=(Below.refl _ _).drew;replace a:=a.below h;replace k:=xN k h;refine wp_region_held_drew (S:=TS w1 D b (.slice (some ⟨e,0,none⟩) L.length m) L tv t) oB a (fun i=>?_);clear i;generalize z:w.heap.size=N at *;generalize w.drew=W at *;refine tkS (i:=0) (v:=dE b) rfl rfl (Or.inl ⟨oG,fun w f=>zdz⟩) a ?_;simp only[jA,jB,jC];refine tkR 1 (.int .i64 c) a ?_;simp only[jA,jB,jC];refine oneH 2 fun o j=>?_
 go_simp;go_at_call 99;refine(s W a).mono ?_;rintro d a5 ⟨rfl,V⟩;obtain rfl:=V.symm;go_wp2;refine j.out _ _ a (fun i=>?_);clear i j o;clear s;cases g;·skip;refine tkR 3 (.bool false) a ?_;simp only[jA,jB,jC];refine tkU 4 a ?_;simp only[jA,jB,jC];refine tkU 5 a ?_;simp only[jA,jB,jC];refine tkU 6 a ?_;simp only[jA,jB,jC];refine tkU 7 a ?_;simp only[jA,jB,jC];refine tkU 8 a ?_;simp only[jA,jB,jC];refine tkU 9 a ?_;simp only[jA,jB,jC];refine tkU 10 a ?_;simp only[jA,jB,jC];refine tkU 11 a ?_;simp only[jA,jB,jC];refine tkU 12 a ?_;simp only[jA,jB,jC];refine tkU 13 a ?_;simp only[jA,jB,jC];refine tkU 14 a ?_;simp only[jA,jB,jC];refine tkR 15 (.bool false) a ?_;simp only[jA,jB,jC];refine tkR 16 (.bool false) a ?_;simp only[jA,jB,jC];refine wpAnyH_done oB ?_ _;go_wp2;go_ret;exact⟨rfl,z▸h⟩
 ·skip;refine tkR 3 (.bool true) a ?_;simp only[jA,jB,jC];refine tkS (i:=4) (v:=.pointer (some ⟨D+1,0,none⟩)) rfl rfl (Or.inl ⟨oG,fun w f=>zdz⟩) a ?_;simp only[jA,jB,jC];refine tkR 5 (.pointer (some ⟨D+1,0,none⟩)) a ?_;simp only[jA,jB,jC];refine tkR 6 (.pointer (some ⟨D+1,0,none⟩)) a ?_;simp only[jA,jB,jC];refine tkS (i:=7) (v:=.slice (some ⟨e,0,none⟩) L.length m) rfl rfl (Or.inl ⟨oG,fun w f=>zdz⟩) a ?_;simp only[jA,jB,jC];refine tkR 8 (.int .i64 c) a ?_;simp only[jA,jB,jC];refine tkR 9 (.pointer (some ⟨e,c*5,none⟩)) a ?_;simp only[jA,jB,jC];refine tkR 10 (.pointer (some ⟨e,c*5+4,none⟩)) a ?_;simp only[jA,jB,jC];refine tkS (i:=11) (v:=.slice a2 n.length a3) rfl rfl (Or.inl ⟨oG,fun w f=>by have a8:=C w f;go_simp⟩) a ?_;simp only[jA,jB,jC];refine tkS (i:=12) (v:=cA b) rfl rfl (Or.inl ⟨oG,fun w f=>zdz⟩) a ?_;simp only[jA,jB,jC];refine oneH 13 fun o j=>?_
  go_simp;go_at_call 103;refine(ztc M a n _ k T R).mono ?_;rintro d a5 ⟨rfl,r⟩;go_wp2;refine j.out _ _ (a.below r) (fun i=>?_);clear i j o;have P:=h.trans (r.mono (by have:=h.size;omega));replace a:=a.below r;generalize Q:gA (kM L) t n=g;refine tkR 14 (.bool (!g)) a ?_;simp only[jA,jB,jC];refine tkR 15 (.bool (!g)) a ?_;simp only[jA,jB,jC];refine tkR 16 (.bool (!g)) a ?_;simp only[jA,jB,jC];refine wpAnyH_done oB ?_ _;go_wp2;go_ret;exact⟨by rw[Q];rfl,z▸P⟩
end
end ord
end Go.Proofs.YtbjppepjmcfkaaaGreatDoor
