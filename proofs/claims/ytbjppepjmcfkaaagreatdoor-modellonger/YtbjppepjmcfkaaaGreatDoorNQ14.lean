/- What take's third closure answers: a contract. -/
import Derived.Test.YtbjppepjmcfkaaaGreatDoorNQr
import Derived.Test.YtbjppepjmcfkaaaGreatDoorNQ13
set_option maxHeartbeats 4000000
set_option linter.unusedVariables false
set_option linter.unusedSimpArgs false
set_option maxRecDepth 100000
namespace Go.Proofs.YtbjppepjmcfkaaaGreatDoor
theorem zme {p:Prop} (c:p:=by
 cases o:f a with
 | none=>rw[o]at d;exact atKey_of_not_has d _
 | some q=>exact g (.int .i64 q) ⟨q,o,rfl⟩ _):p:=c
theorem zdu {a3:Prop} (a6:a3:=by
 have:=p.size;omega):a3:=a6
theorem zma {a3:Prop} (a6:a3:=by
 refine oneH 10 fun u q=>?_
 refine step_append_lies _ oG (.tmp 35) (.tmp 40) 119 oG (D+2) 173 b8 (.agg #[.string ⟨#[]⟩,.string ⟨#[]⟩,.slice none 0 0,.slice none 0 0,.slice none 0 0]) 5 104 Tryz.underlying119 hi b2 b6 b7 rfl oD (.slice B L.length C) L.length (vS L) oJ n.row ⟨ap,0,none⟩ 1 1 [.string a,.string l,(.slice b e c),(.slice f d g),(.slice i k j)] oJ rfl aG (by intro M aH;simp at aH;rcases aH with rfl | rfl | rfl | rfl | rfl<;>rfl) oA (by unfold maxLen;omega) oA (by have:=n.lt;omega) (ap+1) an.symm ?_;intro bn bm ar aD K aT bv;have b0:(Value.slice B L.length C).ownBlock≠some (D+1):=fun o=>by have:=(n.row.lt _ o).1;omega
 have aV:=n.push G (by rw[<- aW]at aD;exact aD) K (aT.imp id (fun o=>o.trans an));have aP:=p.grown K (by have:=p.size;omega) (fun a8 o=>by have:=(n.row.lt _ o).1;omega);have am:(Value.slice B L.length C).ownBlock≠some N:=fun o=>by have:=aZ _ o;omega
 have aA:ar.cell? ⟨N,0,none⟩=some (.string l)/\ar.cell? ⟨N,1,none⟩=some (.slice b e c)/\ar.cell? ⟨N,2,none⟩=some (.slice f d g):=⟨far h.1 K am,far h.2.1 K am,far h.2.2 K am⟩
 have ah:=n.box.grown K b0;have V:=ah.cell 0 rfl;have b9:=ah.fz 0;clear n ah h p G;refine q.out _ _ aA (fun s=>?_);clear q u s;have h:=aA;simp only[Act.put,jA,jB,jC];refine tkP 11 (.pointer (some ⟨D+1,0,none⟩)) h ?_;simp only[Act.put,jA,jB,jC];refine tkP 12 (.pointer (some ⟨D+1,0,none⟩)) h ?_;simp only[Act.put,jA,jB,jC];refine oneH 13 fun u q=>?_
 go_simp;refine q.out _ _ ⟨ze5 oA h.1 _,ze5 oA h.2.1 _,ze5 oA h.2.2 _⟩ (fun s=>?_);clear q u s V b9;refine wpAnyH_done oB ?_ _;go_wp2;go_roundw
 case rel=>exact⟨m+1,_,L++[⟨a,(.slice b e c),(.slice f d g),(.slice i k j)⟩],oA,oM,aV,aP.setCell (by show D<=D+1;omega) _,by rw[List.map_append,ag];show r.take m++[a]=_;rw[<- ao];exact take_snoc ak,aK.out⟩
 case measure=>simp[intOf];omega):a3:=a6
theorem zmd {aF:Prop} (a7:aF:=by
 obtain⟨z,K,k,aB⟩:=c.shape;obtain⟨e,C,ad⟩:=aB oA;injection k with B
 exact⟨e,B.trans C,ad a a3⟩):aF:=a7
theorem zgk {j:Prop} (l:j:=by
 obtain⟨u,x,y,z,B,C⟩:=d.cells;go_simp):j:=l
theorem zdv {G:Prop} (K:G:=by
 obtain⟨a9,aa,ab,ac,ad,ae⟩:=f.cells;go_simp):G:=K
theorem zdw {h:Prop} (G:h:=by
 show e≠w.heap.size;omega):h:=G
theorem zl9 {h:Prop} (G:h:=by
 refine tkP 0 (.agg #[.int .i64 0,.string ⟨#[]⟩,.int .i64 0,.slice none 0 0]) ab ?_;simp only[Act.put,jA,jB,jC];refine tkP 1 (.agg #[.int .i64 d,.int .i64 g]) ab ?_;simp only[Act.put,jA,jB,jC];obtain⟨b8,b9,ba,bb,b1,b2,i,z⟩:=T.cells;have bc:=i 0;have be:=i 1;have bf:=i 2;have bg:=i 3;have b6:=z 0;have b7:=z 1;refine oneH 2 fun ck aF=>?_
 go_simp;have cR:BoxC ((((af.setCell ⟨w.heap.size,0,none⟩ (.int .i64 0)).setCell ⟨w.heap.size,1,none⟩ (.string ⟨#[]⟩)).setCell ⟨w.heap.size,2,none⟩ (.int .i64 0)).setCell ⟨w.heap.size,3,none⟩ (.slice none 0 0)) w.heap.size ((((#[.int .i64 0,.string ⟨#[]⟩,.int .i64 0,.slice none 0 0]).setIfInBounds 0 (.int .i64 0)).setIfInBounds 1 (.string ⟨#[]⟩)).setIfInBounds 2 (.int .i64 0) |>.setIfInBounds 3 (.slice none 0 0)) 25:=(((T.n.set 0 _).set 1 _).set 2 _).set 3 _;have aH:BoxC ((((af.setCell ⟨w.heap.size,0,none⟩ (.int .i64 0)).setCell ⟨w.heap.size,1,none⟩ (.string ⟨#[]⟩)).setCell ⟨w.heap.size,2,none⟩ (.int .i64 0)).setCell ⟨w.heap.size,3,none⟩ (.slice none 0 0)) (w.heap.size+1) #[.int .i64 0,.int .i64 0] 28:=(((T.f.other oA _).other oA _).other oA _).other oA _
 have aR:(fun W=>W.cell? ⟨e,0,none⟩=some (.int .i64 d)/\W.cell? ⟨e,1,none⟩=some (.int .i64 g)) ((((af.setCell ⟨w.heap.size,0,none⟩ (.int .i64 0)).setCell ⟨w.heap.size,1,none⟩ (.string ⟨#[]⟩)).setCell ⟨w.heap.size,2,none⟩ (.int .i64 0)).setCell ⟨w.heap.size,3,none⟩ (.slice none 0 0)):=by
  have y:∀K,((((af.setCell ⟨w.heap.size,0,none⟩ (.int .i64 0)).setCell ⟨w.heap.size,1,none⟩ (.string ⟨#[]⟩)).setCell ⟨w.heap.size,2,none⟩ (.int .i64 0)).setCell ⟨w.heap.size,3,none⟩ (.slice none 0 0)).cell? ⟨e,K,none⟩=af.cell? ⟨e,K,none⟩:=fun K=>jM (a:=⟨e,K,none⟩) ((((jP _ _ _ e zdw).trans (jP _ _ _ e zdw)).trans (jP _ _ _ e zdw)).trans (jP _ _ _ e zdw))
  exact⟨(y 0).trans ab.1,(y 1).trans ab.2⟩
 have dh:=aH.cell 0 rfl;have di:=aH.cell 1 rfl;have dj:=aH.fz 0;have dk:=aH.fz 1;obtain⟨C,D,bm⟩:=T.done (.int .i64 0) (.string ⟨#[]⟩) (.int .i64 0) (.slice none 0 0) (.int .i64 d) (.int .i64 g);refine aF.out _ _ aR (fun ai=>?_);clear aF ai b8 b9 ba bb b1 b2 i z bc be bf bg b6 b7 cR aH;generalize ((((af.setCell ⟨w.heap.size,0,none⟩ (.int .i64 0)).setCell ⟨w.heap.size,1,none⟩ (.string ⟨#[]⟩)).setCell ⟨w.heap.size,2,none⟩ (.int .i64 0)).setCell ⟨w.heap.size,3,none⟩ (.slice none 0 0))=bi at *;refine oneH 3 fun ck aF=>?_
 go_simp
 have c9:(fun W=>W.cell? ⟨e,0,none⟩=some (.int .i64 d)/\W.cell? ⟨e,1,none⟩=some (.int .i64 g)) ((bi.setCell ⟨w.heap.size+1,0,none⟩ (.int .i64 d)).setCell ⟨w.heap.size+1,1,none⟩ (.int .i64 g)):=by
  have y:∀K,((bi.setCell ⟨w.heap.size+1,0,none⟩ (.int .i64 d)).setCell ⟨w.heap.size+1,1,none⟩ (.int .i64 g)).cell? ⟨e,K,none⟩=bi.cell? ⟨e,K,none⟩:=fun K=>jM (a:=⟨e,K,none⟩) ((jP _ _ _ e (by show e≠w.heap.size+1;omega)).trans (jP _ _ _ e (by show e≠w.heap.size+1;omega)))
  exact⟨(y 0).trans aR.1,(y 1).trans aR.2⟩
 refine aF.out _ _ c9 (fun ai=>?_);clear aF ai dh di dj dk c9 aR ab;refine wpAnyH_done oB ?_ _;go_wp2;refine jT (v:=.tuple #[.agg #[.int .i64 0,.string ⟨#[]⟩,.int .i64 0,.slice none 0 0],.agg #[.int .i64 d,.int .i64 g]]) (zf5 _ _ _ C D) rfl ?_
 exact zay.mkBad N.out a6 rfl bm):h:=G
theorem zmb {h:Prop} (G:h:=by
 generalize s.heap.size+1=e at *;have ab:(fun W=>W.cell? ⟨e,0,none⟩=some (.int .i64 d)/\W.cell? ⟨e,1,none⟩=some (.int .i64 g)) aE.drew:=⟨a3.cell 0 rfl,a3.cell 1 rfl⟩
 refine wp_region_held_drew (S:=fun W=>W.cell? ⟨e,0,none⟩=some (.int .i64 d)/\W.cell? ⟨e,1,none⟩=some (.int .i64 g)) oB ab (fun ai=>?_);clear ai;have T:=u.drew;clear u;generalize aE.drew=af at *
 exact zl9):h:=G
theorem zmc {h:Prop} (G:h:=by
 refine jT (v:=.tuple #[.agg #[.int .i64 0,.string ⟨#[]⟩,.int .i64 0,.slice none 0 0],.agg #[.int .i64 2,.int .i64 0]]) (zf5 _ _ _ bA bB) rfl ?_
 exact zay.mkBad N.out oD rfl bC):h:=G
theorem zmf {h:Prop} (G:h:=by
 show _=_;rw[<- P.out];unfold ckF
 rw[ju (by rw[bu];decide),ju (by simp[an]),ae]):h:=G
namespace chk
open Go.RowKit Go.Shelf Go.Maps
open syn face
open lexs (qQ)
def HasAll (w:World):Prop:=gJ w/\uP w
theorem hasAll_below {w w':World} (a:HasAll w) (b:Below w.heap.size w w'):HasAll w':=⟨zbd a.1 b,zbf a.2 b⟩
def zg3:Value:=.agg #[.int .i64 0,.string ⟨#[]⟩,.int .i64 0,.slice none 0 0]
def zay (w:World) (x:ByteArray) (r:Int × Int) (e:Ending) (w':World):Prop :=
 ∃v,e=.returned (.tuple #[v,.agg #[.int .i64 r.1,.int .i64 r.2]])/\(r.1=0->Lies (fun b=>w.heap.size<=b/\b<w'.heap.size) w' (parse x).tree v)/\(r.1≠0->v=zg3)/\Below w.heap.size w w'
theorem zf5 {W:World} {g h i j d e k l m n:Value} (o:List Value) (b c:Nat) (a:BoxC W b #[g,h,i,j] 25) (f:BoxC W c #[d,e] 28):(results Tryz.f7 (List.toArray (k :: l :: m :: n :: .pointer (some ⟨b,0,none⟩) :: .pointer (some ⟨c,0,none⟩) :: o))).run Tryz.prog W=.ok (.tuple #[.agg #[g,h,i,j],.agg #[d,e]]) W:=by
 have v:=kc25;have w:=kc28;have r:=a.cell 0 rfl;have s:=a.cell 1 rfl;have t:=a.cell 2 rfl;have u:=a.cell 3 rfl;have p:=f.cell 0 rfl;have q:=f.cell 1 rfl;simp[results,Tryz.f7,go_sem,r,s,t,u,p,q]
section
variable {w W:World} {N:Nat}
structure RB (w W:World) (N:Nat):Prop where
 n:BoxC W N #[.int .i64 0,.string ⟨#[]⟩,.int .i64 0,.slice none 0 0] 25
 f:BoxC W (N+1) #[.int .i64 0,.int .i64 0] 28
 b:Below w.heap.size w W
 hN:w.heap.size=N
theorem RB.below (a:RB w W N) {d:World} (c:Below W.heap.size W d):RB w d N:=⟨a.n.below c,a.f.below c,a.b.trans (c.mono a.b.size),a.hN⟩
theorem RB.alloc (b:RB w W N) (a:Obj):RB w (W.alloc a) N:=b.below (bal a)
theorem RB.grown (a:RB w W N) {d:World} {b:Nat} (c:W.grownBy d (some b)) (g:N+1<b):RB w d N:=⟨a.n.grown c oE,a.f.grown c oE,a.b.grown c a.b.size (fun h e=>by injection e with e;have:=a.hN;omega),a.hN⟩
theorem RB.cells (a:RB w W N):W.cell? ⟨N,0,none⟩=some (.int .i64 0)/\W.cell? ⟨N,1,none⟩=some (.string ⟨#[]⟩)/\W.cell? ⟨N,2,none⟩=some (.int .i64 0)/\W.cell? ⟨N,3,none⟩=some (.slice none 0 0)/\W.cell? ⟨N+1,0,none⟩=some (.int .i64 0)/\W.cell? ⟨N+1,1,none⟩=some (.int .i64 0)/\(∀b,W.frozen? ⟨N,b,none⟩=false)/\∀b,W.frozen? ⟨N+1,b,none⟩=false :=
 ⟨a.n.cell 0 rfl,a.n.cell 1 rfl,a.n.cell 2 rfl,a.n.cell 3 rfl,a.f.cell 0 rfl,a.f.cell 1 rfl,a.n.fz,a.f.fz⟩
theorem RB.done (j:RB w W N) (e g h i a c:Value):BoxC ((((((W.setCell ⟨N,0,none⟩ e).setCell ⟨N,1,none⟩ g).setCell ⟨N,2,none⟩ h).setCell ⟨N,3,none⟩ i).setCell ⟨N+1,0,none⟩ a).setCell ⟨N+1,1,none⟩ c) N #[e,g,h,i] 25/\BoxC ((((((W.setCell ⟨N,0,none⟩ e).setCell ⟨N,1,none⟩ g).setCell ⟨N,2,none⟩ h).setCell ⟨N,3,none⟩ i).setCell ⟨N+1,0,none⟩ a).setCell ⟨N+1,1,none⟩ c) (N+1) #[a,c] 28/\Below w.heap.size w ((((((W.setCell ⟨N,0,none⟩ e).setCell ⟨N,1,none⟩ g).setCell ⟨N,2,none⟩ h).setCell ⟨N,3,none⟩ i).setCell ⟨N+1,0,none⟩ a).setCell ⟨N+1,1,none⟩ c):=by
 have d:w.heap.size<=N:=Nat.le_of_eq j.hN;refine⟨((((((j.n.set 0 e).set 1 g).set 2 h).set 3 i).other (b:=N+1) (o:=0) oA a).other (b:=N+1) (o:=1) oA c),(((((j.f.other (b:=N) (o:=0) oA e).other (b:=N) (o:=1) oA g).other (b:=N) (o:=2) oA h).other (b:=N) (o:=3) oA i).set 0 a).set 1 c,?_⟩;exact(((((j.b.setCell (p:=⟨N,0,none⟩) d _).setCell (p:=⟨N,1,none⟩) d _).setCell (p:=⟨N,2,none⟩) d _).setCell (p:=⟨N,3,none⟩) d _).setCell (p:=⟨N+1,0,none⟩) (Nat.le_succ_of_le d) _).setCell (p:=⟨N+1,1,none⟩) (Nat.le_succ_of_le d) _
theorem RB.drew (a:RB w W N):RB w W.drew N:=⟨a.n,a.f,a.b.drew,a.hN⟩
theorem zay.mkBad {w W:World} {j:ByteArray} {b:Int × Int} {a d:Int} {c:Ending} (f:b=(a,d)) (h:a≠0) (i:c=.returned (.tuple #[zg3,.agg #[.int .i64 a,.int .i64 d]])) (g:Below w.heap.size w W):zay w j b c W:=by
 subst f;exact⟨_,i,fun e=>absurd e h,fun _=>rfl,g⟩
end
theorem yav (o:ByteArray) (a:List FV) (bF:Value) (r:ByteArray) (j:List Kid) (w:World) (aM:HasAll w) (cp:cC w bF a) (aD:(parse o).code=0->(parse o).tree=.node 1 r 0 (j.map Kid.tree)/\r.size<=16/\(∀L∈j,L.good/\L.named/\gA L)/\kC (j.map Kid.tree)<=900/\j.length<=900/\∀L∈j,L.kids.length<=900) : Calls Tryz.prog 7 #[.string o,bF] w (zay w o (ckF o (a.map (·.1)) r j)):=by
 have dr:=kc25;have ds:=kc28;have dt:Tryz.prog.cellsOf 55=3:=xO;have e1:=@run_makeMap Tryz.prog;obtain⟨a2,P⟩:∃a2,Hid (ckF o (a.map (·.1)) r j=a2):=⟨_,rfl⟩
 rw[P.out];obtain⟨bj,dq,rfl,e2,aZ⟩:=cp
 have aA:∀h∈a,zM w (fvV h) h.1:=fun h d1=>by
  obtain⟨K,hi,rfl⟩:=List.mem_iff_getElem.1 d1;obtain⟨co,y,_,aT⟩:=aZ (fun Q=>by rw[Q]at hi;cases hi);exact(aT K hi).2.2.2.1
 have p:RB w (((w.alloc (.cells #[.int .i64 0,.string ⟨#[]⟩,.int .i64 0,.slice none 0 0] 25)).alloc (.cells #[.int .i64 0,.int .i64 0] 28)).alloc (.map #[] 0)) w.heap.size:=by
  refine⟨((BoxC.new w _ _).alloc _).alloc _,?_,((bal _).alloc oC _).alloc oE _,rfl⟩;have:=(BoxC.new (w.alloc (.cells #[.int .i64 0,.string ⟨#[]⟩,.int .i64 0,.slice none 0 0] 25)) #[.int .i64 0,.int .i64 0] 28).alloc (.map #[] 0);rw[jO]at this;exact this
 have a9:kI (((w.alloc (.cells #[.int .i64 0,.string ⟨#[]⟩,.int .i64 0,.slice none 0 0] 25)).alloc (.cells #[.int .i64 0,.int .i64 0] 28)).alloc (.map #[] 0)) (w.heap.size+1+1) 0 (fun k=>fvO (xS [] k)):=by
  have:=kI.made ((w.alloc (.cells #[.int .i64 0,.string ⟨#[]⟩,.int .i64 0,.slice none 0 0] 25)).alloc (.cells #[.int .i64 0,.int .i64 0] 28));rw[jO,jO]at this;exact this
 go_enter Tryz.func7,Tryz.ntmps7;go_wp2;generalize (((w.alloc (.cells #[.int .i64 0,.string ⟨#[]⟩,.int .i64 0,.slice none 0 0] 25)).alloc (.cells #[.int .i64 0,.int .i64 0] 28)).alloc (.map #[] 0))=dn at *;go_loopw [20] (fun t wr=>∃c:Nat,c<=a.length/\t=.int .i64 c/\RB w wr w.heap.size/\kI wr (w.heap.size+1+1) c (fun k=>fvO (xS (a.take c) k))/\Hid (gR [] (a.map (·.1))=gR ((a.map (·.1)).take c) ((a.map (·.1)).drop c))) (fun t _=>a.length - (intOf t).toNat)
 case atStart=>exact⟨0,jz _,rfl,p,a9,by show _=_;simp⟩
 case round =>
  clear p a9;obtain⟨c,dz,rfl,p,a9,aL⟩:=hrel;by_cases aJ:c<a.length
  ·obtain⟨co,y,rfl,aT⟩:=aZ (by intro Q;rw[Q]at aJ;simp at aJ);obtain⟨ch,x,ci,aV,aY⟩:=aT c aJ;have ch:=keep ch p.b;have x:=keep x p.b;have ci:=keep ci p.b;have aV:=aV.below p.b;have bv:=zui (a.map (·.1)) c (by simpa using aJ)
   rw[List.getElem_map]at bv;have ad:=zut (a.take c) a[c].1.module;rw[List.map_take]at ad;have aC:=zuu (a.take c) a[c];rw[List.map_take]at aC;have cg:a.take (c+1)=a.take c++[a[c]]:=List.take_succ_eq_append_getElem aJ;rw[<- cg]at aC;have ay:Hid _:=aL.out.trans bv;clear aZ aT bv cg aL;generalize d5:a[c]=q at *;clear d5;obtain⟨du,ag,ao,C,ah,ap,D,aK⟩:=zff aV;obtain⟨l,ea,g⟩:=q;unfold fvV at aK;dsimp only at *;injection aK with aK;simp only[Array.mk.injEq,jq,and_true]at aK;obtain⟨_,rfl,rfl⟩:=aK;have c8:=p.alloc (.cells #[.string l.module,.slice ag ao C,.slice ah ap D] 55);have bp:kI (wr.alloc (.cells #[.string l.module,.slice ag ao C,.slice ah ap D] 55)) (w.heap.size+1+1) c (fun k=>fvO (xS (a.take c) k)):=a9.below (bal _);have dy:=a9.lt
   cases aB:xS (a.take c) l.module with
   | some V =>
    have d2:V∈a:=List.mem_of_mem_take (List.mem_of_find?_eq_some aB);obtain⟨da,B,M,E,cm,d6,cn,d3⟩:=zff (aA V d2);have az:=c8.alloc (.cells #[.string da,.slice B M E,.slice cm d6 cn] 55)
    have N:Hid (a2=(2,0)):=by
     show _=_;rw[<- P.out];unfold ckF;rw[jv];rw[ay.out];rw[aB]at ad;rw[<- ad];rfl
    clear ay P aC ad aD aA;obtain⟨b8,b9,ba,bb,b1,b2,i,z⟩:=az.cells;have bc:=i 0;have be:=i 1;have bf:=i 2;have bg:=i 3;have b6:=z 0;have b7:=z 1
    go_wp2_with first
     | (at_lookup;refine zbk (f:=fun k=>fvO (xS (a.take c) k)) rfl _ _ rfl rfl bp l.module aY rfl ?_;rw[aB,show fvO (some V)=some (fvV V)from rfl,d3])
     | go_in
    obtain⟨bA,bB,bC⟩:=az.done (.int .i64 0) (.string ⟨#[]⟩) (.int .i64 0) (.slice none 0 0) (.int .i64 2) (.int .i64 0)
    exact zmc
   | none =>
    have az:=c8.alloc (.cells #[.string ⟨#[]⟩,.slice none 0 0,.slice none 0 0] 55);have bG:Below wr.heap.size wr ((wr.alloc (.cells #[.string l.module,.slice ag ao C,.slice ah ap D] 55)).alloc (.cells #[.string ⟨#[]⟩,.slice none 0 0,.slice none 0 0] 55)):=(bal _).alloc oC _;have cx:=aV.below bG;have cq:qQ ((wr.alloc (.cells #[.string l.module,.slice ag ao C,.slice ah ap D] 55)).alloc (.cells #[.string ⟨#[]⟩,.slice none 0 0,.slice none 0 0] 55)):=(hasAll_below aM az.b).1.1;have aQ:=(BoxC.new wr #[.string l.module,.slice ag ao C,.slice ah ap D] 55).alloc (.cells #[.string ⟨#[]⟩,.slice none 0 0,.slice none 0 0] 55);have dd:=aQ.cell 0 rfl;have de:=aQ.cell 1 rfl;have df:=aQ.cell 2 rfl;have ct:=a9.below bG;have aO:=yc3 l _ _ cq cx;unfold fvV at aO;dsimp only at aO
    have aS:(List.take c (a.map (·.1))).any (fun h=>eqS h.module l.module)=false:=by
     rw[aB]at ad;exact ad.symm
    cases aX:cT l with
    | false =>
     have N:Hid (a2=(2,0)):=by
      show _=_;rw[<- P.out];unfold ckF;rw[jv];rw[ay.out,aX];simp
     clear ay P aC ad aD aA aS
     go_wp2_with first
      | (at_lookup;refine zbk (f:=fun k=>fvO (xS (a.take c) k)) rfl _ _ rfl rfl bp l.module aY rfl ?_;rw[aB,show fvO none=(none:Option Value)from rfl];unfold vI)
      | (go_at_call 15;refine aO.mono ?_;rintro Q m ⟨rfl,a5⟩;rw[aX];have T:=az.below a5;obtain⟨b8,b9,ba,bb,b1,b2,i,z⟩:=T.cells;have bc:=i 0;have be:=i 1;have bf:=i 2;have bg:=i 3;have b6:=z 0;have b7:=z 1)
      | go_in
     obtain⟨bA,bB,bC⟩:=T.done (.int .i64 0) (.string ⟨#[]⟩) (.int .i64 0) (.slice none 0 0) (.int .i64 2) (.int .i64 0)
     exact zmc
    | true =>
     have cj:Hid (gR [] (a.map (·.1))=gR ((a.map (·.1)).take (c+1)) ((a.map (·.1)).drop (c+1))):=by
      show _=_;rw[ay.out,aX,aS];simp
     have cz:=aC aS;clear ay aC ad aS
     go_wp2_with first
      | (at_lookup;refine zbk (f:=fun k=>fvO (xS (a.take c) k)) rfl _ _ rfl rfl bp l.module aY rfl ?_;rw[aB,show fvO none=(none:Option Value)from rfl];unfold vI)
      | (go_at_call 15;refine aO.mono ?_;rintro Q m ⟨rfl,a5⟩;rw[aX];have T:=az.below a5;have cu:=ct.below a5;have bq:=aQ.below a5;have dd:=bq.cell 0 rfl;have de:=bq.cell 1 rfl;have df:=bq.cell 2 rfl)
      | (at_mapUpdate;refine zue rfl _ _ _ rfl rfl cu (by unfold maxLen;omega) l.module aY rfl (.agg #[.string l.module,.slice ag ao C,.slice ah ap D]) rfl ?_;intro eg bX cy)
      | go_in
     have aa:=T.grown cy oA;rw[show(fun k=>if eqS k l.module then some (Value.agg #[.string l.module,.slice ag ao C,.slice ah ap D])else fvO (xS (a.take c) k))=fun k=>fvO (xS (a.take (c+1)) k)from cz]at bX;exact⟨⟨c+1,oA,oC,aa,bX,cj⟩,by simp[intOf];omega⟩
  ·skip;obtain rfl:c=a.length:=oA;rw[jG (jE _)]at a9
   have bu:gR [] (a.map (·.1))=false:=by
    rw[aL.out,List.drop_eq_nil_of_le oC];rfl
   clear aL aZ;have bR:=hasAll_below aM p.b;by_cases an:(parse o).code=0
   ·obtain⟨b0,cL,aN,cr,bS,bo⟩:=aD an;have R:=zp8 o r j wr bR.1 an b0 cL (fun L aI=>(aN L aI).1) oA (fun L aI=>by have:=bo L aI;omega);unfold yW at R;rw[zbz]at R
    cases ae:kU r j [] [] 1 with
    | some q =>
     have a6:¬q.1=0:=by have:=zcy r j _ _ _ q ae;omega
     have N:Hid (a2=q):=by
      exact zmf
     rw[ae]at R;obtain⟨d,g⟩:=q;dsimp only at R a6;have cf:(d != 0)=true:=by simp[a6]
     clear P ae aD aA b0 aN cr bS bo;go_wp2_with (go_at_call 16;refine R.mono ?_;rintro Q s ⟨rfl,ac⟩;have u:=((p.below ac).alloc (.cells #[.string ⟨#[]⟩,.slice none 0 0,.slice none 0 0] 55)).alloc (.cells #[.int .i64 d,.int .i64 g] 28));have a3:=BoxC.new (s.alloc (.cells #[.string ⟨#[]⟩,.slice none 0 0,.slice none 0 0] 55)) #[.int .i64 d,.int .i64 g] 28;rw[jO]at a3;have ce:w.heap.size+1<s.heap.size+1:=by have:=(p.below ac).f.lt;omega
     generalize (s.alloc (.cells #[.string ⟨#[]⟩,.slice none 0 0,.slice none 0 0] 55)).alloc (.cells #[.int .i64 d,.int .i64 g] 28)=aE at *
     exact zmb
    | none =>
     rw[ae]at R
     have N:Hid (a2=nz ((moF (qR true r j) (a.map (·.1)) j [] 1).getD (0,0))):=by
      exact zmf
     have cH:=zyu ae aN;have d0:=ybb ae;clear P ae aD aN;have aP:=fun W (cv:gJ W)=>zeu o W cv
     unfold fK at aP;rw[an,b0]at aP;generalize (parse o).place=V at *;go_wp2_with (go_at_call 16;refine R.mono ?_;rintro Q s ⟨dp,dm,dl,db,e6,bh,_,rfl,bn,_,_,cc,ac⟩;obtain⟨av,aw,rfl⟩:=bn.shapeV;obtain⟨ar,au,rfl⟩:=bn.shapeP;obtain⟨e4,e5,rfl,_,_⟩:=lexs.own_shape cc;clear bn cc);have cb:Below wr.heap.size wr ((s.alloc (.cells #[.string r,.slice av (kV false j).length aw,.slice ar bh.length au] 55)).alloc (.cells #[.int .i64 0,.int .i64 0] 28)):=ac.trans ((((Below.refl s.heap.size s).alloc (jE _) _).alloc oC _).mono ac.size);have u:=p.below cb;have c6:=a9.below cb;have bN:=hasAll_below aM u.b;have dx:=u.f.lt;refine(aP ((s.alloc (.cells #[.string r,.slice av (kV false j).length aw,.slice ar bh.length au] 55)).alloc (.cells #[.int .i64 0,.int .i64 0] 28)) bN.1).mono ?_;clear aP R;generalize ((s.alloc (.cells #[.string r,.slice av (kV false j).length aw,.slice ar bh.length au] 55)).alloc (.cells #[.int .i64 0,.int .i64 0] 28))=aE at *;rintro Q m ⟨ef,rfl,aW,a5⟩;obtain⟨x,a8,M,B,a7,E,rfl⟩:=lies_shape aW;have ak:Below m.heap.size m ((m.alloc (.cells #[.int .i64 x,.string a8,.int .i64 M,.slice B a7 E] 25)).alloc (.cells #[.int .i64 0,.int .i64 V] 28)):=((Below.refl m.heap.size m).alloc (jE _) _).alloc oC _;have aa:=(u.below a5).below ak;have c7:=(c6.below a5).below ak;have bP:=hasAll_below aM aa.b;have br:BoxC ((m.alloc (.cells #[.int .i64 x,.string a8,.int .i64 M,.slice B a7 E] 25)).alloc (.cells #[.int .i64 0,.int .i64 V] 28)) m.heap.size #[.int .i64 x,.string a8,.int .i64 M,.slice B a7 E] 25:=(BoxC.new m _ _).alloc _;have cd:Lies (·<((m.alloc (.cells #[.int .i64 x,.string a8,.int .i64 M,.slice B a7 E] 25)).alloc (.cells #[.int .i64 0,.int .i64 V] 28)).heap.size) ((m.alloc (.cells #[.int .i64 x,.string a8,.int .i64 M,.slice B a7 E] 25)).alloc (.cells #[.int .i64 0,.int .i64 V] 28)) (.node 1 r 0 (j.map Kid.tree)) (.agg #[.int .i64 x,.string a8,.int .i64 M,.slice B a7 E]):=aW.to (fun b aj=>jo aj.2 ak.size) (fun b aj y=>ak.cell (p:=⟨b,y,none⟩) aj.2)
     have bM:=zy7 (gf:=xS a) (a.map (·.1)) r j _ ((m.alloc (.cells #[.int .i64 x,.string a8,.int .i64 M,.slice B a7 E] 25)).alloc (.cells #[.int .i64 0,.int .i64 V] 28)) (zwn a) (fun k q d4=>(aA q (List.mem_of_find?_eq_some d4)).below aa.b) (fun f cw=>zy1 (zkq _ _ bu f cw)) c7 bP.2 cd bS cH (fun L aI=>by have:=bo L aI;omega) oA d0
     have e3:=a5.size;clear cd c7 c6 bP bN;go_wp2_with (fail);refine bM.mono ?_;clear bM;rintro Q ax ⟨rfl,am⟩;generalize (moF (qR true r j) (a.map (·.1)) j [] 1).getD (0,0)=dc at *
     obtain⟨d,g⟩:=dc;dsimp only;have u:=(aa.below am).alloc (.cells #[.int .i64 d,.int .i64 g] 28);have aG:=(br.below am).alloc (.cells #[.int .i64 d,.int .i64 g] 28);have a3:=BoxC.new ax #[.int .i64 d,.int .i64 g] 28;have ce:w.heap.size+1<ax.heap.size:=(aa.below am).f.lt;have bs:Below m.heap.size m (ax.alloc (.cells #[.int .i64 d,.int .i64 g] 28)):=ak.trans ((am.trans (((Below.refl ax.heap.size ax).alloc (jE _) _).mono am.size)).mono ak.size);have e0:w.heap.size+1<aE.heap.size:=oA;by_cases a6:d=0
     ·subst a6;have bw:Hid (a2=(0,0)):=N.out;have eb:=aG.cell 0 rfl;have ec:=aG.cell 1 rfl;have ed:=aG.cell 2 rfl;have ee:=aG.cell 3 rfl;obtain⟨b8,b9,ba,bb,b1,b2,i,z⟩:=u.cells;have bc:=i 0;have be:=i 1;have bf:=i 2;have bg:=i 3;have b6:=z 0;have b7:=z 1;obtain⟨C,D,bm⟩:=u.done (.int .i64 x) (.string a8) (.int .i64 M) (.slice B a7 E) (.int .i64 0) (.int .i64 0);clear N am aa br a3;go_wp2;refine jT (v:=.tuple #[.agg #[.int .i64 x,.string a8,.int .i64 M,.slice B a7 E],.agg #[.int .i64 0,.int .i64 0]]) (zf5 _ _ _ C D) rfl ?_;refine⟨_,by rw[bw.out],fun _=>?_,fun G=>absurd (by rw[bw.out]) G,bm⟩;rw[b0];refine aW.to ?lsz ?lcl
      case lsz =>
       intro b aj;refine⟨oA,?_⟩;simp only[jQ];exact jo aj.2 bs.size
      case lcl =>
       intro b aj y;refine(jM (a:=⟨b,y,none⟩) ?_).trans (bs.cell (p:=⟨b,y,none⟩) aj.2);have aU:b≠w.heap.size:=oA;have ca:b≠w.heap.size+1:=oA;exact(((((jP _ _ _ b ca).trans (jP _ _ _ b ca)).trans (jP _ _ _ b aU)).trans (jP _ _ _ b aU)).trans (jP _ _ _ b aU)).trans (jP _ _ _ b aU)
     ·replace N:Hid (a2=(d,g)):=N.out.trans (ju a6);have cf:(d != 0)=true:=by simp[a6]
      clear bs am aa br aG aW ak;go_wp2;generalize ax.alloc (.cells #[.int .i64 d,.int .i64 g] 28)=bz at *;generalize ax.heap.size=e at *;have ab:(fun W=>W.cell? ⟨e,0,none⟩=some (.int .i64 d)/\W.cell? ⟨e,1,none⟩=some (.int .i64 g)) bz.drew:=⟨a3.cell 0 rfl,a3.cell 1 rfl⟩
      refine wp_region_held_drew (S:=fun W=>W.cell? ⟨e,0,none⟩=some (.int .i64 d)/\W.cell? ⟨e,1,none⟩=some (.int .i64 g)) oB ab (fun ai=>?_);clear ai;have T:=u.drew;clear u;generalize bz.drew=af at *;exact zl9
   ·have N:Hid (a2=((parse o).code,(parse o).place)):=by
     show _=_;rw[<- P.out];unfold ckF;rw[ju (by rw[bu];decide),jv an]
    have R:=zno o wr bR.1 an;clear P aD aA;generalize (parse o).code=d at *;generalize (parse o).place=g at *;have a6:¬d=0:=an;have cf:(d != 0)=true:=by simp[a6]
    go_wp2_with (go_at_call 16;refine R.mono ?_;rintro Q s ⟨dw,e9,rfl,⟨dl,db,rfl,⟨av,aw,rfl,_⟩,⟨ar,au,rfl,_⟩⟩,⟨e7,e8,rfl,_⟩,ac⟩;have u:=((p.below ac).alloc (.cells #[.string yT.module,.slice av yT.vars.length aw,.slice ar yT.procs.length au] 55)).alloc (.cells #[.int .i64 d,.int .i64 g] 28));have a3:=BoxC.new (s.alloc (.cells #[.string yT.module,.slice av yT.vars.length aw,.slice ar yT.procs.length au] 55)) #[.int .i64 d,.int .i64 g] 28;rw[jO]at a3;have ce:w.heap.size+1<s.heap.size+1:=by have:=(p.below ac).f.lt;omega
    generalize (s.alloc (.cells #[.string yT.module,.slice av yT.vars.length aw,.slice ar yT.procs.length au] 55)).alloc (.cells #[.int .i64 d,.int .i64 g] 28)=aE at *;exact zmb
end chk
namespace ord
open Go.RowKit Go.Shelf
open syn face chk
def holes (Q:Nat->Bool) (w:World):World:={ w with heap:=w.heap.mapIdx fun i o=>if Q i then .cells #[] 0 (0,0)else o }
variable {d:List ByteArray} {g:Nat->Bool} {j s:Nat} {u B:ByteArray}
theorem zfb {b:Nat} (w:World) (a:g b=false):(holes g w).heap[b]?=w.heap[b]?:=by
 simp[holes,a]
theorem zjd {w:World} {a:Addr} {v:Value} (b:(holes g w).cell? a=some v):g a.block=false/\w.cell? a=some v:=by
 cases c:g a.block with
 | false=>exact⟨rfl,by rw[<- jM (zfb w c)];exact b⟩
 | true =>
  exfalso;have e:a.block<(holes g w).heap.size:=jR _ a b
  have d:(holes g w).heap[a.block]?=some (.cells #[] 0 (0,0)):=by
   have f:a.block<w.heap.size:=by simpa[holes] using e
   simp[holes,c,f]
  simp[World.cell?,d]at b
theorem zje {w:World} {a:Addr} {v:Value} (c:g a.block=false) (b:w.cell? a=some v):(holes g w).cell? a=some v:=by
 rw[jM (zfb w c)];exact b
def zbb (n:Nat) (b:Nat):Bool:=decide (b<n)
theorem zfu {w:World} {c:TypeId} {v:Value} {n:Nat} {f:List Value} (a:w.ownsRow j c s v n f) (k:∀b,j<=b->g b=false):(holes g w).ownsRow j c s v n f:=by
 refine⟨a.1,?_⟩;rcases a.2 with a | ⟨d,h,i,m,e,l,o⟩
 ·exact .inl a
 ·exact .inr ⟨d,h,i,m,e,(zfb w (k d e)).trans l,o⟩
theorem FR.holes {h:Nat->Prop} {w:World} {k i:Value} {f:List VarD} {e:List (ProcD × Value)} (a:FR h j w k i f e) (d:∀b,j<=b->g b=false):FR h j (ord.holes g w) k i f e :=
 ⟨zfu a.ov d,zfu a.op d,fun q m=>(a.par q m).to (fun b c=>⟨c.1,by simpa[ord.holes] using c.2.1,c.2.2⟩) (fun b c n v l=>zje (d b c.1) l),a.dj,a.xv,a.xp⟩
def zez (w:World) (f:FaceD) (l:List ByteArray) (c a:Int) (e:Ending) (w':World):Prop :=
 ∃b lv,e=.returned (.tuple #[b,lv,.agg #[.int .i64 c,.int .i64 a]])/\zM (holes (zbb w.heap.size) w') b f/\zS (holes (zbb w.heap.size) w') lv l/\Below w.heap.size w w'
theorem yW.new {w:World} {c:List Kid} {d:Ending} {w':World} (a:yW w u c d w') : (match kU u c [] [] 1 with
   | some d=>zez w yT [] d.1 d.2
   | none=>zez w (qR false u c) (kR c) 0 0) d w':=by
 unfold yW at a;rw[zbz]at a
 cases g:kU u c [] [] 1 with
 | some q =>
  rw[g]at a
  exact⟨_,_,a.1,zka _,zkb _,a.2⟩
 | none =>
  rw[g]at a;obtain⟨o,h,y,x,v,i,r,n,k,e,t,hi,m⟩:=a;have f:∀b,h<=b->zbb w.heap.size b=false:=fun b a=>by unfold zbb;simp;omega
  have s:=zbw false c;have l:i.length<=1000:=by have j:=congrArg List.length e;have p:=zbn false c;rw[List.length_map]at j;omega
  refine⟨_,_,n,?_,zx0 (zfu hi f),m⟩;have:=(FR.holes k f).face (m:=u) oA l;rw[e]at this;exact this
theorem zS.mono {w w':World} (h:∀a v,w.cell? a=some v->w'.cell? a=some v) {v:Value} (g:zS w v d):zS w' v d:=by
 obtain⟨a,b,c,k,j⟩:=g;refine⟨a,b,c,k,fun l=>?_⟩;obtain⟨f,n,e,i⟩:=j l;exact⟨f,n,e,fun m hi=>h _ _ (i m hi)⟩
structure TX where
 m:ByteArray
 K:List Kid
 F:FaceD
 I:List ByteArray
 ec:Int
 ep:Int
def ze2:Tree->ByteArray × Bool
 | .node _ x l _=>(x,l==1)
def ze1:Tree->Kid
 | .node k x n ks=>if k=2 then .imp x else if k=3 then .var x (decide (2<=n)) (n % 2==1) (match ks with
   | []=>none
   | .node _ _ v _ :: _=>some v)else .proc x (decide (2<=n % 4)) (n % 2==1) (if n<4 then none else some (decide (8<=n))) (ks.dropLast.map ze2) (ks.getLastD (.node 0 empty 0 []))
theorem zvx (q:ByteArray × Bool):ze2 (zC q)=q:=by
 obtain⟨b,a⟩:=q;cases a<;>rfl
theorem ztj (f:Kid):ze1 f.tree=f:=by
 cases f with
 | imp e=>rfl
 | var e c a n=>cases n<;>cases c<;>cases a<;>rfl
 | proc e c a d ps b =>
  have h:(ps.map zC++[b]).dropLast=ps.map zC:=oC;have i:(ps.map zC++[b]).getLastD (.node 0 empty 0 [])=b:=oC
  have j:(ps.map zC).map ze2=ps:=by
   rw[List.map_map];exact(List.map_congr_left (fun q _=>zvx q)).trans (List.map_id ps)
  have key:ze1 (Kid.proc e c a d ps b).tree=.proc e (decide (2<=(2*bI c+bI a+gI d) % 4)) ((2*bI c+bI a+gI d) % 2==1) (if(2*bI c+bI a+gI d)<4 then none else some (decide (8<=(2*bI c+bI a+gI d)))) ((ps.map zC++[b]).dropLast.map ze2) ((ps.map zC++[b]).getLastD (.node 0 empty 0 [])):=rfl;rw[key,h,i,j];cases c<;>cases a<;>(cases d with | none=>rfl | some g=>cases g<;>rfl)
theorem zj6 (a:List Kid):(a.map Kid.tree).map ze1=a:=by
 rw[List.map_map];exact(List.map_congr_left (fun b _=>ztj b)).trans (List.map_id a)
def zba:Tree->ByteArray
 | .node _ m _ _=>m
def kidsT:Tree->List Kid
 | .node _ _ _ ks=>ks.map ze1
def tx (x:ByteArray):TX :=
 if(parse x).code≠0 then⟨⟨#[]⟩,[],yT,[],(parse x).code,(parse x).place⟩ else
 match kU (zba (parse x).tree) (kidsT (parse x).tree) [] [] 1 with
 | some q=>⟨zba (parse x).tree,kidsT (parse x).tree,yT,[],q.1,q.2⟩
 | none=>⟨zba (parse x).tree,kidsT (parse x).tree,qR false (zba (parse x).tree) (kidsT (parse x).tree),kR (kidsT (parse x).tree),0,0⟩
theorem yb9 {w:World} {c b:Int} {d:Ending} {w':World} (a:zqt w yT [] c b d w'):zez w yT [] c b d w':=by
 obtain⟨m,lv,f,⟨o,n,rfl,⟨g,j,rfl,_,_⟩,⟨h,k,rfl,_,_⟩⟩,⟨i,l,rfl,_,_⟩,e⟩:=a;exact⟨_,_,f,⟨_,_,rfl,⟨_,_,rfl,by simp[yT],fun a=>absurd rfl a⟩,⟨_,_,rfl,by simp[yT],fun a=>absurd rfl a⟩⟩,⟨_,_,rfl,oC,fun a=>absurd rfl a⟩,e⟩
structure TXOk (x:ByteArray) (t:TX):Prop where
 shp:Shp x t.m t.K
 of:∀W,gJ W->Calls Tryz.prog 16 #[.string x] W (zez W t.F t.I t.ec t.ep)
 bad:t.ec≠0->∀fs,(ckF x fs t.m t.K).1≠0
 good:t.ec=0->t.F=qR false t.m t.K/\t.I=kR t.K/\kU t.m t.K [] [] 1=none/\(parse x).code=0/\t.m.size<=16
theorem txo (d:ByteArray):TXOk d (tx d):=by
 unfold tx;by_cases a:(parse d).code=0
 ·obtain⟨h,e,c⟩:=shape5 d a;have n:zba (parse d).tree=h:=by rw[c.1];rfl
  have o:kidsT (parse d).tree=e:=by
   rw[c.1];exact zj6 e
  rw[ju (by simp[a]),n,o];have g:=fun W i=>(zp8 d h e W i a c.1 c.2.1 (fun k j=>(c.2.2.1 k j).1) oA (fun k j=>by have:=c.2.2.2.2.2 k j;omega)).mono (fun m w' b=>yW.new b)
  cases f:kU h e [] [] 1 with
  | some q =>
   rw[f]at g;refine⟨fun _=>c,g,fun l p=>?_,fun r=>absurd r (zdk h e [] [] 1 q f)⟩;unfold ckF;rw[a,f];split
   ·decide
   ·rw[ju oD]
    exact l
  | none =>
   rw[f]at g;exact⟨fun _=>c,g,fun b=>absurd rfl b,fun _=>⟨rfl,rfl,f,a,c.2.1⟩⟩
 ·rw[jv a];refine⟨fun b=>absurd b a,fun W i=>(zno d W i a).mono (fun m w' b=>yb9 b),fun l p=>?_,fun b=>absurd b a⟩;unfold ckF;split
  ·decide
  ·exact a
abbrev Tr:=Int × Int × Int
def nameOf (x:ByteArray):ByteArray:=(tx x).F.module
def vD:List ByteArray->Nat->Option Tr
 | [],_=>none
 | x :: r,i=>if(tx x).ec≠0 then some (i,(tx x).ec,(tx x).ep)else vD r (i+1)
def xM:List ByteArray->List ByteArray->Option Tr
 | _,[]=>none
 | seen,n :: r=>if kM seen n then some (seen.length,5,0)else xM (seen++[n]) r
def vO (ns:List ByteArray) (i:Nat):List ByteArray->Nat->Option Tr
 | [],_=>none
 | y :: r,k=>if kM ns y then vO ns i r (k+1)else some (i,4,1+k)
def uA (ns:List ByteArray):List (List ByteArray)->Nat->Option Tr
 | [],_=>none
 | l :: r,i=>match vO ns i l 0 with
  | some t=>some t
  | none=>uA ns r (i+1)
def qL (ns:List ByteArray) (a:ByteArray):Option Nat:=ns.findIdx? fun n=>eqS a n
def vP (ns:List ByteArray) (a:ByteArray):Nat:=(qL ns a).getD 0
def dA (ns:List ByteArray) (a:List Nat) (l:List ByteArray):Bool:=l.any fun y=>!a.contains (vP ns y)
def uR (ns:List ByteArray) (Is:List (List ByteArray)) (a:List Nat) (i:Nat):Bool:=!a.contains i&&!dA ns a (Is.getD i [])
def fQ (ns:List ByteArray) (Is:List (List ByteArray)) (a:List Nat):Option Nat:=(List.range Is.length).find? (uR ns Is a)
def takeF (ns:List ByteArray) (Is:List (List ByteArray)):Nat->List Nat->List Nat
 | 0,t=>t
 | k+1,t=>match fQ ns Is t with
  | some i=>takeF ns Is k (t++[i])
  | none=>t
def uB (n:Nat) (a:List Nat):Option Tr:=((List.range n).find? fun i=>!a.contains i).map fun (i:Nat)=>((i:Int),(3:Int),(0:Int))
def gP (xs:List ByteArray) (x:ByteArray):List FaceD:=(tx x).I.map fun y=>(tx (xs.getD (vP (xs.map nameOf) y) x)).F
def xH (xs:List ByteArray):List Nat->Option Tr
 | []=>none
 | i :: r=>let x:=xs.getD i ⟨#[]⟩;let f:=ckF x (gP xs x) (tx x).m (tx x).K
  if f.1≠0 then some (i,f.1,f.2)else xH xs r
def vT (p:ProcD):Bool:=eqS p.name ⟨#[109,97,105,110]⟩&&p.params.length==0&&p.writes==0&&!p.gives
def fN (xs:List ByteArray):Option Tr :=
 match qL (xs.map nameOf) ⟨#[109,97,105,110]⟩ with
 | none=>some (0,4,0)
 | some i=>if(tx (xs.getD i ⟨#[]⟩)).F.procs.any vT then none else some (0,4,0)
def uS (xs:List ByteArray):List Nat:=takeF (xs.map nameOf) (xs.map fun x=>(tx x).I) xs.length []
def orderF (xs:List ByteArray):Option Tr :=
 if xs.length=0\/6<xs.length then some (0,1,0)else
 match vD xs 0 with
 | some t=>some t
 | none=>match xM [] (xs.map nameOf)with
  | some t=>some t
  | none=>match uA (xs.map nameOf) (xs.map fun x=>(tx x).I) 0 with
   | some t=>some t
   | none=>match uB xs.length (uS xs)with
    | some t=>some t
    | none=>match xH xs (uS xs)with
     | some t=>some t
     | none=>fN xs
/-! facts -/
theorem zvd (b:List ByteArray) (c a:ByteArray) (d:kM b c=false):qL (b++[c]) a=if eqS a c then some b.length else qL b a:=by
 unfold qL;rw[List.findIdx?_append]
 cases e:eqS a c with
 | true =>
  have:b.findIdx? (fun n=>eqS a n)=none:=by
   rw[List.findIdx?_eq_none_iff];intro n g
   cases f:eqS a n with
   | false=>rfl
   | true =>
    obtain rfl:=vF.1 f;obtain rfl:=vF.1 e;unfold kM at d;rw[List.any_eq_false]at d;exact absurd f (d _ g)
  rw[this]
  simp[List.findIdx?_cons,e]
 | false=>simp[List.findIdx?_cons,e]
theorem zdf (a:eqS u B=true):eqS B u=true:=by
 obtain rfl:=vF.1 a;exact a
theorem zda (c:kM d u=true):∃b,qL d u=some b/\b<d.length/\vP d u=b:=by
 unfold kM at c;rw[List.any_eq_true]at c;obtain⟨n,f,e⟩:=c
 cases a:qL d u with
 | none =>
  unfold qL at a;rw[List.findIdx?_eq_none_iff]at a;have:=a n f;rw[zdf e]at this
  cases this
 | some b =>
  refine⟨b,rfl,?_,by simp[vP,a]⟩;unfold qL at a;rw[List.findIdx?_eq_some_iff_getElem]at a;exact a.1
theorem zkc (a:kM d u=false):qL d u=none:=by
 unfold qL;rw[List.findIdx?_eq_none_iff];intro n b
 cases c:eqS u n with
 | false=>rfl
 | true =>
  unfold kM at a;rw[List.any_eq_false]at a;exact absurd (zdf c) (a _ b)
theorem znn (a:qL d u=some j):∃hi:j<d.length,eqS u d[j]=true:=by
 unfold qL at a;rw[List.findIdx?_eq_some_iff_getElem]at a;obtain⟨hi,b,_⟩:=a;exact⟨hi,b⟩
theorem zj1 (b:List ByteArray) (c:Nat):∀(e:List ByteArray) (d:Nat),vO b c e d=none->∀y∈e,kM b y=true
 | [],_,_,y,a=>by cases a
 | z :: r,d,h,y,a=>by
  unfold vO at h;split at h
  ·rename_i f;rcases List.mem_cons.1 a with rfl | a
   ·exact f
   ·exact zj1 b c r _ h y a
  ·cases h
theorem zfg (c:List ByteArray):∀(L:List (List ByteArray)) (d:Nat),uA c L d=none->∀l∈L,∀y∈l,kM c y=true
 | [],_,_,l,b=>by cases b
 | a :: r,d,h,l,b=>by
  unfold uA at h;split at h;·cases h
  ·rename_i e;rcases List.mem_cons.1 b with rfl | b
   ·exact zj1 c d _ _ e
   ·exact zfg c r _ h l b
theorem zjn:∀(c:List ByteArray) (b:Nat),vD c b=none->∀x∈c,(tx x).ec=0
 | [],_,_,x,a=>by cases a
 | z :: r,b,h,x,a=>by
  unfold vD at h;split at h;·cases h
  ·rename_i d;rcases List.mem_cons.1 a with rfl | a
   ·simpa using d
   ·exact zjn r _ h x a
structure Tk (n:Nat) (t:List Nat):Prop where
 lt:∀i∈t,i<n
 nd:t.Nodup
theorem Tk.len {n:Nat} {t:List Nat} (a:Tk n t):t.length<=n:=by
 have:=a.nd.length_le_of_subset (l₂:=List.range n) (fun b hi=>List.mem_range.2 (a.lt b hi));simpa using this
theorem zc9 {a:List (List ByteArray)} {t:List Nat} (b:fQ d a t=some j):j<a.length/\uR d a t j=true/\j∉t:=by
 unfold fQ at b;have c:=List.find?_some b;have e:=List.mem_range.1 (List.mem_of_find?_eq_some b);refine⟨e,c,fun hi=>?_⟩;unfold uR at c;simp[hi]at c
theorem Tk.snoc {n:Nat} {t:List Nat} (c:Tk n t) (hi:j<n) (g:j∉t):Tk n (t++[j]):=by
 refine⟨fun h a=>?_,?_⟩
 ·rcases List.mem_append.1 a with a | a
  ·exact c.lt h a
  ·simp at a;omega
 ·rw[List.nodup_append];refine⟨c.nd,oC,fun i f b d=>?_⟩;simp at d;subst d;intro e;exact g (e▸f)
theorem zgo {ns:List ByteArray} {Is:List (List ByteArray)}:∀(a:Nat) (t:List Nat),Tk Is.length t->Tk Is.length (takeF ns Is a t)
 | 0,t,h=>h
 | a+1,t,h=>by
  unfold takeF;split;·rename_i d hi;obtain⟨b,_,c⟩:=zc9 hi;exact zgo a _ (h.snoc b c)
  ·exact h
theorem zua {a:List (List ByteArray)} {t:List Nat} (c:fQ d a t=none):∀b,takeF d a b t=t
 | 0=>rfl
 | b+1=>by unfold takeF;rw[c]
theorem zub {ns:List ByteArray} {Is:List (List ByteArray)} {t:List Nat} {i:Nat} (e:Tk Is.length t) (b:fQ ns Is t=some i):takeF ns Is (Is.length - t.length) t=takeF ns Is (Is.length - (t++[i]).length) (t++[i]):=by
 obtain⟨c,_,d⟩:=zc9 b;have g:=(e.snoc c d).len;simp only[jb,jd,je]at g |-;obtain⟨a,f⟩:∃a,Is.length - t.length=a+1:=⟨Is.length - t.length - 1,oA⟩
 rw[f,show Is.length - (t.length+(0+1))=a by omega]
 conv=>lhs;unfold takeF
 rw[b]
theorem zjh {n:Nat} {t:List Nat} (a:uB n t=none) (b:Nat) (hi:b<n):b∈t:=by
 unfold uB at a;rw[Option.map_eq_none_iff,List.find?_eq_none]at a;have:=a b (List.mem_range.2 hi);simpa using this
end ord
namespace chk
open Go.RowKit Go.Shelf
open syn face
def zeo (q:FV):List Value:=[.string q.1.module,q.2.1,q.2.2]
def vE (l:List FV):List Value:=l.flatMap zeo
theorem zil:∀(b:List FV) (a:Nat) (c:a<b.length),(vE b)[a*3]?=some (.string b[a].1.module)/\(vE b)[a*3+1]?=some b[a].2.1/\(vE b)[a*3+2]?=some b[a].2.2
 | [],a,c=>by simp at c
 | q :: b,0,c=>by simp[vE,zeo]
 | q :: b,a+1,c=>by
  have g:a<b.length:=by simpa using c
  have d:=zil b a g;have e:vE (q :: b)=[.string q.1.module,q.2.1,q.2.2]++vE b:=rfl;have f:(a+1)*3=a*3+3:=oA;rw[e,f];refine⟨?_,?_,?_⟩;·rw[List.getElem?_append_right oC];simpa using d.1
  ·rw[List.getElem?_append_right oC];simpa using d.2.1
  ·rw[List.getElem?_append_right oC];simpa using d.2.2
theorem ybz:(Tryz.prog.info? 55).map (fun a=>(a.zero,a.size,a.bytes))=some (some (.agg #[.string ⟨#[]⟩,.slice none 0 0,.slice none 0 0]),3,64):=oB
theorem zh9 {w w':World} (d:Below w.heap.size w w') {a:Addr} {v:Value} (b:w.cell? a=some v):w'.cell? a=some v:=by
 have e:a.block<w.heap.size:=by
  cases c:w.heap[a.block]? with
  | none=>simp[World.cell?,c]at b
  | some f=>exact(Array.getElem?_eq_some_iff.1 c).1
 rw[d.cell e];exact b
theorem cC.below {w w':World} {v:Value} {b:List FV} (f:cC w v b) (a:Below w.heap.size w w'):cC w' v b:=by
 obtain⟨c,d,rfl,n,m⟩:=f;refine⟨c,d,rfl,n,fun o=>?_⟩;obtain⟨e,q,rfl,l⟩:=m o;refine⟨e,q,rfl,fun p hi=>?_⟩;obtain⟨g,h,i,j,k⟩:=l p hi;exact⟨zh9 a g,zh9 a h,zh9 a i,j.below a,k⟩
end chk
namespace ord
open Go.RowKit Go.Shelf Go.Maps Go.WideMaps
open syn face chk
structure MD where
 x:ByteArray
 vv:Value
 pv:Value
 iv:Value
def MD.q (m:MD):FV:=((tx m.x).F,m.vv,m.pv)
def zes (m:MD):List Value:=[.string m.x,.string (nameOf m.x),m.vv,m.pv,m.iv]
def vS (l:List MD):List Value:=l.flatMap zes
def yF (w:World) (m:MD):Prop:=zM w (fvV m.q) m.q.1/\zS w m.iv (tx m.x).I/\(tx m.x).ec=0
theorem yF.mono {w w':World} {d:MD} (a:yF w d) (c:∀b v,w.cell? b=some v->w'.cell? b=some v):yF w' d:=⟨zM.mono c a.1,zS.mono c a.2.1,a.2.2⟩
theorem yF.move {b Q':Nat->Bool} {w w':World} {c:MD} (d:yF (holes b w) c) (i:∀a v,b a.block=false->w.cell? a=some v->Q' a.block=false/\w'.cell? a=some v):yF (holes Q' w') c :=
 d.mono fun a v j=>by
  obtain⟨e,f⟩:=zjd j;obtain⟨g,h⟩:=i a v e f;exact zje g h
theorem yF.real {b:Nat->Bool} {w:World} {a:MD} (c:yF (holes b w) a):yF w a:=c.mono fun e v d=>(zjd d).2
theorem yF.small {w:World} {a:MD} (b:yF w a):(nameOf a.x).size<=16:=by
 obtain⟨c,e,f,g,d⟩:=(txo a.x).good b.2.2;show((tx a.x).F.module).size<=16;rw[c];exact d
theorem zr3 (a:List MD) (b:MD):vS (a++[b])=vS a++zes b:=by simp[vS]
theorem zi1:∀(b:List MD) (a:Nat) (d:a<b.length),(vS b)[a*5]?=some (.string b[a].x)/\(vS b)[a*5+1]?=some (.string (nameOf b[a].x))/\(vS b)[a*5+2]?=some b[a].vv/\(vS b)[a*5+3]?=some b[a].pv/\(vS b)[a*5+4]?=some b[a].iv
 | [],a,d=>by simp at d
 | q :: b,0,d=>by simp[vS,zes]
 | q :: b,a+1,d=>by
  have g:a<b.length:=by simpa using d
  have c:=zi1 b a g;have e:vS (q :: b)=[.string q.x,.string (nameOf q.x),q.vv,q.pv,q.iv]++vS b:=rfl;have f:(a+1)*5=a*5+5:=oA;rw[e,f];refine⟨?_,?_,?_,?_,?_⟩;·rw[List.getElem?_append_right oC];simpa using c.1
  ·rw[List.getElem?_append_right oC];simpa using c.2.1
  ·rw[List.getElem?_append_right oC];simpa using c.2.2.1
  ·rw[List.getElem?_append_right oC];simpa using c.2.2.2.1
  ·rw[List.getElem?_append_right oC];simpa using c.2.2.2.2
theorem yb0:(Tryz.prog.info? 173).map (fun a=>(a.zero,a.size,a.bytes))=some (some (.agg #[.string ⟨#[]⟩,.string ⟨#[]⟩,.slice none 0 0,.slice none 0 0,.slice none 0 0]),5,104):=oB
def natV (i:Nat):Value:=.int .i64 i
def gS (D:Nat) (mv:Value) (b:Nat):Bool:=b==D||b==D+1||mv.ownBlock==some b
structure PS (w:World) (D:Nat) (mv:Value) (L:List MD) (n:Nat) (f:ByteArray->Option Nat):Prop where
 box:BoxC w (D+1) #[mv,.map (some D)] 121
 row:w.ownsRow (D+2) 173 5 mv L.length (vS L)
 map:kI w D n (fun z=>(f z).map natV)
 mods:∀m∈L,yF (holes (gS D mv) w) m
section
variable {w w':World} {D n:Nat} {mv:Value} {L:List MD} {f:ByteArray->Option Nat}
theorem PS.below (a:PS w D mv L n f) (b:Below w.heap.size w w'):PS w' D mv L n f :=
 ⟨a.box.below b,a.row.kept (grown_of_below b) (by cases mv.ownBlock<;>simp),a.map.below b,fun g e=>(a.mods g e).move fun h v c d=>⟨c,keep d b⟩⟩
theorem zkx {D:Nat} {mv:Value} {b:Nat} (a:gS D mv b=false):b≠D/\b≠D+1/\mv.ownBlock≠some b:=by
 unfold gS at a;simp only[Bool.or_eq_false_iff,beq_eq_false_iff_ne,ne_eq]at a;exact⟨a.1.1,a.1.2,a.2⟩
theorem zli {D:Nat} {mv:Value} {b:Nat} (a:b≠D) (c:b≠D+1) (d:mv.ownBlock≠some b):gS D mv b=false:=by
 unfold gS;simp[a,c,d]
theorem PS.md (b:PS w D mv L n f) {a:MD} (c:a∈L):yF w a:=(b.mods a c).real
theorem PS.push (h:PS w D mv L n f) {j:MD} {c e:Nat} (y:yF (holes (gS D mv) w) j) (z:w'.ownsRow (D+2) 173 5 (.slice (some ⟨c,0,none⟩) (L.length+1) e) (L.length+1) (vS L++zes j)) (k:w.grownBy w' mv.ownBlock) (o:mv.ownBlock=some c\/c=w.heap.size) : PS (w'.setCell ⟨D+1,0,none⟩ (.slice (some ⟨c,0,none⟩) (L.length+1) e)) D (.slice (some ⟨c,0,none⟩) (L.length+1) e) (L++[j]) n f:=by
 have l:∀b,mv.ownBlock=some b->D+2<=b:=fun b a=>(h.row.lt b a).1
 have u:mv.ownBlock≠some (D+1):=fun a=>by have:=l _ a;omega
 have t:mv.ownBlock≠some D:=fun a=>by have:=l _ a;omega
 have E:D+2<=c:=by
  rcases o with a | a
  ·exact l _ a
  ·have:=h.box.lt;omega
 refine⟨?_,?_,?_,?_⟩;·have:=(h.box.grown k u).set 0 (.slice (some ⟨c,0,none⟩) (L.length+1) e);simpa using this
 ·have:=jU (a:=⟨D+1,0,none⟩) z (fun a=>by simp[Value.ownBlock]at a;omega) (.slice (some ⟨c,0,none⟩) (L.length+1) e);rw[jb,zr3];exact this
 ·exact(h.map.kept k (fun a=>t a.symm)).setCell (by show D≠D+1;omega) _
 ·have p:∀d,yF (holes (gS D mv) w) d->yF (holes (gS D (.slice (some ⟨c,0,none⟩) (L.length+1) e)) (w'.setCell ⟨D+1,0,none⟩ (.slice (some ⟨c,0,none⟩) (L.length+1) e))) d:=fun d g=>g.move fun i v C s=>by
   obtain⟨B,q,r⟩:=zkx C;have x:=jR w i s;refine⟨zli B q (fun a=>?_),?_⟩
   ·simp[Value.ownBlock]at a;rcases o with m | m
    ·exact r (by rw[m,a])
    ·omega
   ·rw[jM (jP w' ⟨D+1,0,none⟩ _ i.block q),k.cell_far i x (fun a=>r a.symm)];exact s
  intro d g;rcases List.mem_append.1 g with g | g
  ·exact p d (h.mods d g)
  ·obtain rfl:d=j:=by simpa using g
   exact p d y
theorem PS.turned {h:ByteArray->Option Nat} {i:Nat} (a:PS w D mv L n f) (e:kI w' D i (fun q=>(h q).map natV)) (d:w.grownBy w' (some D)):PS w' D mv L i h:=by
 have m:∀b,mv.ownBlock=some b->D+2<=b:=fun b c=>(a.row.lt b c).1
 refine⟨a.box.grown d oC,a.row.kept d ?_,e,fun o e=>(a.mods o e).move fun g v j k=>?_⟩
 ·cases c:mv.ownBlock with
  | none=>exact .inl rfl
  | some b=>exact .inr (fun l=>by have:=m b c;simp at l;omega)
 ·obtain⟨p,r,s⟩:=zkx j;refine⟨j,?_⟩;rw[d.cell_far g (jR w g k) (by simpa using p)];exact k
theorem PS.lt (a:PS w D mv L n f):D+1<w.heap.size:=a.box.lt
theorem PS.shape (e:PS w D mv L n f):∃d g,mv=.slice d L.length g/\(0<L.length->∃b,d=some ⟨b,0,none⟩/\∀a (hi:a<L.length),w.cell? ⟨b,a*5,none⟩=some (.string L[a].x)/\w.cell? ⟨b,a*5+1,none⟩=some (.string (nameOf L[a].x))/\w.cell? ⟨b,a*5+2,none⟩=some L[a].vv/\w.cell? ⟨b,a*5+3,none⟩=some L[a].pv/\w.cell? ⟨b,a*5+4,none⟩=some L[a].iv):=by
 have c:=e.row;rcases c.2 with⟨rfl,i⟩|⟨b,h,p,rfl,_,_,q,r,_⟩
 ·exact⟨none,0,by rw[i],fun e=>oA⟩
 ·refine⟨some ⟨b,0,none⟩,h,rfl,fun _=>⟨b,rfl,fun a hi=>?_⟩⟩;obtain⟨j,k,l,m,o⟩:=zi1 L a hi;exact⟨by rw[c.cellAt _ oA];exact j,by rw[c.cellAt _ oA];exact k,by rw[c.cellAt _ oA];exact l,by rw[c.cellAt _ oA];exact m,by rw[c.cellAt _ oA];exact o⟩
end
/-! the map of numbers -/
theorem zrf (w:World):(zeroValue 3).run Tryz.prog w=.ok (.int .i64 0) w:=oB
section
variable {w w':World} {b n:Nat} {f:ByteArray->Option Nat}
theorem zlg (c:kI w b n (fun m=>(f m).map natV)) (a:ByteArray) (l:a.size<=maxLen):(Instr.lookup 118 (.map (some b)) (.string a) false).run Tryz.prog w=.ok (.int .i64 ((f a).getD 0:Nat)) w:=by
 obtain⟨D,c,i⟩:=c;obtain⟨v,ps,j,k⟩:=c.lookup xT Tryz.underlying118 (zrf w) (zd:=.held (.int .i64 0)) (zp:=[]) rfl (keyOf_string_mk Tryz.underlying9 l);rw[j];obtain⟨d,g⟩:=i a;simp only[Option.isSome_map]at d;simp only[Option.map_eq_some_iff]at g
 have h:D.atKey (qK a) (.held (.int .i64 0))=.held (.int .i64 ((f a).getD 0:Nat)):=by
  exact zme
 have e:fM v=some (D.atKey (qK a) (.held (.int .i64 0)),ps):=k;rw[h]at e;rw[zan e]
theorem zfq (c:kI w b n (fun m=>(f m).map natV)) (a:ByteArray) (l:a.size<=maxLen):(Instr.lookup 118 (.map (some b)) (.string a) true).run Tryz.prog w=.ok (.tuple #[.int .i64 ((f a).getD 0:Nat),.bool (f a).isSome]) w:=by
 obtain⟨D,c,i⟩:=c;obtain⟨v,ps,j,k⟩:=c.look_ok xT Tryz.underlying118 (zrf w) (zd:=.held (.int .i64 0)) (zp:=[]) rfl (keyOf_string_mk Tryz.underlying9 l);rw[j];obtain⟨d,g⟩:=i a;simp only[Option.isSome_map]at d;simp only[Option.map_eq_some_iff]at g
 have h:D.atKey (qK a) (.held (.int .i64 0))=.held (.int .i64 ((f a).getD 0:Nat)):=by
  exact zme
 have e:fM v=some (D.atKey (qK a) (.held (.int .i64 0)),ps):=k;rw[h]at e;rw[zan e,show Maps.has D (Lit.string a.data.toList)=_ from d]
theorem zu7 (g:kI w b n (fun a=>(f a).map natV)) (m:n<maxLen) (c:ByteArray) (o:c.size<=maxLen) (e:Nat):∃w',(Instr.mapUpdate 118 (.map (some b)) (.string c) (.int .i64 e)).run Tryz.prog w=.ok () w'/\kI w' b (n+1) (fun a=>(if eqS a c then some e else f a).map natV)/\w.grownBy w' (some b):=by
 obtain⟨D,g,i⟩:=g;obtain⟨w',j,k,l⟩:=g.update xT Tryz.underlying118 m (keyOf_string_mk Tryz.underlying9 o) (d:=.held (.int .i64 e)) (ps:=[]) rfl;refine⟨w',j,⟨_,k,fun a=>?_⟩,l⟩;have:=kI.put (x:=c) (v:=.int .i64 e) i g.isMap a;have h:(Option.map natV (if eqS a c=true then some e else f a))=(if eqS a c=true then some (Value.int .i64 e)else Option.map natV (f a)):=by cases eqS a c<;>rfl
 simp only[h];exact this
end
def fD (t:Tr):List PanicEntry:=[{ v:=.iface 36 (.agg #[.int .i64 t.1,.int .i64 t.2.1,.int .i64 t.2.2]),recovered:=false }]
variable {d:Nat}
theorem oRefuse (c b a:Int) (w:World) : Calls Tryz.prog 98 #[.int .i64 c,.int .i64 b,.int .i64 a] w fun d w'=>d=.panicked (fD (c,b,a))/\w'=w:=by
 unfold fD;go_enter Tryz.func98,Tryz.ntmps98;go_wp2;exact⟨rfl,rfl,rfl⟩
theorem far {w w':World} {c:Option Nat} {a:Addr} {v:Value} (b:w.cell? a=some v) (e:w.grownBy w' c) (f:c≠some a.block):w'.cell? a=some v:=by
 rw[e.cell_far a (jR w a b) (fun d=>f d.symm)];exact b
theorem ze5 {w:World} {a c b d:Nat} {v:Value} (g:a≠b) (f:w.cell? ⟨a,c,none⟩=some v) (e:Value):(w.setCell ⟨b,d,none⟩ e).cell? ⟨a,c,none⟩=some v:=by
 rw[jM (jP w ⟨b,d,none⟩ e a g)];exact f
theorem take_snoc {α:Type} {a:List α} (b:d<a.length):a.take d++[a[d]]=a.take (d+1):=by
 rw[List.take_succ_eq_append_getElem b]
theorem zt3 {a:List ByteArray} (b:d<a.length):vD (a.drop d) d=if(tx a[d]).ec≠0 then some ((d:Int),(tx a[d]).ec,(tx a[d]).ep)else vD (a.drop (d+1)) (d+1):=by
 rw[List.drop_eq_getElem_cons b];rfl
def RdE (w0:World) (D:Nat) (xs:List ByteArray) (e:Ending) (w':World):Prop :=
 Below D w0 w'/\((∃t,vD xs 0=some t/\e=.panicked (fD t))\/(vD xs 0=none/\e=.returned (.tuple #[])/\∃mv L,L.map (·.x)=xs/\PS w' D mv L 0 (fun _=>none)))
theorem oRead (E:World) (D:Nat) (ax:E.heap.size=D) (aQ:HasAll E) (r:List ByteArray) (tv:Value) (aB:zS E tv r) (bo:r.length<=6) (w:World) (p:Below D E w) (n:PS w D (.slice none 0 0) [] 0 (fun _=>none)) : Calls Tryz.prog 56 #[.pointer (some ⟨D+1,0,none⟩),tv] w (RdE E D r):=by
 have bh:=kc28;have bi:Tryz.prog.cellsOf 55=3:=xO;have bj:=kc173;obtain⟨b8,hi,b2,b6,b7⟩:=info_parts yb0;have aR:∃a5 a9,tv=.slice a5 r.length a9:=by obtain⟨a5,a9,o,_⟩:=aB;exact⟨a5,a9,o⟩
 obtain⟨a5,a9,rfl⟩:=aR
 have aC:∀W,Below D E W->∀m (a6:m<r.length),∃P a2,a5=some ⟨P,a2,none⟩/\W.cell? ⟨P,a2+m,none⟩=some (.string r[m]):=by
  intro W aS m a7;obtain⟨bf,bg,aM,_,aY⟩:=aB;obtain⟨P,a2,rfl,ai⟩:=aY (by intro o;rw[o]at a7;simp at a7);injection aM with e1;exact⟨P,a2,e1,keep (ai m a7) (ax▸aS)⟩
 go_enter Tryz.func56,Tryz.ntmps56;go_wp2;go_loopw [11] (fun t wr=>∃(m:Nat) (mv:Value) (L:List MD),m<=r.length/\t=.int .i64 m/\PS wr D mv L 0 (fun _=>none)/\Below D E wr/\L.map (·.x)=r.take m/\vD (r.drop m) m=vD r 0) (fun t _=>r.length - (intOf t).toNat)
 case atStart=>exact⟨0,_,[],jz _,rfl,n,p,rfl,rfl⟩
 case round =>
  clear n p;obtain⟨m,mv,L,a7,rfl,n,p,ag,az⟩:=hrel;have aa:=show Hid _ from az
  clear az;by_cases ak:m<r.length
  ·obtain⟨P,a2,rfl,ai⟩:=aC wr p m ak;have aJ:Hid (L.length=m):=by show _=_;have:=congrArg List.length ag;simp at this;omega
   generalize ao:r[m]=a at ai;have au:=show Hid _ from zt3 ak
   have R:=(txo a).of wr (hasAll_below aQ (ax▸p)).1;generalize aj:(tx a).ec=ac at R;generalize aU:(tx a).ep=z at R;have bw:wr.heap.size≠D/\wr.heap.size≠D+1:=by have:=n.lt;omega
   by_cases ad:ac=0
   ·subst ad;have br:((0:Int) != 0)=false:=rfl
    have aK:Hid (vD (r.drop (m+1)) (m+1)=vD r 0):=by
     show _=_;rw[<- aa.out,au.out,ao,aj,ju oC]
    have bp:L.length<=6:=by have:=aJ.out;omega
    go_wp2_with (go_at_call 16;refine R.mono ?_;rintro o w1 ⟨aO,aN,rfl,⟨aw,av,rfl,aI,aE⟩,aF,x⟩;have ay:yF (holes (zbb wr.heap.size) w1) ⟨a,aw,av,aN⟩:=⟨⟨aw,av,rfl,aI,aE⟩,aF,aj⟩;obtain⟨b,c,rfl,-,-⟩:=aI;obtain⟨f,g,rfl,-,-⟩:=aE;obtain⟨i,j,rfl,-,-⟩:=aF);have aW:nameOf a=(tx a).F.module:=rfl;generalize (tx a).F.vars.length=e at *;generalize (tx a).F.procs.length=d at *;generalize (tx a).I.length=k at *;clear R aC;have Q:=(Joins.below_alloc2 w1 (.cells #[.string (tx a).F.module,(.slice b e c),(.slice f d g)] 55) (.cells #[.int .i64 0,.int .i64 z] 28)).drew;have T:=x.trans (Q.mono x.size);obtain⟨B,C,rfl⟩:∃y ab,mv=.slice y L.length ab:=by obtain⟨y,ab,o,_⟩:=n.shape;exact⟨y,ab,o⟩
    have aZ:∀a8,(Value.slice B L.length C).ownBlock=some a8->a8<w1.heap.size:=fun a8 o=>jo (n.row.lt _ o).2 x.size
    have G:yF (holes (gS D (.slice B L.length C)) ((w1.alloc (.cells #[.string (tx a).F.module,(.slice b e c),(.slice f d g)] 55)).alloc (.cells #[.int .i64 0,.int .i64 z] 28)).drew) ⟨a,(.slice b e c),(.slice f d g),(.slice i k j)⟩:=ay.move fun y v ba bb=>by
     have bs:wr.heap.size<=y.block:=by simpa[zbb] using ba
     have bz:=n.lt;exact⟨zli oA oA (fun o=>by have:=(n.row.lt _ o).2;omega),keep bb Q⟩
    have h:((w1.alloc (.cells #[.string (tx a).F.module,(.slice b e c),(.slice f d g)] 55)).alloc (.cells #[.int .i64 0,.int .i64 z] 28)).drew.cell? ⟨w1.heap.size,0,none⟩=some (.string (tx a).F.module)/\((w1.alloc (.cells #[.string (tx a).F.module,(.slice b e c),(.slice f d g)] 55)).alloc (.cells #[.int .i64 0,.int .i64 z] 28)).drew.cell? ⟨w1.heap.size,1,none⟩=some (.slice b e c)/\((w1.alloc (.cells #[.string (tx a).F.module,(.slice b e c),(.slice f d g)] 55)).alloc (.cells #[.int .i64 0,.int .i64 z] 28)).drew.cell? ⟨w1.heap.size,2,none⟩=some (.slice f d g):=⟨oC,oC,oC⟩
    have bu:D+1<w1.heap.size:=jo n.lt x.size;replace n:=n.below T;replace p:=p.trans (T.mono zdu);clear ay x Q T;refine wp_region_held_drew (S:=fun W=>W.cell? ⟨w1.heap.size,0,none⟩=some (.string (tx a).F.module)/\W.cell? ⟨w1.heap.size,1,none⟩=some (.slice b e c)/\W.cell? ⟨w1.heap.size,2,none⟩=some (.slice f d g)) oB h (fun s=>?_);clear s;generalize ((w1.alloc (.cells #[.string (tx a).F.module,(.slice b e c),(.slice f d g)] 55)).alloc (.cells #[.int .i64 0,.int .i64 z] 28)).drew=W at *;generalize w1.heap.size=N at *;generalize (tx a).F.module=l at *;refine tkP 0 (.pointer (some ⟨D+1,0,none⟩)) h ?_;simp only[Act.put,jA,jB,jC];refine tkP 1 (.pointer (some ⟨D+1,0,none⟩)) h ?_;simp only[Act.put,jA,jB,jC];refine tkP 2 (.pointer (some ⟨D+1,0,none⟩)) h ?_;simp only[Act.put,jA,jB,jC];refine tkP 3 (.pointer (some ⟨D+1,0,none⟩)) h ?_;simp only[Act.put,jA,jB,jC];refine tkP 5 (.string a) h ?_;simp only[Act.put,jA,jB,jC];refine tkP 6 (.agg #[.string l,(.slice b e c),(.slice f d g)] ) h ?_;simp only[Act.put,jA,jB,jC];refine tkP 7 ((.slice i k j)) h ?_;simp only[Act.put,jA,jB,jC];refine tkP 8 (.agg #[.string a,.string l,(.slice b e c),(.slice f d g),(.slice i k j)] ) h ?_;simp only[Act.put,jA,jB,jC];refine wpAnyH_ready (rs:=[4,9]) oB oC ?_;refine AllReadyH.cons rfl (fun u q=>?_) (AllReadyH.cons rfl (fun u q=>?_) AllReadyH.nil)
    ·skip;have V:=n.box.cell 0 rfl;go_simp;refine q.out _ _ h (fun s=>?_);clear q u s V;refine oneH 9 fun u q=>?_
     go_simp;have aG:∀m M,[Value.string a,.string l,(.slice b e c),(.slice f d g),(.slice i k j)][m]?=some M->(W.alloc (.cells #[.string a,.string l,(.slice b e c),(.slice f d g),(.slice i k j)] 173)).cell? ((⟨W.heap.size,0,none⟩:Addr).add m)=some M:=zW _ #[.string a,.string l,(.slice b e c),(.slice f d g),(.slice i k j)] _ _ rfl;have an:W.heap.size+1=(W.alloc (.cells #[.string a,.string l,(.slice b e c),(.slice f d g),(.slice i k j)] 173)).heap.size:=oC;replace p:=p.alloc zdu (.cells #[.string a,.string l,(.slice b e c),(.slice f d g),(.slice i k j)] 173);replace n:=n.below (bal (.cells #[.string a,.string l,(.slice b e c),(.slice f d g),(.slice i k j)] 173));replace G:yF (holes (gS D (.slice B L.length C)) (W.alloc (.cells #[.string a,.string l,(.slice b e c),(.slice f d g),(.slice i k j)] 173))) ⟨a,(.slice b e c),(.slice f d g),(.slice i k j)⟩:=G.move fun y v ae af=>⟨ae,zG af _⟩
     replace h:(W.alloc (.cells #[.string a,.string l,(.slice b e c),(.slice f d g),(.slice i k j)] 173)).cell? ⟨N,0,none⟩=some (.string l)/\(W.alloc (.cells #[.string a,.string l,(.slice b e c),(.slice f d g),(.slice i k j)] 173)).cell? ⟨N,1,none⟩=some (.slice b e c)/\(W.alloc (.cells #[.string a,.string l,(.slice b e c),(.slice f d g),(.slice i k j)] 173)).cell? ⟨N,2,none⟩=some (.slice f d g):=⟨zG h.1 _,zG h.2.1 _,zG h.2.2 _⟩
     refine q.out _ _ h (fun s=>?_);clear q u s;generalize W.alloc (.cells #[.string a,.string l,(.slice b e c),(.slice f d g),(.slice i k j)] 173)=aL at *;generalize W.heap.size=ap at *;exact zma
    ·skip;go_simp;have aG:∀m M,[Value.string a,.string l,(.slice b e c),(.slice f d g),(.slice i k j)][m]?=some M->(W.alloc (.cells #[.string a,.string l,(.slice b e c),(.slice f d g),(.slice i k j)] 173)).cell? ((⟨W.heap.size,0,none⟩:Addr).add m)=some M:=zW _ #[.string a,.string l,(.slice b e c),(.slice f d g),(.slice i k j)] _ _ rfl;have an:W.heap.size+1=(W.alloc (.cells #[.string a,.string l,(.slice b e c),(.slice f d g),(.slice i k j)] 173)).heap.size:=oC;replace p:=p.alloc zdu (.cells #[.string a,.string l,(.slice b e c),(.slice f d g),(.slice i k j)] 173);replace n:=n.below (bal (.cells #[.string a,.string l,(.slice b e c),(.slice f d g),(.slice i k j)] 173));replace G:yF (holes (gS D (.slice B L.length C)) (W.alloc (.cells #[.string a,.string l,(.slice b e c),(.slice f d g),(.slice i k j)] 173))) ⟨a,(.slice b e c),(.slice f d g),(.slice i k j)⟩:=G.move fun y v ae af=>⟨ae,zG af _⟩
     replace h:(W.alloc (.cells #[.string a,.string l,(.slice b e c),(.slice f d g),(.slice i k j)] 173)).cell? ⟨N,0,none⟩=some (.string l)/\(W.alloc (.cells #[.string a,.string l,(.slice b e c),(.slice f d g),(.slice i k j)] 173)).cell? ⟨N,1,none⟩=some (.slice b e c)/\(W.alloc (.cells #[.string a,.string l,(.slice b e c),(.slice f d g),(.slice i k j)] 173)).cell? ⟨N,2,none⟩=some (.slice f d g):=⟨zG h.1 _,zG h.2.1 _,zG h.2.2 _⟩
     refine q.out _ _ h (fun s=>?_);clear q u s;generalize W.alloc (.cells #[.string a,.string l,(.slice b e c),(.slice f d g),(.slice i k j)] 173)=aL at *;generalize W.heap.size=ap at *;refine oneH 4 fun u q=>?_
     have V:=n.box.cell 0 rfl;go_simp;refine q.out _ _ h (fun s=>?_);clear q u s V;exact zma
   ·have bq:(ac != 0)=true:=by simp[ad]
    go_wp2_with first
     | (go_at_call 16;refine R.mono ?_;rintro o w1 ⟨aO,lv,rfl,⟨bB,bA,rfl,⟨b,c,rfl,_,_⟩,⟨bc,be,rfl,_,_⟩⟩,⟨i,j,rfl,_,_⟩,x⟩)
     | (go_at_call 98;refine(oRefuse _ _ _ _).mono ?_;rintro o bC ⟨rfl,b1⟩;obtain rfl:=b1.symm)
    have Q:=(Joins.below_alloc2 w1 (.cells #[.string (tx a).F.module,.slice b (tx a).F.vars.length c,.slice bc (tx a).F.procs.length be] 55) (.cells #[.int .i64 ac,.int .i64 z] 28))
    have T:=x.trans (Q.mono x.size);refine⟨rfl,p.trans (T.mono zdu),.inl ⟨_,?_,rfl⟩⟩;rw[<- aa.out,au.out,ao,aj,aU,jv ad]
  ·go_wp2
   go_end0
   have aX:m=r.length:=oA;subst aX;refine⟨p,.inr ⟨?_,rfl,mv,L,?_,n⟩⟩;·rw[<- aa.out,List.drop_length];rfl
   ·rw[ag,List.take_length]
theorem yF.shape {w:World} {b:MD} (j:yF w b):∃g k h e l f c d,b.vv=.slice g k h/\b.pv=.slice e l f/\b.iv=.slice c (tx b.x).I.length d:=by
 obtain⟨⟨n,m,a,⟨g,h,rfl,_⟩,⟨e,f,rfl,_⟩⟩,⟨c,d,i,_⟩,_⟩:=j;unfold fvV MD.q at a;injection a with a;simp only[List.toArray_eq_toArray_eq,Array.mk.injEq,jq,and_true]at a;exact⟨g,_,h,e,_,f,c,d,a.2.1,a.2.2,i⟩
def kJ (L:List MD):List ByteArray:=L.map fun m=>nameOf m.x
theorem zsj {ns:List ByteArray} {j:Nat} (a:j<ns.length):xM (ns.take j) (ns.drop j)=if kM (ns.take j) ns[j] then some ((j:Int),5,0)else xM (ns.take (j+1)) (ns.drop (j+1)):=by
 rw[List.drop_eq_getElem_cons a]
 conv=>lhs;unfold xM
 rw[take_snoc a,List.length_take,Nat.min_eq_left oA]
def EnE (w0:World) (D:Nat) (mv:Value) (L:List MD) (e:Ending) (w':World):Prop :=
 Below D w0 w'/\((∃t,xM [] (kJ L)=some t/\e=.panicked (fD t))\/(xM [] (kJ L)=none/\e=.returned (.tuple #[])/\PS w' D mv L L.length (qL (kJ L))))
theorem oEnter (G:World) (D:Nat) (aQ:G.heap.size=D) (mv:Value) (L:List MD) (aO:L.length<=6) (w:World) (i:Below D G w) (c:PS w D mv L 0 (fun _=>none)) : Calls Tryz.prog 57 #[.pointer (some ⟨D+1,0,none⟩)] w (EnE G D mv L):=by
 have aL:=kc173;have aK:Tryz.prog.cellsOf 55=3:=xO;obtain⟨aa,a5,rfl⟩:∃z K,mv=.slice z L.length K:=by obtain⟨z,K,k,_⟩:=c.shape;exact⟨z,K,k⟩
 have ao:(kJ L).length=L.length:=by simp[kJ]
 have au:=c.box.cell 0 rfl;go_enter Tryz.func57,Tryz.ntmps57;go_wp2;go_loopw [11] (fun t wr=>∃(a:Nat),a<=L.length/\t=.int .i64 a/\PS wr D (.slice aa L.length a5) L a (qL ((kJ L).take a))/\Below D G wr/\xM ((kJ L).take a) ((kJ L).drop a)=xM [] (kJ L)) (fun t _=>L.length - (intOf t).toNat)
 case atStart=>exact⟨0,jz _,rfl,c,i,rfl⟩
 case round =>
  clear c i au;obtain⟨a,aS,rfl,c,i,az⟩:=hrel;have R:=show Hid _ from az
  clear az;by_cases a3:a<L.length
  ·obtain⟨e,rfl,aG,aH,af,ag,ac⟩:∃e,aa=some ⟨e,0,none⟩/\wr.cell? ⟨e,a*5,none⟩=some (.string L[a].x)/\wr.cell? ⟨e,a*5+1,none⟩=some (.string (nameOf L[a].x))/\wr.cell? ⟨e,a*5+2,none⟩=some L[a].vv/\wr.cell? ⟨e,a*5+3,none⟩=some L[a].pv/\wr.cell? ⟨e,a*5+4,none⟩=some L[a].iv:=by
    exact zmd
   have P:=c.md (jH a3);have an:(kJ L)[a]' oA=nameOf L[a].x:=by simp[kJ]
   have T:=show Hid _ from zsj (ns:=kJ L) (j:=a) oA
   rw[an]at T
   have HS:Hid (kM ((kJ L).take a) (nameOf L[a].x)=false->qL ((kJ L).take (a+1))=fun y=>if eqS y (nameOf L[a].x)then some a else qL ((kJ L).take a) y):=fun a7=>by
    funext y
    have:=zvd ((kJ L).take a) (nameOf L[a].x) y a7;rw[<- an,take_snoc (by omega:a<(kJ L).length),an,List.length_take,Nat.min_eq_left oA]at this;exact this
   have aD:=P.small;obtain⟨q,m,r,o,n,p,j,l,B,C,V⟩:=P.shape;rw[B]at af;rw[C]at ag;rw[V]at ac;generalize (tx L[a].x).I.length=ab at ac;clear P B C V;generalize nameOf L[a].x=d at *;generalize L[a].x=s at *;have M:=(i.alloc (by have:=i.size;omega) (.cells #[.string s,.string d,.slice q m r,.slice o n p,.slice j ab l] 173)).drew;have a2:=(c.below (bal (.cells #[.string s,.string d,.slice q m r,.slice o n p,.slice j ab l] 173))).below (Below.refl _ _).drew;have bc:=c.lt;have b:PS (wr.alloc (.cells #[.string s,.string d,.slice q m r,.slice o n p,.slice j ab l] 173)).drew D (.slice (some ⟨e,0,none⟩) L.length a5) L a (qL ((kJ L).take a))/\(wr.alloc (.cells #[.string s,.string d,.slice q m r,.slice o n p,.slice j ab l] 173)).drew.cell? ⟨wr.heap.size,1,none⟩=some (.string d):=⟨a2,oC⟩
   go_wp2;refine wp_region_held_drew (S:=fun W=>PS W D (.slice (some ⟨e,0,none⟩) L.length a5) L a (qL ((kJ L).take a))/\W.cell? ⟨wr.heap.size,1,none⟩=some (.string d)) oB b (fun a8=>?_);clear a8 c i a2 aG aH af ag ac;generalize (wr.alloc (.cells #[.string s,.string d,.slice q m r,.slice o n p,.slice j ab l] 173)).drew=W at *;generalize b9:wr.heap.size=N at *;refine tkR 0 (.pointer (some ⟨D+1,0,none⟩)) b ?_;simp only[jA,jB,jC];refine tkR 1 (.pointer (some ⟨D+1,0,none⟩)) b ?_;simp only[jA,jB,jC];refine tkR 2 (.pointer (some ⟨D+1,1,none⟩)) b ?_;simp only[jA,jB,jC];refine tkS (i:=3) (v:=.map (some D)) rfl rfl (Or.inl ⟨oG,fun w E=>by have y:=E.1.box.cell 1 rfl;go_simp⟩) b ?_;simp only[jA,jB,jC];refine tkR 4 (.pointer (some ⟨N,1,none⟩)) b ?_;simp only[jA,jB,jC];refine tkR 5 (.pointer (some ⟨N,1,none⟩)) b ?_;simp only[jA,jB,jC];refine tkS (i:=6) (v:=.string d) rfl rfl (Or.inl ⟨oG,fun w E=>by have y:=E.2;go_simp⟩) b ?_;simp only[jA,jB,jC];generalize am:qL ((kJ L).take a) d=x;refine tkS (i:=7) (v:=.tuple #[.int .i64 (x.getD 0:Nat),.bool x.isSome] ) rfl rfl (Or.inl ⟨oG,fun w E=>by have y:=zfq E.1.map d (by unfold maxLen;omega);rw[am]at y ;go_simp⟩) b ?_;simp only[jA,jB,jC];refine tkR 8 (.tuple #[.int .i64 (x.getD 0:Nat),.bool x.isSome] ) b ?_;simp only[jA,jB,jC];refine tkR 9 (.int .i64 (x.getD 0:Nat)) b ?_;simp only[jA,jB,jC];refine tkR 10 (.bool x.isSome) b ?_;simp only[jA,jB,jC];refine tkR 11 (.int .i64 (x.getD 0:Nat)) b ?_;simp only[jA,jB,jC];refine tkR 12 (.bool x.isSome) b ?_;simp only[jA,jB,jC];refine wpAnyH_done oB ?_ _
   cases u:kM ((kJ L).take a) d with
   | true =>
    obtain⟨Q,hi,_,_⟩:=zda u;obtain rfl:x=some Q:=by rw[<- am,hi]
    go_wp2_with (go_at_call 98;refine(oRefuse _ _ _ _).mono ?_;rintro k aZ ⟨rfl,ar⟩;obtain rfl:=ar.symm);refine⟨rfl,M,.inl ⟨_,?_,rfl⟩⟩;rw[<- R.out,T.out,u]
    rfl
   | false =>
    obtain rfl:x=none:=by rw[<- am,zkc u]
    go_wp2;replace b:PS W.drew D (.slice (some ⟨e,0,none⟩) L.length a5) L a (qL ((kJ L).take a))/\W.drew.cell? ⟨N,1,none⟩=some (.string d):=⟨b.1.below (Below.refl _ _).drew,by simpa using b.2⟩
    replace M:=M.drew;refine wp_region_held_drew (S:=fun W=>W.cell? ⟨D+1,1,none⟩=some (.map (some D))/\W.cell? ⟨N,1,none⟩=some (.string d)) oB ⟨b.1.box.cell 1 rfl,b.2⟩ (fun a8=>?_);have ay:=b.1;have aw:=M;clear a8 M;replace b:W.drew.cell? ⟨D+1,1,none⟩=some (.map (some D))/\W.drew.cell? ⟨N,1,none⟩=some (.string d):=⟨b.1.box.cell 1 rfl,b.2⟩
    generalize W.drew=W at *;refine tkR 0 (.pointer (some ⟨D+1,0,none⟩)) b ?_;simp only[jA,jB,jC];refine tkR 1 (.pointer (some ⟨D+1,0,none⟩)) b ?_;simp only[jA,jB,jC];refine tkR 2 (.pointer (some ⟨D+1,1,none⟩)) b ?_;simp only[jA,jB,jC];refine tkS (i:=3) (v:=.map (some D)) rfl rfl (Or.inl ⟨oG,fun w E=>by obtain⟨b2,b6⟩:=E;go_simp⟩) b ?_;simp only[jA,jB,jC];refine tkR 4 (.pointer (some ⟨N,1,none⟩)) b ?_;simp only[jA,jB,jC];refine tkR 5 (.pointer (some ⟨N,1,none⟩)) b ?_;simp only[jA,jB,jC];refine tkS (i:=6) (v:=.string d) rfl rfl (Or.inl ⟨oG,fun w E=>by obtain⟨b2,b6⟩:=E;go_simp⟩) b ?_;simp only[jA,jB,jC];refine tkR 7 (.int .i64 a) b ?_;simp only[jA,jB,jC];refine oneH 8 fun aJ ax=>?_
    obtain⟨b0,bb,aV,ae⟩:=zu7 ay.map (by unfold maxLen;omega) d (by unfold maxLen;omega) a;go_simp;have aW:kI b0 D (a+1) (fun y=>(qL ((kJ L).take (a+1)) y).map natV):=by rw[HS.out u];exact aV
    have aR:=ay.turned aW ae;have aP:=aw.grown ae (by have:=aw.size;omega) (fun g k=>by cases k;omega);refine ax.out _ _ ⟨far b.1 ae oC,far b.2 ae oE⟩ (fun a8=>?_);clear ax aJ a8;refine wpAnyH_done oB ?_ _;go_wp2;go_roundw
    case rel=>exact⟨a+1,oA,oM,aR,aP,by rw[<- R.out,T.out,u];rfl⟩
    case measure=>simp[intOf];omega
  ·go_wp2
   go_end0
   have ak:a=L.length:=oA;subst ak;refine⟨i,.inr ⟨?_,rfl,?_⟩⟩;·rw[<- R.out,<- ao,List.drop_length];rfl
   ·rw[<- ao,List.take_length]at c;rw[ao]at c;exact c
theorem zi0:∀(c:List Kid) (b:ByteArray),b∈kR c->Kid.imp b∈c
 | [],_,a=>by cases a
 | k :: r,b,a=>by
  have ih:=zi0 r b;cases k<;>simp_all [kR];rcases a with a | a
  ·exact .inl a
  ·exact .inr (ih a)
theorem zim:∀a:List Kid,(kR a).length<=a.length
 | []=>jE _
 | k :: r=>by
  have ih:=zim r;cases k<;>simp[kR]<;>omega
theorem zgr {a:ByteArray} (d:(tx a).ec=0):(∀c∈(tx a).I,c.size<=16)/\(tx a).I.length<=900:=by
 obtain⟨h,e,i,f,j⟩:=(txo a).good d;have b:=(txo a).shp f;rw[e];refine⟨fun c g=>?_,?_⟩;·exact(b.2.2.1 _ (zi0 _ _ g)).1
 ·have:=zim (tx a).K;have:=b.2.2.2.2.1;omega
def zO (L:List MD):List (List ByteArray):=L.map fun m=>(tx m.x).I
theorem ztb {ns:List ByteArray} {Is:List (List ByteArray)} {j:Nat} (a:j<Is.length):uA ns (Is.drop j) j=match vO ns j Is[j] 0 with
  | some t=>some t
  | none=>uA ns (Is.drop (j+1)) (j+1):=by
 rw[List.drop_eq_getElem_cons a];rfl
theorem zuz {ns b:List ByteArray} {i a:Nat} (c:a<b.length):vO ns i (b.drop a) a=if kM ns b[a] then vO ns i (b.drop (a+1)) (a+1)else some ((i:Int),4,1+(a:Int)):=by
 rw[List.drop_eq_getElem_cons c];rfl
def FiE (w0:World) (D:Nat) (mv:Value) (L:List MD) (e:Ending) (w':World):Prop :=
 Below D w0 w'/\((∃t,uA (kJ L) (zO L) 0=some t/\e=.panicked (fD t))\/(uA (kJ L) (zO L) 0=none/\e=.returned (.tuple #[])/\PS w' D mv L L.length (qL (kJ L))))
theorem yb4 (G:World) (D:Nat) (aQ:G.heap.size=D) (mv:Value) (L:List MD) (aO:L.length<=6) (w:World) (i:Below D G w) (c:PS w D mv L L.length (qL (kJ L))) : Calls Tryz.prog 58 #[.pointer (some ⟨D+1,0,none⟩)] w (FiE G D mv L):=by
 have aL:=kc173;have aK:Tryz.prog.cellsOf 55=3:=xO;obtain⟨aa,a5,rfl⟩:∃z K,mv=.slice z L.length K:=by obtain⟨z,K,k,_⟩:=c.shape;exact⟨z,K,k⟩
 have ah:Hid ((zO L).length=L.length):=by show _=_;simp[zO]
 have au:=c.box.cell 0 rfl;generalize ap:kJ L=h at c;go_enter Tryz.func58,Tryz.ntmps58;go_wp2;go_loopw [13] (fun t wr=>∃(a:Nat),a<=L.length/\t=.int .i64 a/\PS wr D (.slice aa L.length a5) L L.length (qL h)/\Below D G wr/\Hid (uA h ((zO L).drop a) a=uA h (zO L) 0)) (fun t _=>L.length - (intOf t).toNat)
 case atStart=>exact⟨0,jz _,rfl,c,i,rfl⟩
 case round =>
  clear c i au;obtain⟨a,aS,rfl,c,i,R⟩:=hrel;by_cases a3:a<L.length
  ·obtain⟨e,rfl,aG,aH,af,ag,ac⟩:∃e,aa=some ⟨e,0,none⟩/\wr.cell? ⟨e,a*5,none⟩=some (.string L[a].x)/\wr.cell? ⟨e,a*5+1,none⟩=some (.string (nameOf L[a].x))/\wr.cell? ⟨e,a*5+2,none⟩=some L[a].vv/\wr.cell? ⟨e,a*5+3,none⟩=some L[a].pv/\wr.cell? ⟨e,a*5+4,none⟩=some L[a].iv:=by
    exact zmd
   have P:=c.md (jH a3);have T:=show Hid _ from ztb (ns:=h) (Is:=zO L) (j:=a) (by rw[ah.out];exact a3)
   have aA:(zO L)[a]'(by rw[ah.out];exact a3)=(tx L[a].x).I:=by simp[zO]
   rw[aA]at T;obtain⟨aD,ba⟩:=zgr P.2.2;obtain⟨q,m,r,o,n,p,j,l,B,C,V⟩:=P.shape;have aE:=P.2.1;rw[V]at aE;rw[B]at af;rw[C]at ag;rw[V]at ac;clear P B C V aA;generalize (tx L[a].x).I=f at *;generalize nameOf L[a].x=d at *;generalize L[a].x=s at *;have M:=i.alloc (by have:=i.size;omega) (.cells #[.string s,.string d,.slice q m r,.slice o n p,.slice j f.length l] 173);have a2:=c.below (bal (.cells #[.string s,.string d,.slice q m r,.slice o n p,.slice j f.length l] 173));have aX:=zS.mono (fun z v a7=>zG a7 (.cells #[.string s,.string d,.slice q m r,.slice o n p,.slice j f.length l] 173)) aE;have bf:=a2.box.cell 1 rfl;go_wp2;go_loopw [21] (fun t b1=>∃(g:Nat),g<=f.length/\t=.int .i64 g/\b1=wr.alloc (.cells #[.string s,.string d,.slice q m r,.slice o n p,.slice j f.length l] 173)/\Hid (vO h a (f.drop g) g=vO h a f 0)) (fun t _=>f.length - (intOf t).toNat)
   case atStart=>exact⟨0,jz _,rfl,rfl,rfl⟩
   case round =>
    obtain⟨g,aB,rfl,rfl,ai⟩:=hrel;by_cases a9:g<f.length
    ·obtain⟨aj,go,rfl,ad⟩:∃aj go,j=some ⟨aj,go,none⟩/\(wr.alloc (.cells #[.string s,.string d,.slice q m r,.slice o n p,.slice j f.length l] 173)).cell? ⟨aj,go+g,none⟩=some (.string f[g]):=by
      obtain⟨b7,b8,aM,_,aT⟩:=aX;obtain⟨aN,aY,C,ad⟩:=aT (by intro k;rw[k]at a9;simp at a9);injection aM with B;exact⟨aN,aY,B.trans C,ad g a9⟩
     have be:=aD _ (jH a9);have av:=show Hid _ from zuz (ns:=h) (i:=a) a9
     generalize f[g]=aI at *;have aC:=zfq a2.map aI (by unfold maxLen;omega)
     cases u:kM h aI with
     | true =>
      obtain⟨Q,hi,_,_⟩:=zda u;rw[hi]at aC
      have a6:Hid (vO h a (f.drop (g+1)) (g+1)=vO h a f 0):=by
       show _=_;rw[<- ai.out,av.out,u];rfl
      clear hi;go_wp2;go_roundw
      case rel=>exact⟨g+1,oA,oM,trivial,a6⟩
      case measure=>simp[intOf];omega
     | false =>
      rw[zkc u]at aC
      have a6:Hid (vO h a f 0=some ((a:Int),4,1+(g:Int))):=by
       show _=_;rw[<- ai.out,av.out,u];rfl
      go_wp2_with (go_at_call 98;refine(oRefuse _ _ _ _).mono ?_;rintro k aZ ⟨rfl,ar⟩;obtain rfl:=ar.symm);refine⟨rfl,M,.inl ⟨_,?_,rfl⟩⟩;rw[ap,<- R.out,T.out,a6.out]
    ·have aU:g=f.length:=oA;subst aU
     have a6:Hid (vO h a f 0=none):=by
      show _=_;rw[<- ai.out,List.drop_length];rfl
     go_wp2;go_roundw
     case rel=>exact⟨a+1,oA,oM,a2,M,by show _=_;rw[<- R.out,T.out,a6.out]⟩
     case measure=>simp[intOf];omega
  ·go_wp2
   go_end0
   have ak:a=L.length:=oA;subst ak;refine⟨i,.inr ⟨?_,rfl,by rw[ap];exact c⟩⟩;rw[ap,<- R.out,<- ah.out,List.drop_length];rfl
def fH (w:World) (v:Value) (t:List Nat):Prop:=∃a c,v=.slice a t.length c/\(t≠[]->∃g,a=some ⟨g,0,none⟩/\∀i (b:i<t.length),w.cell? ⟨g,i,none⟩=some (.int .i64 (t[i]:Int)))
theorem fH.below {w w':World} {v:Value} {t:List Nat} (f:fH w v t) (g:Below w.heap.size w w'):fH w' v t:=by
 obtain⟨a,b,c,i⟩:=f;refine⟨a,b,c,fun j=>?_⟩;obtain⟨e,d,h⟩:=i j;exact⟨e,d,fun k hi=>keep (h k hi) g⟩
theorem zxa {w:World} {v:Value} {t:List Nat} (a:w.ownsRow d 3 1 v t.length (t.map natV)):fH w v t:=by
 rcases a.2 with⟨rfl,c⟩|⟨b,e,f,rfl,_,_,g,h,_⟩
 ·exact⟨none,0,by rw[c],fun a=>absurd (List.eq_nil_of_length_eq_zero c) a⟩
 ·refine⟨some ⟨b,0,none⟩,e,rfl,fun _=>⟨b,rfl,fun i hi=>?_⟩⟩;rw[a.cellAt _ oA];simp[natV,hi]
theorem zy8 (c:Nat) (t:List Nat) (v:Value) (w:World) (y:t.length<=6) (n:fH w v t) : Calls Tryz.prog 134 #[v,.int .i64 c] w fun e w'=>∃a:Int,e=.returned (.int .i64 a)/\decide (0<=a)=t.contains c/\w'=w:=by
 obtain⟨o,p,rfl,m⟩:=n;go_enter Tryz.func134,Tryz.ntmps134;go_wp2;go_loopw [8] (fun k wr=>∃a:Nat,a<=t.length/\k=.int .i64 a/\wr=w/\Hid (∀b (h:b<t.length),b<a->t[b]≠c)) (fun k _=>t.length - (intOf k).toNat)
 case atStart=>exact⟨0,jz _,rfl,rfl,fun b _ h=>oA⟩
 case round =>
  obtain⟨a,x,rfl,rfl,j⟩:=hrel;by_cases i:a<t.length
  ·obtain⟨r,rfl,f⟩:=m (by intro e;rw[e]at i;simp at i);have q:=f a i;clear f m;by_cases g:t[a]=c
   ·have d:Hid (t.contains c=true):=by
     show _=_;rw[List.contains_iff_mem,<- g];exact jH i
    rw[g]at q;clear g;go_wp2;go_ret;exact⟨(a:Int),rfl,by rw[d.out];simp,rfl⟩
   ·have d:Hid (t[a]≠c):=g;have u:¬((c:Int)=((t[a]:Nat):Int)):=oA;clear g;go_wp2;go_roundw
    case rel=>exact⟨a+1,oA,oM,by trivial,fun b h s=>by
     rcases jL b a with l | l
     ·exact j.out b h l
     ·have:b=a:=oA;subst this
      exact d.out⟩
    case measure=>simp[intOf];omega
  ·have d:Hid (t.contains c=false):=by
    show _=_
    cases f:t.contains c with
    | false=>rfl
    | true =>
     rw[List.contains_iff_mem]at f;obtain⟨b,h,e⟩:=List.mem_iff_getElem.1 f;exact absurd e (j.out b h oA)
   clear j;go_wp2;go_ret;exact⟨-1,rfl,by rw[d.out];rfl,rfl⟩
theorem zts (a:Nat) (t:List Nat) (v:Value) (w:World) (e:t.length<=6) (c:fH w v t) : Calls Tryz.prog 100 #[v,.int .i64 a] w fun b w'=>b=.returned (.bool (t.contains a))/\w'=w:=by
 have d:=zy8 a t v w e c;obtain⟨h,i,rfl,j⟩:=c;generalize t.contains a=g at *;go_enter Tryz.func100,Tryz.ntmps100;go_wp2_with (fail);refine d.mono ?_;rintro b w1 ⟨k,rfl,hi,f⟩;obtain rfl:=f.symm;go_wp2;go_ret;exact⟨by rw[<- hi];rfl,rfl⟩
theorem zg5 (a:Nat) (t:List Nat) (v:Value) (d:Nat) (w:World) (f:t.length<=6) (c:fH w v t) (l:w.cell? ⟨d,0,none⟩=some v) : Calls Tryz.prog 99 #[.int .i64 a,.pointer (some ⟨d,0,none⟩)] w fun b w'=>b=.returned (.bool (!t.contains a))/\w'=w:=by
 have e:=zts a t v w f c;obtain⟨i,j,rfl,k⟩:=c;generalize t.contains a=h at *;go_enter Tryz.func99,Tryz.ntmps99;go_wp2_with (go_at_call 100;refine e.mono ?_;rintro b w1 ⟨rfl,g⟩;obtain rfl:=g.symm);go_ret;exact⟨rfl,rfl⟩
abbrev dC (b:Nat):Value:=.func (.func 99) #[] #[.pointer (some ⟨b+1,0,none⟩)]
abbrev dZ (b:Nat):Value:=.func (.func 101) #[] #[.pointer (some ⟨b+2,0,none⟩),.pointer (some ⟨b,0,none⟩)]
structure TS (w1:World) (D b:Nat) (mv:Value) (L:List MD) (tv:Value) (t:List Nat) (w:World):Prop where
 sz:w1.heap.size=b
 ps:PS w1 D mv L L.length (qL (kJ L))
 bl:Below b w1 w
 b0:BoxC w b #[.pointer (some ⟨D+1,0,none⟩)] 170
 b1:BoxC w (b+1) #[tv] 34
 b2:BoxC w (b+2) #[dC b] 101
 b3:BoxC w (b+3) #[dZ b] 83
 row:w.ownsRow (b+4) 3 1 tv t.length (t.map natV)
 tk:Tk L.length t
section
variable {w1 w w':World} {D b:Nat} {mv tv:Value} {L:List MD} {t:List Nat}
theorem TS.now (a:TS w1 D b mv L tv t w):PS w D mv L L.length (qL (kJ L)):=a.ps.below (by rw[a.sz];exact a.bl)
theorem TS.below (a:TS w1 D b mv L tv t w) (c:Below w.heap.size w w'):TS w1 D b mv L tv t w' :=
 ⟨a.sz,a.ps,a.bl.trans (c.mono (by have:=a.bl.size;have:=a.sz;omega)),a.b0.below c,a.b1.below c,a.b2.below c,a.b3.below c,a.row.kept (grown_of_below c) (by cases tv.ownBlock<;>simp),a.tk⟩
theorem TS.nats (a:TS w1 D b mv L tv t w):fH w tv t:=zxa a.row
theorem TS.cells (a:TS w1 D b mv L tv t w):w.cell? ⟨b,0,none⟩=some (.pointer (some ⟨D+1,0,none⟩))/\w.cell? ⟨b+1,0,none⟩=some tv/\w.cell? ⟨b+2,0,none⟩=some (dC b)/\w.cell? ⟨b+3,0,none⟩=some (dZ b)/\w.cell? ⟨D+1,0,none⟩=some mv/\w.cell? ⟨D+1,1,none⟩=some (.map (some D)) :=
 ⟨a.b0.cell 0 rfl,a.b1.cell 0 rfl,a.b2.cell 0 rfl,a.b3.cell 0 rfl,a.now.box.cell 0 rfl,a.now.box.cell 1 rfl⟩
end
theorem zxf {w1 w:World} {D b:Nat} {mv tv:Value} {L:List MD} {t:List Nat} (o:L.length<=6) (a:TS w1 D b mv L tv t w) (c:ByteArray) (r:c.size<=16) : Calls Tryz.prog 101 #[.string c,.pointer (some ⟨b+2,0,none⟩),.pointer (some ⟨b,0,none⟩)] w fun f w'=>f=.returned (.bool (!t.contains (vP (kJ L) c)))/\Below w.heap.size w w':=by
 have q:=a.tk.len;go_enter Tryz.func101,Tryz.ntmps101;go_wp2;have g:Below w.heap.size w w.drew:=(Below.refl _ _).drew;replace a:=a.below g;refine wp_region_held_drew (S:=TS w1 D b mv L tv t) oB a (fun e=>?_);clear e;generalize m:w.heap.size=N at *;generalize w.drew=W at *;refine tkS (i:=0) (v:=dC b) rfl rfl (Or.inl ⟨oG,fun w d=>zgk⟩) a ?_;simp only[jA,jB,jC];refine tkS (i:=1) (v:=.pointer (some ⟨D+1,0,none⟩)) rfl rfl (Or.inl ⟨oG,fun w d=>zgk⟩) a ?_;simp only[jA,jB,jC];refine tkR 2 (.pointer (some ⟨D+1,0,none⟩)) a ?_;simp only[jA,jB,jC];refine tkR 3 (.pointer (some ⟨D+1,1,none⟩)) a ?_;simp only[jA,jB,jC];refine tkS (i:=4) (v:=.map (some D)) rfl rfl (Or.inl ⟨oG,fun w d=>zgk⟩) a ?_;simp only[jA,jB,jC];refine tkR 5 (.string c) a ?_;simp only[jA,jB,jC];refine tkS (i:=6) (v:=.int .i64 ((vP (kJ L) c:Nat):Int)) rfl rfl (Or.inl ⟨oG,fun w d=>by have p:=zlg d.now.map c (by unfold maxLen;omega);unfold vP;go_simp⟩) a ?_;simp only[jA,jB,jC];refine oneH 7 fun k h=>?_
 go_simp;go_at_call 99;refine(zg5 (vP (kJ L) c) t tv (b+1) W oA a.nats a.cells.2.1).mono ?_;rintro f s ⟨rfl,n⟩;obtain rfl:=n.symm;go_wp2;refine h.out _ _ a (fun e=>?_);clear e h k;refine tkR 8 (.bool (!t.contains (vP (kJ L) c))) a ?_;simp only[jA,jB,jC];refine wpAnyH_done oB ?_ _;go_wp2;go_ret;exact⟨rfl,m▸g⟩
theorem strs_below {w w':World} {v:Value} {a:List ByteArray} (b:zS w v a) (c:Below w.heap.size w w'):zS w' v a:=zS.mono (fun e v d=>keep d c) b
section
variable {w1 w:World} {D b:Nat} {mv tv:Value} {L:List MD} {t:List Nat}
theorem any_none {α:Type} {a:List α} {b:α->Bool} (c:∀j (g:j<a.length),b a[j]=false):a.any b=false:=by
 rw[List.any_eq_false];intro h e;obtain⟨f,d,rfl⟩:=List.mem_iff_getElem.1 e;simp[c f d]
theorem zm7 {α:Type} {a:List α} {c:α->Bool} {b:Nat} (e:b<a.length) (d:c a[b]=true):a.any c=true:=by
 rw[List.any_eq_true];exact⟨a[b],jH _,d⟩
theorem zxh (K:L.length<=6) (M:TS w1 D b mv L tv t w) (c:List ByteArray) (r:Value) (y:zS w r c) (P:∀v∈c,v.size<=16) (a3:c.length<=900) : Calls Tryz.prog 135 #[r,dZ b] w fun e w'=>∃a:Int,e=.returned (.int .i64 a)/\decide (0<=a)=dA (kJ L) t c/\Below w.heap.size w w':=by
 obtain⟨Q,a5,rfl⟩:∃o p,r=.slice o c.length p:=by obtain⟨o,p,e,_⟩:=y;exact⟨o,p,e⟩
 go_enter Tryz.func135,Tryz.ntmps135;go_wp2;go_loopw [8] (fun u wr=>∃a:Nat,a<=c.length/\u=.int .i64 a/\TS w1 D b mv L tv t wr/\Below w.heap.size w wr/\Hid (∀d (i:d<c.length),d<a->(!t.contains (vP (kJ L) c[d]))=false)) (fun u _=>c.length - (intOf u).toNat)
 case atStart=>exact⟨0,jz _,rfl,M,Below.refl _ _,fun d _ i=>oA⟩
 case round =>
  obtain⟨a,a2,rfl,z,f,n⟩:=hrel;by_cases j:a<c.length
  ·obtain⟨q,s,rfl,m⟩:∃q s,Q=some ⟨q,s,none⟩/\wr.cell? ⟨q,s+a,none⟩=some (.string c[a]):=by
    obtain⟨T,V,C,_,N⟩:=strs_below y f;obtain⟨G,R,E,m⟩:=N (by intro e;rw[e]at j;simp at j);injection C with e1;exact⟨G,R,e1.trans E,m a j⟩
   have h:=zxf K z c[a] (P _ (jH j));generalize k:(!t.contains (vP (kJ L) c[a]))=B at h;cases B
   ·have g:=show Hid _ from k
    clear k;generalize c[a]=v at m h;go_wp2_with (go_at_call 101;refine h.mono ?_;rintro e S ⟨rfl,l⟩);go_roundw
    case rel=>exact⟨a+1,oA,oM,z.below l,f.trans (l.mono f.size),fun d i W=>by
     rcases jL d a with x | x
     ·exact n.out d i x
     ·have:d=a:=oA;subst this
      exact g.out⟩
    case measure=>simp[intOf];omega
   ·have g:Hid (dA (kJ L) t c=true):=zm7 j k;clear k;generalize c[a]=v at m h;go_wp2_with (go_at_call 101;refine h.mono ?_;rintro e S ⟨rfl,l⟩);go_ret;exact⟨(a:Int),rfl,by rw[g.out];simp,f.trans (l.mono f.size)⟩
  ·have g:Hid (dA (kJ L) t c=false):=any_none (fun d i=>n.out d i oA);clear n;go_wp2;go_ret;exact⟨-1,rfl,by rw[g.out];rfl,f⟩
theorem zss (i:L.length<=6) (j:TS w1 D b mv L tv t w) (a:List ByteArray) (d:Value) (g:zS w d a) (l:∀y∈a,y.size<=16) (k:a.length<=900) : Calls Tryz.prog 103 #[d,dZ b] w fun c w'=>c=.returned (.bool (dA (kJ L) t a))/\Below w.heap.size w w':=by
 have h:=zxh i j a d g l k;obtain⟨o,p,rfl⟩:∃e f,d=.slice e a.length f:=by obtain⟨e,f,c,_⟩:=g;exact⟨e,f,c⟩
 generalize dA (kJ L) t a=n at *;go_enter Tryz.func103,Tryz.ntmps103;go_wp2_with (fail);refine h.mono ?_;rintro c w1 ⟨q,rfl,hi,m⟩;go_wp2;go_ret;exact⟨by rw[<- hi];rfl,m⟩
theorem PS.at {c i j n:Nat} {f:ByteArray->Option Nat} (e:PS w D (.slice (some ⟨c,0,none⟩) i j) L n f) (a:Nat) (hi:a<L.length):w.cell? ⟨c,a*5,none⟩=some (.string L[a].x)/\w.cell? ⟨c,a*5+1,none⟩=some (.string (nameOf L[a].x))/\w.cell? ⟨c,a*5+2,none⟩=some L[a].vv/\w.cell? ⟨c,a*5+3,none⟩=some L[a].pv/\w.cell? ⟨c,a*5+4,none⟩=some L[a].iv:=by
 obtain⟨k,l,d,h⟩:=e.shape;obtain⟨m,b,g⟩:=h oA;injection d with e1;rw[<- e1]at b;injection b with b;injection b with b;subst b;exact g a hi
theorem PS.slot {n:Nat} {f:ByteArray->Option Nat} (d:PS w D mv L n f) (g:0<L.length):∃b a,mv=.slice (some ⟨b,0,none⟩) L.length a:=by
 obtain⟨h,a,rfl,e⟩:=d.shape;obtain⟨c,rfl,i⟩:=e g;exact⟨c,a,rfl⟩
theorem yaz (M:L.length<=6) (a:TS w1 D b mv L tv t w) (c:Nat) (hi:c<L.length) : Calls Tryz.prog 102 #[.int .i64 c,.pointer (some ⟨b+2,0,none⟩),.pointer (some ⟨b,0,none⟩),.pointer (some ⟨b+3,0,none⟩)] w fun d w'=>d=.returned (.bool (uR (kJ L) (zO L) t c))/\Below w.heap.size w w':=by
 have a6:=kc173;have a7:=a.tk.len;obtain⟨e,m,rfl⟩:=a.now.slot oA;have u:=a.now.md (jH hi);have E:(zO L).getD c []=(tx L[c].x).I:=by simp[zO,hi]
 have B:uR (kJ L) (zO L) t c=(!t.contains c&&!dA (kJ L) t (tx L[c].x).I):=by unfold uR;rw[E]
 rw[B];clear B E;obtain⟨T,R⟩:=zgr u.2.2;have k:zS w L[c].iv (tx L[c].x).I:=u.2.1;have C:∀W,TS w1 D b (.slice (some ⟨e,0,none⟩) L.length m) L tv t W->W.cell? ⟨e,c*5+4,none⟩=some L[c].iv:=fun W l=>(l.now.at c hi).2.2.2.2
 obtain⟨a2,a3,y⟩:∃p q,L[c].iv=.slice p (tx L[c].x).I.length q:=by obtain⟨p,q,d,_⟩:=k;exact⟨p,q,d⟩
 rw[y]at k C
 clear u y;generalize (tx L[c].x).I=n at *;have s:∀W,TS w1 D b (.slice (some ⟨e,0,none⟩) L.length m) L tv t W->Calls Tryz.prog 99 #[.int .i64 c,.pointer (some ⟨b+1,0,none⟩)] W fun d w'=>d=.returned (.bool (!t.contains c))/\w'=W:=fun W l=>zg5 c t tv (b+1) W oA l.nats l.cells.2.1
 generalize (!t.contains c)=g at s |-;go_enter Tryz.func102,Tryz.ntmps102;go_wp2;have h:Below w.heap.size w w.drew:=(Below.refl _ _).drew;replace a:=a.below h;replace k:=strs_below k h;refine wp_region_held_drew (S:=TS w1 D b (.slice (some ⟨e,0,none⟩) L.length m) L tv t) oB a (fun i=>?_);clear i;generalize z:w.heap.size=N at *;generalize w.drew=W at *;refine tkS (i:=0) (v:=dC b) rfl rfl (Or.inl ⟨oG,fun w f=>zdv⟩) a ?_;simp only[jA,jB,jC];refine tkR 1 (.int .i64 c) a ?_;simp only[jA,jB,jC];refine oneH 2 fun o j=>?_
 go_simp;go_at_call 99;refine(s W a).mono ?_;rintro d a5 ⟨rfl,V⟩;obtain rfl:=V.symm;go_wp2;refine j.out _ _ a (fun i=>?_);clear i j o;clear s;cases g;·skip;refine tkR 3 (.bool false) a ?_;simp only[jA,jB,jC];refine tkU 4 a ?_;simp only[jA,jB,jC];refine tkU 5 a ?_;simp only[jA,jB,jC];refine tkU 6 a ?_;simp only[jA,jB,jC];refine tkU 7 a ?_;simp only[jA,jB,jC];refine tkU 8 a ?_;simp only[jA,jB,jC];refine tkU 9 a ?_;simp only[jA,jB,jC];refine tkU 10 a ?_;simp only[jA,jB,jC];refine tkU 11 a ?_;simp only[jA,jB,jC];refine tkU 12 a ?_;simp only[jA,jB,jC];refine tkU 13 a ?_;simp only[jA,jB,jC];refine tkU 14 a ?_;simp only[jA,jB,jC];refine tkR 15 (.bool false) a ?_;simp only[jA,jB,jC];refine tkR 16 (.bool false) a ?_;simp only[jA,jB,jC];refine wpAnyH_done oB ?_ _;go_wp2;go_ret;exact⟨rfl,z▸h⟩
 ·skip;refine tkR 3 (.bool true) a ?_;simp only[jA,jB,jC];refine tkS (i:=4) (v:=.pointer (some ⟨D+1,0,none⟩)) rfl rfl (Or.inl ⟨oG,fun w f=>zdv⟩) a ?_;simp only[jA,jB,jC];refine tkR 5 (.pointer (some ⟨D+1,0,none⟩)) a ?_;simp only[jA,jB,jC];refine tkR 6 (.pointer (some ⟨D+1,0,none⟩)) a ?_;simp only[jA,jB,jC];refine tkS (i:=7) (v:=.slice (some ⟨e,0,none⟩) L.length m) rfl rfl (Or.inl ⟨oG,fun w f=>zdv⟩) a ?_;simp only[jA,jB,jC];refine tkR 8 (.int .i64 c) a ?_;simp only[jA,jB,jC];refine tkR 9 (.pointer (some ⟨e,c*5,none⟩)) a ?_;simp only[jA,jB,jC];refine tkR 10 (.pointer (some ⟨e,c*5+4,none⟩)) a ?_;simp only[jA,jB,jC];refine tkS (i:=11) (v:=.slice a2 n.length a3) rfl rfl (Or.inl ⟨oG,fun w f=>by have a8:=C w f;go_simp⟩) a ?_;simp only[jA,jB,jC];refine tkS (i:=12) (v:=dZ b) rfl rfl (Or.inl ⟨oG,fun w f=>zdv⟩) a ?_;simp only[jA,jB,jC];refine oneH 13 fun o j=>?_
  go_simp;go_at_call 103;refine(zss M a n _ k T R).mono ?_;rintro d a5 ⟨rfl,r⟩;go_wp2;refine j.out _ _ (a.below r) (fun i=>?_);clear i j o;have P:=h.trans (r.mono (by have:=h.size;omega));replace a:=a.below r;generalize Q:dA (kJ L) t n=g;refine tkR 14 (.bool (!g)) a ?_;simp only[jA,jB,jC];refine tkR 15 (.bool (!g)) a ?_;simp only[jA,jB,jC];refine tkR 16 (.bool (!g)) a ?_;simp only[jA,jB,jC];refine wpAnyH_done oB ?_ _;go_wp2;go_ret;exact⟨by rw[Q];rfl,z▸P⟩
end
end ord
end Go.Proofs.YtbjppepjmcfkaaaGreatDoor
