/- What the program's module comes to. -/
import Derived.Test.YtaadmdlbkhcfnaaGreatDoorNC15
import Derived.Test.YtaadmdlbkhcfnaaGreatDoorNC09
set_option maxHeartbeats 4000000
set_option linter.unusedVariables false
set_option linter.unusedSimpArgs false
set_option maxRecDepth 100000
namespace Go.Proofs.YtaadmdlbkhcfnaaGreatDoor
namespace chk
open Go.RowKit Go.Shelf
open syn face
theorem zc5 {w:World} {P:Nat->Prop} {k:Int} {x:ByteArray} {m:Int} {ks:List Tree} {a:Option Addr} {n c:Nat} (h:kC P w (.node k x m ks) (.agg #[.int .i64 k,.string x,.int .i64 m,.slice a n c])):ks.length<=c:=by
 unfold kC at h;obtain ⟨a',c',e,⟨h1,h2⟩,_⟩:=h;injection e with e;simp only [Array.mk.injEq,jq,and_true,true_and,Value.slice.injEq] at e;omega
section
variable {E:Env} {p:Pr} {w0:World} {D Kb kn:Nat} {kf:KF}
theorem zsm (hT:∀ L,xD L->Tab E L kf (kN L)):∀ n:Nat,(∀ t:Tree,SizeOf.sizeOf t<=n->StT t->dL E p w0 D Kb kn kf t)/\(∀ t:Tree,SizeOf.sizeOf t<=n->BlT t->zgk E p w0 D Kb kn kf t):=by
 intro n
 induction n with
 | zero =>
  refine ⟨fun t h=>?_,fun t h=>?_⟩<;>(obtain ⟨k,x,m,ks⟩:=t;simp at h)
 | succ n ih =>
  obtain ⟨ihS,ihB⟩:=ih
  have hkid:∀ {k:Int} {x:ByteArray} {m:Int} {ks:List Tree},SizeOf.sizeOf (Tree.node k x m ks)<=n+1->∀ t∈ks,SizeOf.sizeOf t<=n:=fun h t ht=>by
   have h1:=List.sizeOf_lt_of_mem ht;simp at h;omega
  refine ⟨fun t h hs=>?_,fun t h hb=>?_⟩
  ·cases hs with
   | loc l hx he=>exact zq1 _ l _ he hT
   | set hp he =>
    cases hp with
    | nam hx=>exact zk9 16 _ 0 [] _ (.nam hx) he hx (fun t ht=>by cases ht) hT
    | item hx hi=>exact zk9 17 _ 0 _ _ (.item hx hi) he hx (fun t ht=>by simp only [jy] at ht;subst ht;exact hi) hT
   | dd hc =>
    cases hc with
    | mk hx hk=>exact zxw _ 0 _ hx hk hT
   | ift he hb =>
    exact zfu 10 (.inl rfl) _ _ _ _ he (fun t ht=>by simp only [jy] at ht;subst ht;exact hb) (by simp) hT (fun g o c hv=>zc5 hv) (fun j hj=>by
     have hm:=jH hj
     exact ihB _ (hkid h _ (jF _ hm)) (by simp only [jy] at hm;rw [hm];exact hb))
   | ife he hb hc =>
    exact zfu 10 (.inl rfl) _ _ _ _ he (fun t ht=>by simp only [List.mem_cons,List.not_mem_nil,or_false] at ht;rcases ht with rfl | rfl;exact hb;exact hc) (by simp) hT (fun g o c hv=>zc5 hv) (fun j hj=>by
     have hm:=jH hj;refine ihB _ (hkid h _ (jF _ hm)) ?_;generalize ([_,_]:List Tree)[j]=t at hm;simp only [List.mem_cons,List.not_mem_nil,or_false] at hm;rcases hm with rfl | rfl
     ·exact hb
     ·exact hc)
   | whi he hb =>
    exact zfu 11 (.inr rfl) _ _ _ _ he (fun t ht=>by simp only [jy] at ht;subst ht;exact hb) (by simp) hT (fun g o c hv=>zc5 hv) (fun j hj=>by
     have hm:=jH hj
     exact ihB _ (hkid h _ (jF _ hm)) (by simp only [jy] at hm;rw [hm];exact hb))
   | out l he=>exact zu5 l _ he hT
   | inn l hp =>
    cases hp with
    | nam hx=>exact zmh l 16 _ 0 [] (.nam hx) hx (fun t ht=>by cases ht) hT
    | item hx hi=>exact zmh l 17 _ 0 _ (.item hx hi) hx (fun t ht=>by simp only [jy] at ht;subst ht;exact hi) hT
   | ret he=>exact ztz _ he hT
  ·obtain ⟨k,x,m,ks⟩:=t;have hst:∀ t∈ks,StT t:=by cases hb with | mk h=>exact h
   exact oBlock k x m ks hb (zm4 ks hst (fun j hj=>ihS _ (hkid h _ (jH hj)) (hst _ (jH hj))))
theorem zrz (hT:∀ L,xD L->Tab E L kf (kN L)) (ks:List Tree) (hst:∀ t∈ks,StT t):zgd E p w0 D Kb kn kf ks :=
 zm4 ks hst (fun j hj=>(zsm hT _).1 _ (jE _) (hst _ (jH hj)))
end
end chk
namespace chk
open syn face
def zU (ps:List (ByteArray × Bool)):List Loc:=ps.map fun q=>⟨q.1,bI q.2,1⟩
theorem zab (ps:List (ByteArray × Bool)):(zU ps).length=ps.length:=by unfold zU;rw [List.length_map]
theorem zbs (ps:List (ByteArray × Bool)):xD (zU ps):=by
 intro l hl;obtain ⟨q,_,rfl⟩:=List.mem_map.1 hl;exact fG _
theorem zdc (ps:List (ByteArray × Bool)):InvL (zU ps) 1 0:=by
 refine ⟨jz _,fun l hl=>by simp at hl,fun l hl=>?_⟩;rw [List.drop_zero] at hl;obtain ⟨q,_,rfl⟩:=List.mem_map.1 hl;rfl
theorem zes (k:Int) (x:ByteArray) (m:Int):∀ ks:List Tree,uJ (.node k x m ks)=vF ks
 | []=>rfl
 | [.node k2 y n l]=>rfl
 | a :: b :: r=>by
  have ih:=zes k x m (b :: r);simp only [uJ] at ih |-;rw [List.getLast?_cons_cons];rw [show vF (a :: b :: r)=vF (b :: r) by simp [vF]];exact ih
theorem zev (z:Tree):∀ ks:List Tree,vF (ks++[z])=vF [z]
 | []=>rfl
 | [a]=>by simp [vF]
 | a :: b :: r=>by
  have ih:=zev z (b :: r);show vF (a :: b :: (r++[z]))=_;rw [show vF (a :: b :: (r++[z]))=vF (b :: (r++[z])) by simp [vF]];exact ih
section
variable (E:Env) (q:ProcD) (ps:List (ByteArray × Bool)) (k:Int) (x:ByteArray) (m:Int) (ks:List Tree) (a:Int)
theorem zdx (ends:Bool):prF E q ps (.node k x m ks) ends a=match yG E ⟨q.gives,q.given⟩ q.writes 1 ks (zU ps) (a+1+ps.length+1) with
  | .bad c d=>.bad c d
  | .ok s=>if q.gives=true/\ends=false then .bad 2 a else .ok s.2:=by
 unfold prF;rw [show (ps.map fun p=>(⟨p.1,bI p.2,1⟩:Loc))=zU ps from rfl];simp only [blF];cases yG E ⟨q.gives,q.given⟩ q.writes 1 ks (zU ps) (a+1+ps.length+1)<;>rfl
theorem ztu (hst:∀ t∈ks,StT t) (hg:q.gives=false):prF E q ps (.node k x m ks) (uJ (.node k x m ks)) a=match zE E ⟨q.gives,q.given⟩ q.writes 1 ks (zU ps) (a+1+ps.length+1) with
  | .bad c d=>.bad c d
  | .ok s=>.ok s.2:=by
 rw [zdx,zjl E _ _ hg ks _ _ hst]
 cases zE E ⟨q.gives,q.given⟩ q.writes 1 ks (zU ps) (a+1+ps.length+1) with
 | bad c d=>rfl
 | ok s=>exact ju (fun e=>by rw [hg] at e;exact absurd e.1 (by decide))
theorem zr9 (hst:∀ t∈ks,StT t) (hg:q.gives=true) (hr:vF ks=false):prF E q ps (.node k x m ks) (uJ (.node k x m ks)) a=match zE E ⟨q.gives,q.given⟩ q.writes 1 ks (zU ps) (a+1+ps.length+1) with
  | .bad c d=>.bad c d
  | .ok s=>.bad 2 a:=by
 rw [zdx,zia E _ _ ks _ _ hst hr,zes,hr]
 cases zE E ⟨q.gives,q.given⟩ q.writes 1 ks (zU ps) (a+1+ps.length+1) with
 | bad c d=>rfl
 | ok s=>exact jv ⟨hg,rfl⟩
theorem zxd (z:Tree) (hr:vF (ks++[z])=true):prF E q ps (.node k x m (ks++[z])) (uJ (.node k x m (ks++[z]))) a=match zE E ⟨q.gives,q.given⟩ q.writes 1 ks (zU ps) (a+1+ps.length+1) with
  | .bad c d=>.bad c d
  | .ok s=>match stF E ⟨q.gives,q.given⟩ q.writes 1 true z s.1 s.2 with
   | .bad c d=>.bad c d
   | .ok s=>.ok s.2:=by
 rw [zdx,zlo E _ _ z ks,zes,hr]
 cases zE E ⟨q.gives,q.given⟩ q.writes 1 ks (zU ps) (a+1+ps.length+1) with
 | bad c d=>rfl
 | ok s =>
  dsimp only
  cases stF E ⟨q.gives,q.given⟩ q.writes 1 true z s.1 s.2 with
  | bad c d=>rfl
  | ok s2=>exact ju (fun e=>absurd e.2 (by decide))
end
theorem zj6 (x:ByteArray) (p l:Bool) (g:Option Bool) (ps:List (ByteArray × Bool)):(∀ y∈(zH x p l g ps).params,Lab y)/\Lab (zH x p l g ps).writes/\Lab (zH x p l g ps).given:=by
 refine ⟨fun y hy=>?_,fG _,fG _⟩;obtain ⟨q,_,rfl⟩:=List.mem_map.1 hy;exact fG _
end chk
namespace chk
open Go.RowKit Go.Shelf
open syn face
theorem zqa {w:World} {B:Nat} {x:ByteArray} {p l:Bool} {gv:Option Bool} {ps:List (ByteArray × Bool)} {ss:List Tree} {v:Value} (h:kC (·<B) w (Kid.proc x p l gv ps (.node 6 empty 0 ss)).tree v) : ∃ g o c,v=.agg #[.int .i64 4,.string x,.int .i64 (2*bI p+bI l+gI gv),.slice (some ⟨g,o,none⟩) (ps.length+1) c]/\g<B/\ps.length+1<=c/\ps.length+1<=4611686018427387904 /\ (∀ j (hj:j<ps.length),∃ pa pc,w.cell? ⟨g,o+j*4,none⟩=some (.int .i64 5)/\w.cell? ⟨g,o+j*4+1,none⟩=some (.string ps[j].1)/\w.cell? ⟨g,o+j*4+2,none⟩=some (.int .i64 (bI ps[j].2))/\w.cell? ⟨g,o+j*4+3,none⟩=some (.slice pa 0 pc)) /\ ∃ sa sc,w.cell? ⟨g,o+ps.length*4+3,none⟩=some (.slice sa ss.length sc)/\ss.length<=sc/\ss.length<=4611686018427387904/\(ss≠[]->∃ g2 o2,sa=some ⟨g2,o2,none⟩/\g2<B/\kY (·<B) w ss g2 o2):=by
 unfold Kid.tree at h;have hcap:=h;obtain ⟨g,o,c,rfl,hg,hl,hkid⟩:=dA h (by simp);have hcp:=zc5 hcap;simp only [jb,List.length_map,List.length_singleton] at hl hcp hkid |-;refine ⟨g,o,c,rfl,hg,hcp,hl,fun j hj=>?_,?_⟩;·obtain ⟨kk,xx,mm,aa,na,ca,k0,k1,k2,k3,hle⟩:=hkid j (by omega);rw [List.getElem_append_left (by simpa using hj),List.getElem_map] at hle;unfold zL kC at hle;obtain ⟨a',c',e,_,_⟩:=hle;injection e with e;simp only [Array.mk.injEq,jq,and_true,Value.int.injEq,Value.string.injEq,Value.slice.injEq,true_and,je] at e;obtain ⟨rfl,rfl,rfl,rfl,rfl,rfl⟩:=e;exact ⟨aa,ca,k0,k1,k2,k3⟩
 ·obtain ⟨kk,xx,mm,aa,na,ca,k0,k1,k2,k3,hle⟩:=hkid ps.length (by omega);rw [List.getElem_append_right (by simp)] at hle;simp only [List.length_map,Nat.sub_self,jI] at hle;unfold kC at hle;obtain ⟨a',c',e,⟨h1,h2⟩,hk⟩:=hle;injection e with e;simp only [Array.mk.injEq,jq,and_true,Value.int.injEq,Value.string.injEq,Value.slice.injEq,true_and] at e;obtain ⟨rfl,rfl,rfl,rfl,rfl,rfl⟩:=e;exact ⟨aa,ca,k3,h2,h1,hk⟩
theorem cntL_app:∀ a b:List Tree,kA (a++b)=kA a+kA b
 | [],b=>by simp [kA]
 | t :: r,b=>by
  show kB t+kA (r++b)=kB t+kA r+kA b;rw [cntL_app r b];omega
theorem zkw:∀ ps:List (ByteArray × Bool),kA (ps.map zL)=ps.length
 | []=>by simp [kA]
 | q :: r=>by
  show kB (zL q)+kA (r.map zL)=_;rw [zkw r];unfold zL;rw [xC];simp [kA];omega
theorem zld (x:ByteArray) (p l:Bool) (gv:Option Bool) (ps:List (ByteArray × Bool)) (ss:List Tree):kB (Kid.proc x p l gv ps (.node 6 empty 0 ss)).tree=1+ps.length+(1+kA ss):=by
 unfold Kid.tree;rw [xC,cntL_app,zkw,uX,xC];omega
section
variable {w0 w w':World} {D Kb kn:Nat} {kf:KF} {vs:List VarD} {u:Value} {a:Int}
theorem CS.clear (h:CS w0 w D Kb kn kf vs u a):CS w0 (w.setCell ⟨D,6,none⟩ (.slice none 0 0)) D Kb kn kf [] (.slice none 0 0) a:=by
 refine ⟨h.bs.setCell h.hD _,h.hD,?_,?_,?_,?_,fun k=>?_,h.mp.setCell h.nk _,h.fi,fun p x hc=>⟨(h.fw p x hc).1,(h.fw p x hc).2.1,(jM (a:=p) (jP w ⟨D,6,none⟩ _ p.block (h.fw p x hc).1)).trans (h.fw p x hc).2.2⟩,by rw [jQ];exact h.fm,h.mM,fun b e=>(by cases e),World.ownsRow_nil _ _ _ _,h.nk,h.mx,fun e=>(by cases e)⟩;·rw [jD _ _ _ _ (by simp)];exact h.c4
 ·rw [jD _ _ _ _ (by simp)];exact h.c5
 ·exact World.cell?_setCell_same' _ _ _ (by rw [h.c6];rfl)
 ·rw [jD _ _ _ _ (by simp)];exact h.c7
 ·rw [World.frozen?_setCell];exact h.fz k
end
def PR (w0:World) (D Kb kn:Nat) (kf:KF) (r:Res Int) (e:Ending) (w':World):Prop:=match r with
 | .bad c b=>e=.panicked (qS c b)/\Below w0.heap.size w0 w'
 | .ok a=>e=.returned (.tuple #[])/\∃ vs u,CS w0 w' D Kb kn kf vs u a
theorem PR.mkBad {w0 w':World} {D Kb kn:Nat} {kf:KF} {r:Res Int} {c b:Int} (h:r=.bad c b) (hb:Below w0.heap.size w0 w'):PR w0 D Kb kn kf r (.panicked (qS c b)) w':=by rw [h];exact ⟨rfl,hb⟩
theorem PR.mkOk {w0 w':World} {D Kb kn:Nat} {kf:KF} {r:Res Int} {vs:List VarD} {u:Value} {a:Int} (h:r=.ok a) (hc:CS w0 w' D Kb kn kf vs u a):PR w0 D Kb kn kf r (.returned (.tuple #[])) w':=by rw [h];exact ⟨rfl,vs,u,hc⟩
theorem zs5 (ps:List (ByteArray × Bool)) (j:Nat) (hj:j<ps.length):kN (zU (ps.take (j+1)))=kN (zU (ps.take j))++[⟨ps[j].1,false,bI ps[j].2,0⟩]:=by
 rw [List.take_succ_eq_append_getElem hj];unfold zU kN;rw [List.map_append,List.map_append];rfl
theorem zhy {P:Nat->Prop} {w:World} {z:Tree}:∀ {ks:List Tree} {g o:Nat},kY P w (ks++[z]) g o->kY P w ks g o
 | [],g,o,h=>by unfold kY;trivial
 | t :: r,g,o,h=>by
  rw [jK] at h;unfold kY at h |-;exact ⟨h.1,zhy h.2⟩
section
variable {E:Env} {w0:World} {D Kb kn:Nat} {kf:KF}
theorem oProc (x:ByteArray) (p l:Bool) (gv:Option Bool) (ps:List (ByteArray × Bool)) (ss:List Tree) (hT:∀ L,xD L->Tab E L kf (kN L)) (hst:∀ t∈ss,StT t) (hP:ps.length<=20) (hInT:InT (.node 6 empty 0 ss)) (v:Value) (w:World) (at_:Int) (vs0:List VarD) (u0:Value) (hv:kC (·<w0.heap.size) w0 (Kid.proc x p l gv ps (.node 6 empty 0 ss)).tree v) (h:CS w0 w D Kb kn kf vs0 u0 (at_+1)) (h0:0<=at_) (hm:at_+kB (Kid.proc x p l gv ps (.node 6 empty 0 ss)).tree<=1000000) : Calls Tryz.prog 42 #[.pointer (some ⟨D,0,none⟩),v,.int .i64 at_] w (PR w0 D Kb kn kf (prF E (zH x p l gv ps) ps (.node 6 empty 0 ss) (uJ (.node 6 empty 0 ss)) at_)):=by
 have c24:=kc25;have c2:=kc127;have c6:Tryz.prog.cellsOf 62=6:=fL;have c4:Tryz.prog.cellsOf 57=4:=cell4;obtain ⟨i0,hi,hz0,hz1,hz2⟩:=info_parts zd3;have hPO:=fun W (hW:Below w0.heap.size w0 W)=>zfo x p l gv ps (.node 6 empty 0 ss) v W (hv.to (fun b hb=>jo hb hW.size) (fun b hb o=>hW.cell (p:=⟨b,o,none⟩) hb)) (by omega) hInT
 rw [zld x p l gv ps ss] at hm;have hcs:=kX ss;have hlss:=len_cnt ss;obtain ⟨g,o,c,rfl,hg,hcp,hl,hpar,sa,sc,hk3,hsc,hsl,hss⟩:=zqa hv;have hlab:=zj6 x p l gv ps;have hS:=zrz (E:=E) (p:=⟨(zH x p l gv ps).gives,(zH x p l gv ps).given⟩) (w0:=w0) (D:=D) (Kb:=Kb) (kn:=kn) hT;have HN0:Hid _:=fun hg=>ztu E (zH x p l gv ps) ps 6 empty 0 ss at_ hst hg
 have HN1:Hid _:=fun hg hr=>zr9 E (zH x p l gv ps) ps 6 empty 0 ss at_ hst hg hr
 have HN2:Hid _:=fun ks z hr=>zxd E (zH x p l gv ps) ps 6 empty 0 ks at_ z hr
 generalize 2*bI p+bI l+gI gv=m at *;generalize zH x p l gv ps=q at *;obtain ⟨qn,qb,qps,qw,qg,qv⟩:=q;dsimp only at hlab hS HN0 HN1 HN2;obtain ⟨R,HR⟩:∃ R,Hid (prF E ⟨qn,qb,qps,qw,qg,qv⟩ ps (.node 6 empty 0 ss) (uJ (.node 6 empty 0 ss)) at_=R):=⟨_,rfl⟩
 rw [HR.out];clear hv;have hd:=h.lt;have hD:=h.hD;have hI0:=h.alloc (.cells #[.int .i64 4,.string x,.int .i64 m,.slice (some ⟨g,o,none⟩) (ps.length+1) c] 25);have hN0:=kJ.new w #[.int .i64 4,.string x,.int .i64 m,.slice (some ⟨g,o,none⟩) (ps.length+1) c] 25;go_enter Tryz.func42,Tryz.ntmps42;go_wp2_with (go_at_call 66;refine (hPO _ hI0.bs).mono ?_;rintro e w1 ⟨zu,rfl,hzu,hb1⟩;obtain ⟨za,zc,rfl,_,_⟩:=lexs.own_shape hzu;unfold yJ;have hI1:=(hI0.below hb1).alloc (.cells #[.string qn,.bool qb,.slice za ps.length zc,.int .i64 qw,.bool qg,.int .i64 qv] 62);have m6:=hI1.c6;have mf:=hI1.fz 6;have hN2':kJ ((w1.alloc (.cells #[.string qn,.bool qb,.slice za ps.length zc,.int .i64 qw,.bool qg,.int .i64 qv] 62)).setCell ⟨D,6,none⟩ (.slice none 0 0)) w.heap.size #[.int .i64 4,.string x,.int .i64 m,.slice (some ⟨g,o,none⟩) (ps.length+1) c] 25:=((hN0.below hb1).alloc _).other (by omega) _;have hsz1:=hb1.size;rw [jO] at hsz1;have hP2':kJ ((w1.alloc (.cells #[.string qn,.bool qb,.slice za ps.length zc,.int .i64 qw,.bool qg,.int .i64 qv] 62)).setCell ⟨D,6,none⟩ (.slice none 0 0)) w1.heap.size #[.string qn,.bool qb,.slice za ps.length zc,.int .i64 qw,.bool qg,.int .i64 qv] 62:=(kJ.new w1 _ _).other (by omega) _;have hI2':=hI1.clear;have n3:=hN2'.cell 3 rfl);clear hI0 hI1 hN0 m6 mf n3 hb1 hzu;generalize ((w1.alloc (.cells #[.string qn,.bool qb,.slice za ps.length zc,.int .i64 qw,.bool qg,.int .i64 qv] 62)).setCell ⟨D,6,none⟩ (.slice none 0 0))=W2 at *;go_loopw [27] (fun t wr=>∃ (j:Nat) (u':Value),j<=ps.length/\t=.int .i64 j/\CS w0 wr D Kb kn kf (kN (zU (ps.take j))) u' (at_+1+j)/\FrU D (.slice none 0 0) u' W2 wr) (fun t _=>ps.length - (intOf t).toNat)
 case atStart=>exact ⟨0,_,jz _,rfl,by simpa [zU,kN] using hI2',FrU.refl _ _ _⟩
 case round =>
  obtain ⟨j,u',hj,rfl,hI,hFr⟩:=hrel;by_cases hlt:j<ps.length
  ·skip;obtain ⟨pa,pc,c0,c1',c2',c3⟩:=hpar j hlt;have k0:=(hI.bs.cell (p:=⟨g,o+j*4,none⟩) hg).trans c0;have k1:=(hI.bs.cell (p:=⟨g,o+j*4+1,none⟩) hg).trans c1';have k2:=(hI.bs.cell (p:=⟨g,o+j*4+2,none⟩) hg).trans c2';have k3:=(hI.bs.cell (p:=⟨g,o+j*4+3,none⟩) hg).trans c3;have HV2:=show Hid _ from zs5 ps j hlt
   have HBits:Hid (bits BinOp.and IntKind.i64 (bI ps[j].2) 1=bI ps[j].2):=zb3 _;have hvl:(kN (zU (ps.take j))).length<=20:=by rw [vU,zab,List.length_take];omega
   clear c0 c1' c2' c3 hpar;generalize ps[j].1=y at *;generalize bI ps[j].2=lb at *;generalize kN (zU (ps.take j))=vs at *;obtain ⟨ua,uc,rfl,hucl,hug⟩:=lexs.own_shape hI.rl;have hub:∀ b,(Value.slice ua vs.length uc).ownBlock=some b->b<wr.heap.size:=fun b e=>(hI.rl.lt _ e).2
   have hd2:=hI.lt;have hI1:=hI.alloc (.cells #[.int .i64 5,.string y,.int .i64 lb,.slice pa 0 pc] 25);have hf1:=(FrU.refl D (.slice ua vs.length uc) wr).alloc (.cells #[.int .i64 5,.string y,.int .i64 lb,.slice pa 0 pc] 25);have hBg:=hI1.begin (by omega) (by omega);have hQ0:Q4 wr.heap.size (.int .i64 5) (.string y) (.int .i64 lb) (.slice pa 0 pc) (wr.alloc (.cells #[.int .i64 5,.string y,.int .i64 lb,.slice pa 0 pc] 25)):=⟨by simp,by simp,by simp,by simp⟩
   go_wp2_with (go_at_call 39;refine hBg.mono ?_;rintro e w3 ⟨rfl,hw3⟩;have hI2:CS w0 w3 D Kb kn kf vs (.slice ua vs.length uc) (at_+1+j+1):=by { rw [hw3];exact hI1.setAt _ };have hS2:Q4 wr.heap.size (.int .i64 5) (.string y) (.int .i64 lb) (.slice pa 0 pc) w3:=by { rw [hw3];exact Q4.other (by omega) hQ0 _ _ };have hf2:FrU D (.slice ua vs.length uc) (.slice ua vs.length uc) wr w3:=by { rw [hw3];exact hf1.set _ _ (fun _ e=>e) };have hs3:wr.heap.size+1<=w3.heap.size:=by { rw [hw3,jQ];simp };clear hw3);refine wp_region_held_drew (S:=fun W=>Q4 wr.heap.size (.int .i64 5) (.string y) (.int .i64 lb) (.slice pa 0 pc) W) (by kernel_rfl) (show Q4 wr.heap.size (.int .i64 5) (.string y) (.int .i64 lb) (.slice pa 0 pc) w3.drew from hS2) (fun hHeld=>?_);clear hHeld k0 k1 k2 k3 hI1 hf1 hBg hQ0;replace hI2:=hI2.drew;replace hf2:=hf2.drew;replace hS2:Q4 wr.heap.size (.int .i64 5) (.string y) (.int .i64 lb) (.slice pa 0 pc) w3.drew:=hS2;replace hs3:wr.heap.size+1<=w3.drew.heap.size:=hs3;generalize w3.drew=W3 at *;refine tkP 0 (.pointer (some ⟨D,0,none⟩)) hS2 ?_;simp only [Act.put,jA,jB,jC];refine tkP 1 (.pointer (some ⟨D,0,none⟩)) hS2 ?_;simp only [Act.put,jA,jB,jC];refine tkP 2 (.pointer (some ⟨D,0,none⟩)) hS2 ?_;simp only [Act.put,jA,jB,jC];refine tkP 3 (.pointer (some ⟨D,6,none⟩)) hS2 ?_;simp only [Act.put,jA,jB,jC];refine tkP 5 (.agg #[.int .i64 5,.string y,.int .i64 lb,.slice pa 0 pc]) hS2 ?_;simp only [Act.put,jA,jB,jC];refine wpAnyH_ready (rs:=[4,6]) (by kernel_rfl) (by simp) ?_;refine AllReadyH.cons rfl (fun K hK=>?_) (AllReadyH.cons rfl (fun K hK=>?_) AllReadyH.nil)
   focus
    have m6:=hI2.c6;go_simp;refine hK.out _ _ hS2 (fun hHeld=>?_);clear hK K hHeld m6;refine oneH 6 fun K hK=>?_
    go_simp;go_at_call 68;refine (ze5 5 y lb pa 0 pc W3).mono ?_;rintro e w4 ⟨rfl,hb4⟩;rw [HBits.out];unfold qN;have hw4:=hb4.size;replace hI2:=hI2.below hb4;replace hS2:=Q4.below hS2 hb4;replace hf2:=hf2.trans (FrU.below hb4 D (.slice ua vs.length uc));go_wp2;refine hK.out _ _ hS2 (fun hHeld=>?_);clear hK K hHeld hb4;refine oneH 7 fun K hK=>?_
    go_simp;have hsl2:∀ j u,([.string y,.bool false,.int .i64 lb,.int .i64 0]:List Value)[j]?=some u->(w4.alloc (.cells #[.string y,.bool false,.int .i64 lb,.int .i64 0] 57)).cell? ((⟨w4.heap.size,0,none⟩:Addr).add j)=some u:=xF _ #[.string y,.bool false,.int .i64 lb,.int .i64 0] _ _ rfl;have hss2:w4.heap.size+1=(w4.alloc (.cells #[.string y,.bool false,.int .i64 lb,.int .i64 0] 57)).heap.size:=by simp
    have hw4s:wr.heap.size+1<=w4.heap.size:=by omega
    replace hf2:=hf2.alloc (.cells #[.string y,.bool false,.int .i64 lb,.int .i64 0] 57);replace hI2:=hI2.alloc (.cells #[.string y,.bool false,.int .i64 lb,.int .i64 0] 57);replace hS2:=Q4.alloc hS2 (.cells #[.string y,.bool false,.int .i64 lb,.int .i64 0] 57);refine hK.out _ _ hS2 (fun hHeld=>?_);clear hK K hHeld;generalize w4.alloc (.cells #[.string y,.bool false,.int .i64 lb,.int .i64 0] 57)=W5 at *;generalize w4.heap.size=s0 at *
   rotate_left
   focus
    go_simp;go_at_call 68;refine (ze5 5 y lb pa 0 pc W3).mono ?_;rintro e w4 ⟨rfl,hb4⟩;rw [HBits.out];unfold qN;have hw4:=hb4.size;replace hI2:=hI2.below hb4;replace hS2:=Q4.below hS2 hb4;replace hf2:=hf2.trans (FrU.below hb4 D (.slice ua vs.length uc));go_wp2;refine hK.out _ _ hS2 (fun hHeld=>?_);clear hK K hHeld hb4;refine wpAnyH_ready (rs:=[4,7]) (by kernel_rfl) (by simp) ?_;refine AllReadyH.cons rfl (fun K hK=>?_) (AllReadyH.cons rfl (fun K hK=>?_) AllReadyH.nil)
    focus
     have m6:=hI2.c6;go_simp;refine hK.out _ _ hS2 (fun hHeld=>?_);clear hK K hHeld m6;refine oneH 7 fun K hK=>?_
     go_simp;have hsl2:∀ j u,([.string y,.bool false,.int .i64 lb,.int .i64 0]:List Value)[j]?=some u->(w4.alloc (.cells #[.string y,.bool false,.int .i64 lb,.int .i64 0] 57)).cell? ((⟨w4.heap.size,0,none⟩:Addr).add j)=some u:=xF _ #[.string y,.bool false,.int .i64 lb,.int .i64 0] _ _ rfl;have hss2:w4.heap.size+1=(w4.alloc (.cells #[.string y,.bool false,.int .i64 lb,.int .i64 0] 57)).heap.size:=by simp
     have hw4s:wr.heap.size+1<=w4.heap.size:=by omega
     replace hf2:=hf2.alloc (.cells #[.string y,.bool false,.int .i64 lb,.int .i64 0] 57);replace hI2:=hI2.alloc (.cells #[.string y,.bool false,.int .i64 lb,.int .i64 0] 57);replace hS2:=Q4.alloc hS2 (.cells #[.string y,.bool false,.int .i64 lb,.int .i64 0] 57);refine hK.out _ _ hS2 (fun hHeld=>?_);clear hK K hHeld;generalize w4.alloc (.cells #[.string y,.bool false,.int .i64 lb,.int .i64 0] 57)=W5 at *;generalize w4.heap.size=s0 at *
    rotate_left
    focus
     go_simp;have hsl2:∀ j u,([.string y,.bool false,.int .i64 lb,.int .i64 0]:List Value)[j]?=some u->(w4.alloc (.cells #[.string y,.bool false,.int .i64 lb,.int .i64 0] 57)).cell? ((⟨w4.heap.size,0,none⟩:Addr).add j)=some u:=xF _ #[.string y,.bool false,.int .i64 lb,.int .i64 0] _ _ rfl;have hss2:w4.heap.size+1=(w4.alloc (.cells #[.string y,.bool false,.int .i64 lb,.int .i64 0] 57)).heap.size:=by simp
     have hw4s:wr.heap.size+1<=w4.heap.size:=by omega
     replace hf2:=hf2.alloc (.cells #[.string y,.bool false,.int .i64 lb,.int .i64 0] 57);replace hI2:=hI2.alloc (.cells #[.string y,.bool false,.int .i64 lb,.int .i64 0] 57);replace hS2:=Q4.alloc hS2 (.cells #[.string y,.bool false,.int .i64 lb,.int .i64 0] 57);refine hK.out _ _ hS2 (fun hHeld=>?_);clear hK K hHeld;generalize w4.alloc (.cells #[.string y,.bool false,.int .i64 lb,.int .i64 0] 57)=W5 at *;generalize w4.heap.size=s0 at *;refine oneH 4 fun K hK=>?_
     have m6:=hI2.c6;go_simp;refine hK.out _ _ hS2 (fun hHeld=>?_);clear hK K hHeld m6
   all_goals
    refine oneH 8 fun K hK=>?_
    refine step_append_lies _ (by rfl) (.tmp 37) (.tmp 40) 38 (by rfl) (D+1) 57 i0 (.agg #[.string ⟨#[]⟩,.bool false,.int .i64 0,.int .i64 0]) 4 40 Tryz.underlying38 hi hz0 hz1 hz2 rfl (by decide) (.slice ua vs.length uc) vs.length (zW vs) (by simp [Act.eval,Act.put]) hI2.rl ⟨s0,0,none⟩ 1 1 [.string y,.bool false,.int .i64 lb,.int .i64 0] (by simp [Act.eval,Act.put]) rfl hsl2 (by intro u hu;simp at hu;rcases hu with rfl | rfl | rfl | rfl<;>rfl) (by omega) (by unfold maxLen;omega) (by omega) (by have:=hI2.lt;omega) (s0+1) hss2.symm ?_;intro g5 cap5 w5 hown5 hgrow5 hat5 hlt5;have hrN:(Value.slice ua vs.length uc).ownBlock≠some wr.heap.size:=fun e=>by have:=hub _ e;omega
    have hrD:(Value.slice ua vs.length uc).ownBlock≠some D:=fun e=>by have:=(hI2.rl.lt _ e).1;omega
    have hfin:=hI2.push (v:=⟨y,false,lb,0⟩) hown5 hgrow5 (hat5.imp id (fun e=>e.trans hss2));have hbl5:=hgrow5.block D hI2.lt (fun e=>hrD e.symm);have m6:=(jM (a:=⟨D,6,none⟩) hbl5).trans hI2.c6;have mf:=(jN (a:=⟨D,6,none⟩) hbl5).trans (hI2.fz 6);have hf5:FrU D (.slice ua vs.length uc) (.slice (some ⟨g5,0,none⟩) (vs.length+1) cap5) wr (w5.setCell ⟨D,6,none⟩ (.slice (some ⟨g5,0,none⟩) (vs.length+1) cap5)):=hf2.trans ⟨by rw [jQ];exact hgrow5.size,fun b h1 h2 h3=>(jP _ _ _ b (by show b≠D;exact h2)).trans (hgrow5.block b h1 (fun e=>h3 e.symm)),fun b e=>by have e2:some g5=some b:=e;cases e2;exact hat5.imp id (fun e=>by omega)⟩;replace hS2:=Q4.grown hS2 hgrow5 hrN;clear hI2 hbl5 hf2;refine hK.out _ _ hS2 (fun hHeld=>?_);clear hK K hHeld;simp only [Act.put,jA,jB,jC];refine tkP 9 (.pointer (some ⟨D,0,none⟩)) hS2 ?_;simp only [Act.put,jA,jB,jC];refine tkP 10 (.pointer (some ⟨D,6,none⟩)) hS2 ?_;simp only [Act.put,jA,jB,jC];refine oneH 11 fun K hK=>?_
    go_simp;refine hK.out _ _ (Q4.other (by omega) hS2 _ _) (fun hHeld=>?_);clear hK K hHeld m6 mf;refine wpAnyH_done (by kernel_rfl) ?_ _;go_wp2;exact ⟨⟨j+1,_,by omega,by simp,by rw [HV2.out,show at_+1+((j+1:Nat):Int)=at_+1+(j:Int)+1 by omega];exact hfin,hFr.trans hf5⟩,by simp [intOf];omega⟩
  ·skip
   cases qg with
   | false =>
    obtain rfl:j=ps.length:=by omega
    rw [jG (jE _)] at hI;have hub:∀ b,u'.ownBlock=some b->b<wr.heap.size:=fun b e=>(hI.rl.lt _ e).2
    have hNr:=hN2'.fr hFr (by omega) (by simp [Value.ownBlock]);have hPr:=hP2'.fr hFr (by omega) (by simp [Value.ownBlock]);have hBg:=hI.begin (by omega) (by omega);have l1:=hN2'.lt;have l2:=hP2'.lt;have hnb:u'.ownBlock≠some w.heap.size:=fun e=>by rcases hFr.own _ e with h5 | h5;cases h5;omega
    have hpb:u'.ownBlock≠some w1.heap.size:=fun e=>by rcases hFr.own _ e with h5 | h5;cases h5;omega
    have hNlt:=hNr.lt;have hPlt:=hPr.lt;clear hpar;go_wp2_with (go_at_call 39;refine hBg.mono ?_;rintro e w3 ⟨rfl,hw3⟩;have hI3:CS w0 w3 D Kb kn kf (kN (zU ps)) u' (at_+1+ps.length+1):=by { rw [hw3];exact hI.setAt _ };have hN3:kJ w3 w.heap.size #[.int .i64 4,.string x,.int .i64 m,.slice (some ⟨g,o,none⟩) (ps.length+1) c] 25:=by { rw [hw3];exact hNr.other (by omega) _ };have hP3:kJ w3 w1.heap.size #[.string qn,.bool qb,.slice za ps.length zc,.int .i64 qw,.bool false,.int .i64 qv] 62:=by { rw [hw3];exact hPr.other (by omega) _ };have hs3:wr.heap.size<=w3.heap.size:=by { rw [hw3,jQ];exact jE _ };clear hw3;have n3:=hN3.cell 3 rfl;have q3:=hP3.cell 3 rfl;have q4:=hP3.cell 4 rfl;have q4':=xU q4 (.cells #[.int .i64 qw,.int .i64 0] 127);have j3:=(hI3.bs.cell (p:=⟨g,o+ps.length*4+3,none⟩) hg).trans hk3);have hI4:=hI3.alloc (.cells #[.int .i64 qw,.int .i64 0] 127);refine (hS ss hst qw 1 0 (zU ps) u' sa sc _ (at_+1+ps.length+1) hss (zdc ps) (zbs ps) (by rw [zab];exact hP) hlab.2.1 (by omega) hI4 (by omega) (by omega)).mono ?_;have HB:Hid _:=HR.out.symm.trans (HN0.out (by first | rfl | trivial));generalize zE E ⟨false,qv⟩ qw 1 ss (zU ps) (at_+1+ps.length+1)=X at *;clear HR HN0 HN1 HN2
    cases X with
    | bad cc bb =>
     rintro e w5 ⟨rfl,hb5⟩;go_wp2
     exact ⟨rfl,PR.mkBad HB.out hb5⟩
    | ok s =>
     rintro e w5 ⟨rfl,u5,hI5,hf5⟩;go_wp2
     go_end0
     exact PR.mkOk HB.out hI5
   | true =>
    rcases List.eq_nil_or_concat ss with rfl|⟨init,z,hzz⟩
    ·skip;obtain rfl:j=ps.length:=by omega
     rw [jG (jE _)] at hI;have hub:∀ b,u'.ownBlock=some b->b<wr.heap.size:=fun b e=>(hI.rl.lt _ e).2
     have hNr:=hN2'.fr hFr (by omega) (by simp [Value.ownBlock]);have hPr:=hP2'.fr hFr (by omega) (by simp [Value.ownBlock]);have hBg:=hI.begin (by omega) (by omega);have l1:=hN2'.lt;have l2:=hP2'.lt;have hnb:u'.ownBlock≠some w.heap.size:=fun e=>by rcases hFr.own _ e with h5 | h5;cases h5;omega
     have hpb:u'.ownBlock≠some w1.heap.size:=fun e=>by rcases hFr.own _ e with h5 | h5;cases h5;omega
     have hNlt:=hNr.lt;have hPlt:=hPr.lt;clear hpar;go_wp2_with (go_at_call 39;refine hBg.mono ?_;rintro e w3 ⟨rfl,hw3⟩;have hI3:CS w0 w3 D Kb kn kf (kN (zU ps)) u' (at_+1+ps.length+1):=by { rw [hw3];exact hI.setAt _ };have hN3:kJ w3 w.heap.size #[.int .i64 4,.string x,.int .i64 m,.slice (some ⟨g,o,none⟩) (ps.length+1) c] 25:=by { rw [hw3];exact hNr.other (by omega) _ };have hP3:kJ w3 w1.heap.size #[.string qn,.bool qb,.slice za ps.length zc,.int .i64 qw,.bool true,.int .i64 qv] 62:=by { rw [hw3];exact hPr.other (by omega) _ };have hs3:wr.heap.size<=w3.heap.size:=by { rw [hw3,jQ];exact jE _ };clear hw3;have n3:=hN3.cell 3 rfl;have q3:=hP3.cell 3 rfl;have q4:=hP3.cell 4 rfl;have q4':=xU q4 (.cells #[.int .i64 qw,.int .i64 0] 127);have j3:=(hI3.bs.cell (p:=⟨g,o+ps.length*4+3,none⟩) hg).trans hk3);have hI4:=hI3.alloc (.cells #[.int .i64 qw,.int .i64 0] 127);refine (hS [] (fun t ht=>by cases ht) qw 1 0 (zU ps) u' sa sc _ (at_+1+ps.length+1) (fun h=>absurd rfl h) (zdc ps) (zbs ps) (by rw [zab];exact hP) hlab.2.1 (by omega) hI4 (by omega) (by omega)).mono ?_;have HB:Hid (R=.bad 2 at_):=HR.out.symm.trans (HN1.out (by first | rfl | trivial) (by first | rfl | trivial));clear HR HN0 HN1 HN2;rintro e w5 ⟨rfl,u5,hI5,hf5⟩;go_wp2_with (go_at_call 67;refine (vL 2 at_ _).mono ?_;rintro e w6 ⟨rfl,hw6⟩;rw [hw6]);exact ⟨rfl,PR.mkBad HB.out hI5.bs⟩
    ·rw [List.concat_eq_append] at hzz;subst hzz;by_cases hz14:(match z with | .node k _ _ _=>k)=14
     ·skip;obtain ⟨g2,o2,rfl,hg2,hat2⟩:=hss (by simp);obtain ⟨zv,⟨x0,x1,x2,x3,rfl,z0,z1,z2,z3⟩,hlz⟩:=hat2.get init.length (by simp);rw [List.getElem_append_right (jE _)] at hlz;simp only [Nat.sub_self,jI] at hlz;obtain ⟨zk,zx,zm,zks⟩:=z;have hlz2:=hlz;unfold kC at hlz2;obtain ⟨za2,zc2,ez,_,_⟩:=hlz2;injection ez with ez;simp only [Array.mk.injEq,jq,and_true] at ez;obtain ⟨rfl,rfl,rfl,rfl⟩:=ez;have hstz:=hst _ (List.mem_append_right _ (jy.2 rfl));have hsti:∀ t∈init,StT t:=fun t ht=>hst t (List.mem_append_left _ ht)
      have hidx:((init.length:Int)+1) - 1=(init.length:Int):=by omega
      have hcapp:kA (init++[.node zk zx zm zks])=kA init+kB (.node zk zx zm zks):=by rw [cntL_app,uX]
      have hci:=kX init;have hcz:=kR (.node zk zx zm zks);have hsc0:init.length+1<=sc:=by simpa using hsc
      have hsc1:init.length<=sc:=by omega
      have hsc2:¬ sc<init.length:=by omega
      have hsc3:¬ sc=0:=by omega
      simp only [jb,List.length_singleton] at hk3 hsc hsl hlss;replace hz14:zk=14:=hz14;subst hz14
      obtain ⟨e,rfl,rfl,rfl,hxe⟩:∃ e,zx=empty/\zm=0/\zks=[e]/\ExT e:=by
       cases hstz with
       | ret he=>exact ⟨_,rfl,rfl,rfl,he⟩
      have hrett:vF (init++[.node 14 empty 0 [e]])=true:=by rw [zev];rfl
      obtain rfl:j=ps.length:=by omega
      rw [jG (jE _)] at hI;have hub:∀ b,u'.ownBlock=some b->b<wr.heap.size:=fun b e=>(hI.rl.lt _ e).2
      have hNr:=hN2'.fr hFr (by omega) (by simp [Value.ownBlock]);have hPr:=hP2'.fr hFr (by omega) (by simp [Value.ownBlock]);have hBg:=hI.begin (by omega) (by omega);have l1:=hN2'.lt;have l2:=hP2'.lt;have hnb:u'.ownBlock≠some w.heap.size:=fun e=>by rcases hFr.own _ e with h5 | h5;cases h5;omega
      have hpb:u'.ownBlock≠some w1.heap.size:=fun e=>by rcases hFr.own _ e with h5 | h5;cases h5;omega
      have hNlt:=hNr.lt;have hPlt:=hPr.lt;clear hpar;go_wp2_with (go_at_call 39;refine hBg.mono ?_;rintro e w3 ⟨rfl,hw3⟩;have hI3:CS w0 w3 D Kb kn kf (kN (zU ps)) u' (at_+1+ps.length+1):=by { rw [hw3];exact hI.setAt _ };have hN3:kJ w3 w.heap.size #[.int .i64 4,.string x,.int .i64 m,.slice (some ⟨g,o,none⟩) (ps.length+1) c] 25:=by { rw [hw3];exact hNr.other (by omega) _ };have hP3:kJ w3 w1.heap.size #[.string qn,.bool qb,.slice za ps.length zc,.int .i64 qw,.bool true,.int .i64 qv] 62:=by { rw [hw3];exact hPr.other (by omega) _ };have hs3:wr.heap.size<=w3.heap.size:=by { rw [hw3,jQ];exact jE _ };clear hw3;have n3:=hN3.cell 3 rfl;have q3:=hP3.cell 3 rfl;have q4:=hP3.cell 4 rfl;have q4':=xU q4 (.cells #[.int .i64 qw,.int .i64 0] 127);have j3:=(hI3.bs.cell (p:=⟨g,o+ps.length*4+3,none⟩) hg).trans hk3;have y0:=xU ((hI3.bs.cell (p:=⟨g2,o2+init.length*4,none⟩) hg2).trans z0) (.cells #[.int .i64 qw,.int .i64 0] 127));have hI4:=hI3.alloc (.cells #[.int .i64 qw,.int .i64 0] 127);have HB:Hid _:=HR.out.symm.trans (HN2.out init (.node 14 empty 0 [e]) hrett);have hsb:(w3.alloc (.cells #[.int .i64 qw,.int .i64 0] 127)).cell? ⟨w3.heap.size,0,none⟩=some (.int .i64 qw)/\(w3.alloc (.cells #[.int .i64 qw,.int .i64 0] 127)).cell? ⟨w3.heap.size,1,none⟩=some (.int .i64 0):=⟨by simp,by simp⟩
      have hP4:=hP3.alloc (.cells #[.int .i64 qw,.int .i64 0] 127);have hC:=hS init hsti qw 1 0 (zU ps) u' (some ⟨g2,o2,none⟩) sc (w3.alloc (.cells #[.int .i64 qw,.int .i64 0] 127)).drew (at_+1+ps.length+1) (fun _=>⟨g2,o2,rfl,hg2,zhy hat2⟩) (zdc ps) (zbs ps) (by rw [zab];exact hP) hlab.2.1 (by omega) hI4.drew (by omega) (by omega)
      have HX:Hid (∀ s,zE E ⟨true,qv⟩ qw 1 init (zU ps) (at_+1+ps.length+1)=.ok s->Ext 1 (zU ps) s.1/\s.2=at_+1+ps.length+1+kA init/\s.1.length<=20):=fun s hs=>by
       obtain ⟨a1,a2,a3⟩:=zga E _ init _ _ _ _ _ hsti hs;exact ⟨a1,a2,a3 (by rw [zab];exact hP)⟩
      generalize zE E ⟨true,qv⟩ qw 1 init (zU ps) (at_+1+ps.length+1)=X at *;clear HR HN0 HN1 HN2 n3 q3 q4 q4' j3 y0 hS;have hub4:∀ b,u'.ownBlock=some b->b<w3.heap.size:=fun b e=>by have:=hub b e;omega
      refine wp_region_held_drew (S:=fun W=>W.cell? ⟨w3.heap.size,0,none⟩=some (.int .i64 qw)/\W.cell? ⟨w3.heap.size,1,none⟩=some (.int .i64 0)) (by kernel_rfl) (show (fun W=>W.cell? ⟨w3.heap.size,0,none⟩=some (.int .i64 qw)/\W.cell? ⟨w3.heap.size,1,none⟩=some (.int .i64 0)) (w3.alloc (.cells #[.int .i64 qw,.int .i64 0] 127)).drew from hsb) (fun hHeld=>?_);clear hHeld;replace hI4:=hI4.drew;replace hsb:(fun W=>W.cell? ⟨w3.heap.size,0,none⟩=some (.int .i64 qw)/\W.cell? ⟨w3.heap.size,1,none⟩=some (.int .i64 0)) (w3.alloc (.cells #[.int .i64 qw,.int .i64 0] 127)).drew:=hsb;replace hP4:kJ (w3.alloc (.cells #[.int .i64 qw,.int .i64 0] 127)).drew w1.heap.size #[.string qn,.bool qb,.slice za ps.length zc,.int .i64 qw,.bool true,.int .i64 qv] 62:=hP4;have hbl4:w3.heap.size<(w3.alloc (.cells #[.int .i64 qw,.int .i64 0] 127)).drew.heap.size:=by show _<(w3.alloc (.cells #[.int .i64 qw,.int .i64 0] 127)).heap.size;simp
      generalize (w3.alloc (.cells #[.int .i64 qw,.int .i64 0] 127)).drew=W4 at *;refine tkP 0 (.pointer (some ⟨D,0,none⟩)) hsb ?_;simp only [Act.put,jA,jB,jC];refine tkP 1 (.slice (some ⟨g2,o2,none⟩) (init.length+1) sc) hsb ?_;simp only [Act.put,jA,jB,jC];refine tkP 2 (.int .i64 init.length) hsb ?_;simp only [Act.put,jA,jB,jC];refine tkP 3 (.slice (some ⟨g2,o2,none⟩) init.length sc) hsb ?_;simp only [Act.put,jA,jB,jC];refine tkP 4 (.agg #[.int .i64 qw,.int .i64 0]) hsb ?_;simp only [Act.put,jA,jB,jC];refine oneH 5 fun K hK=>?_
      go_simp;go_at_call 69;refine hC.mono ?_
      cases X with
      | bad cc bb =>
       have HC:Hid (R=.bad cc bb):=HB.out;rintro e5 w5 ⟨rfl,hb5⟩;go_wp2
       exact ⟨rfl,PR.mkBad HC.out hb5⟩
      | ok s =>
       obtain ⟨L2,a2⟩:=s;obtain ⟨hx1,hx2,hx3⟩:=HX.out _ rfl;dsimp only at hx1 hx2 hx3;subst hx2;rintro e5 w5 ⟨rfl,u5,hI5,hf5⟩;dsimp only at hI5;have hsb5:(fun W=>W.cell? ⟨w3.heap.size,0,none⟩=some (.int .i64 qw)/\W.cell? ⟨w3.heap.size,1,none⟩=some (.int .i64 0)) w5:=⟨(hf5.cell hbl4 (by omega) (fun e=>by have:=hub4 _ e;omega)).trans hsb.1,(hf5.cell hbl4 (by omega) (fun e=>by have:=hub4 _ e;omega)).trans hsb.2⟩
       have hP5:=hP4.fr hf5 (by omega) hpb;have hlp5:w1.heap.size<w5.drew.heap.size:=hP5.lt;have hnp5:u5.ownBlock≠some w1.heap.size:=fun e=>by rcases hf5.own _ e with h5 | h5;exact hpb h5;omega
       go_wp2;refine hK.out _ _ hsb5 (fun hHeld=>?_);clear hK K hHeld;refine wpAnyH_done (by kernel_rfl) ?_ _;have hR5:=zv4 e hxe hT ⟨qn,qb,qps,qw,true,qv⟩ za ps.length zc rfl hlab.2.2 L2 u5 _ w5.drew _ hlz (hx1.lab (zbs ps)) hx3 hI5.drew (by omega) (by omega);unfold yJ at hR5;dsimp only at hR5;have hS20:(fun W=>W.cell? ⟨g2,o2+init.length*4,none⟩=some (.int .i64 14)/\W.cell? ⟨g2,o2+init.length*4+1,none⟩=some (.string empty)/\W.cell? ⟨g2,o2+init.length*4+2,none⟩=some (.int .i64 0)/\W.cell? ⟨g2,o2+init.length*4+3,none⟩=some (.slice za2 [e].length zc2)/\W.cell? ⟨w1.heap.size,0,none⟩=some (.string qn)/\W.cell? ⟨w1.heap.size,1,none⟩=some (.bool qb)/\W.cell? ⟨w1.heap.size,2,none⟩=some (.slice za ps.length zc)/\W.cell? ⟨w1.heap.size,3,none⟩=some (.int .i64 qw)/\W.cell? ⟨w1.heap.size,4,none⟩=some (.bool true)/\W.cell? ⟨w1.heap.size,5,none⟩=some (.int .i64 qv)) w5.drew:=⟨(hI5.bs.cell (p:=⟨g2,o2+init.length*4,none⟩) hg2).trans z0,(hI5.bs.cell (p:=⟨g2,o2+init.length*4+1,none⟩) hg2).trans z1,(hI5.bs.cell (p:=⟨g2,o2+init.length*4+2,none⟩) hg2).trans z2,(hI5.bs.cell (p:=⟨g2,o2+init.length*4+3,none⟩) hg2).trans z3,hP5.cell 0 rfl,hP5.cell 1 rfl,hP5.cell 2 rfl,hP5.cell 3 rfl,hP5.cell 4 rfl,hP5.cell 5 rfl⟩
       have HB2:Hid _:=HB.out;generalize stF E ⟨true,qv⟩ qw 1 true (.node 14 empty 0 [e]) L2 (at_+1+ps.length+1+kA init)=Y at *;clear hT hlz hC HX HB;go_wp2;refine wp_region_held_drew (S:=fun W=>W.cell? ⟨g2,o2+init.length*4,none⟩=some (.int .i64 14)/\W.cell? ⟨g2,o2+init.length*4+1,none⟩=some (.string empty)/\W.cell? ⟨g2,o2+init.length*4+2,none⟩=some (.int .i64 0)/\W.cell? ⟨g2,o2+init.length*4+3,none⟩=some (.slice za2 [e].length zc2)/\W.cell? ⟨w1.heap.size,0,none⟩=some (.string qn)/\W.cell? ⟨w1.heap.size,1,none⟩=some (.bool qb)/\W.cell? ⟨w1.heap.size,2,none⟩=some (.slice za ps.length zc)/\W.cell? ⟨w1.heap.size,3,none⟩=some (.int .i64 qw)/\W.cell? ⟨w1.heap.size,4,none⟩=some (.bool true)/\W.cell? ⟨w1.heap.size,5,none⟩=some (.int .i64 qv)) (by kernel_rfl) hS20 (fun hHeld=>?_);clear hHeld;generalize w5.drew=W5 at *;refine tkP 0 (.pointer (some ⟨D,0,none⟩)) hS20 ?_;simp only [Act.put,jA,jB,jC];refine tkP 1 (.slice (some ⟨g2,o2,none⟩) (init.length+1) sc) hS20 ?_;simp only [Act.put,jA,jB,jC];refine tkP 2 (.int .i64 init.length) hS20 ?_;simp only [Act.put,jA,jB,jC];refine tkP 3 (.pointer (some ⟨g2,o2+init.length*4,none⟩)) hS20 ?_;simp only [Act.put,jA,jB,jC];refine tkP 4 (.agg #[.int .i64 14,.string empty,.int .i64 0,.slice za2 [e].length zc2]) hS20 ?_;simp only [Act.put,jA,jB,jC];refine tkP 5 (.agg #[.string qn,.bool qb,.slice za ps.length zc,.int .i64 qw,.bool true,.int .i64 qv]) hS20 ?_;simp only [Act.put,jA,jB,jC];refine oneH 6 fun K hK=>?_
       go_simp;go_at_call 70;refine hR5.mono ?_
       cases Y with
       | bad cc bb =>
        have HC:Hid (R=.bad cc bb):=HB2.out;rintro e5 w6 ⟨rfl,hb5⟩;go_wp2
        exact ⟨rfl,PR.mkBad HC.out hb5⟩
       | ok s2 =>
        have HC:Hid (R=.ok s2.2):=HB2.out;rintro e5 w6 ⟨rfl,u6,hI6,hf6⟩;have hS6:(fun W=>W.cell? ⟨g2,o2+init.length*4,none⟩=some (.int .i64 14)/\W.cell? ⟨g2,o2+init.length*4+1,none⟩=some (.string empty)/\W.cell? ⟨g2,o2+init.length*4+2,none⟩=some (.int .i64 0)/\W.cell? ⟨g2,o2+init.length*4+3,none⟩=some (.slice za2 [e].length zc2)/\W.cell? ⟨w1.heap.size,0,none⟩=some (.string qn)/\W.cell? ⟨w1.heap.size,1,none⟩=some (.bool qb)/\W.cell? ⟨w1.heap.size,2,none⟩=some (.slice za ps.length zc)/\W.cell? ⟨w1.heap.size,3,none⟩=some (.int .i64 qw)/\W.cell? ⟨w1.heap.size,4,none⟩=some (.bool true)/\W.cell? ⟨w1.heap.size,5,none⟩=some (.int .i64 qv)) w6:=⟨(hI6.bs.cell (p:=⟨g2,o2+init.length*4,none⟩) hg2).trans z0,(hI6.bs.cell (p:=⟨g2,o2+init.length*4+1,none⟩) hg2).trans z1,(hI6.bs.cell (p:=⟨g2,o2+init.length*4+2,none⟩) hg2).trans z2,(hI6.bs.cell (p:=⟨g2,o2+init.length*4+3,none⟩) hg2).trans z3,(hf6.cell hlp5 (by omega) hnp5).trans hS20.2.2.2.2.1,(hf6.cell hlp5 (by omega) hnp5).trans hS20.2.2.2.2.2.1,(hf6.cell hlp5 (by omega) hnp5).trans hS20.2.2.2.2.2.2.1,(hf6.cell hlp5 (by omega) hnp5).trans hS20.2.2.2.2.2.2.2.1,(hf6.cell hlp5 (by omega) hnp5).trans hS20.2.2.2.2.2.2.2.2.1,(hf6.cell hlp5 (by omega) hnp5).trans hS20.2.2.2.2.2.2.2.2.2⟩
        go_wp2;refine hK.out _ _ hS6 (fun hHeld=>?_);clear hK K hHeld;refine wpAnyH_done (by kernel_rfl) ?_ _;go_wp2
        go_end0
        exact PR.mkOk HC.out hI6
     ·skip;obtain ⟨g2,o2,rfl,hg2,hat2⟩:=hss (by simp);obtain ⟨zv,⟨x0,x1,x2,x3,rfl,z0,z1,z2,z3⟩,hlz⟩:=hat2.get init.length (by simp);rw [List.getElem_append_right (jE _)] at hlz;simp only [Nat.sub_self,jI] at hlz;obtain ⟨zk,zx,zm,zks⟩:=z;have hlz2:=hlz;unfold kC at hlz2;obtain ⟨za2,zc2,ez,_,_⟩:=hlz2;injection ez with ez;simp only [Array.mk.injEq,jq,and_true] at ez;obtain ⟨rfl,rfl,rfl,rfl⟩:=ez;have hstz:=hst _ (List.mem_append_right _ (jy.2 rfl));have hsti:∀ t∈init,StT t:=fun t ht=>hst t (List.mem_append_left _ ht)
      have hidx:((init.length:Int)+1) - 1=(init.length:Int):=by omega
      have hcapp:kA (init++[.node zk zx zm zks])=kA init+kB (.node zk zx zm zks):=by rw [cntL_app,uX]
      have hci:=kX init;have hcz:=kR (.node zk zx zm zks);have hsc0:init.length+1<=sc:=by simpa using hsc
      have hsc1:init.length<=sc:=by omega
      have hsc2:¬ sc<init.length:=by omega
      have hsc3:¬ sc=0:=by omega
      simp only [jb,List.length_singleton] at hk3 hsc hsl hlss;replace hz14:¬ zk=14:=hz14;have hretf:vF (init++[.node zk zx zm zks])=false:=by rw [zev];simp [vF,hz14]
      have hz14':(zk==14)=false:=by simp [hz14]
      have hz14'':decide (zk=14)=false:=by simp [hz14]
      have hz14n:(zk != 14)=true:=by simp [hz14]
      obtain rfl:j=ps.length:=by omega
      rw [jG (jE _)] at hI;have hub:∀ b,u'.ownBlock=some b->b<wr.heap.size:=fun b e=>(hI.rl.lt _ e).2
      have hNr:=hN2'.fr hFr (by omega) (by simp [Value.ownBlock]);have hPr:=hP2'.fr hFr (by omega) (by simp [Value.ownBlock]);have hBg:=hI.begin (by omega) (by omega);have l1:=hN2'.lt;have l2:=hP2'.lt;have hnb:u'.ownBlock≠some w.heap.size:=fun e=>by rcases hFr.own _ e with h5 | h5;cases h5;omega
      have hpb:u'.ownBlock≠some w1.heap.size:=fun e=>by rcases hFr.own _ e with h5 | h5;cases h5;omega
      have hNlt:=hNr.lt;have hPlt:=hPr.lt;clear hpar;go_wp2_with (go_at_call 39;refine hBg.mono ?_;rintro e w3 ⟨rfl,hw3⟩;have hI3:CS w0 w3 D Kb kn kf (kN (zU ps)) u' (at_+1+ps.length+1):=by { rw [hw3];exact hI.setAt _ };have hN3:kJ w3 w.heap.size #[.int .i64 4,.string x,.int .i64 m,.slice (some ⟨g,o,none⟩) (ps.length+1) c] 25:=by { rw [hw3];exact hNr.other (by omega) _ };have hP3:kJ w3 w1.heap.size #[.string qn,.bool qb,.slice za ps.length zc,.int .i64 qw,.bool true,.int .i64 qv] 62:=by { rw [hw3];exact hPr.other (by omega) _ };have hs3:wr.heap.size<=w3.heap.size:=by { rw [hw3,jQ];exact jE _ };clear hw3;have n3:=hN3.cell 3 rfl;have q3:=hP3.cell 3 rfl;have q4:=hP3.cell 4 rfl;have q4':=xU q4 (.cells #[.int .i64 qw,.int .i64 0] 127);have j3:=(hI3.bs.cell (p:=⟨g,o+ps.length*4+3,none⟩) hg).trans hk3;have y0:=xU ((hI3.bs.cell (p:=⟨g2,o2+init.length*4,none⟩) hg2).trans z0) (.cells #[.int .i64 qw,.int .i64 0] 127));have hI4:=hI3.alloc (.cells #[.int .i64 qw,.int .i64 0] 127);have hC:=hS (init++[.node zk zx zm zks]) hst qw 1 0 (zU ps) u' (some ⟨g2,o2,none⟩) sc _ (at_+1+ps.length+1) hss (zdc ps) (zbs ps) (by rw [zab];exact hP) hlab.2.1 (by omega) hI4 (by omega) (by omega);simp only [jb,List.length_singleton] at hC;refine hC.mono ?_;have HB:Hid _:=HR.out.symm.trans (HN1.out (by first | rfl | trivial) hretf);generalize zE E ⟨true,qv⟩ qw 1 (init++[.node zk zx zm zks]) (zU ps) (at_+1+ps.length+1)=X at *;clear HR HN0 HN1 HN2 hC
      cases X with
      | bad cc bb =>
       rintro e w5 ⟨rfl,hb5⟩;go_wp2
       exact ⟨rfl,PR.mkBad HB.out hb5⟩
      | ok s =>
       have HB2:Hid (R=.bad 2 at_):=HB.out;rintro e w5 ⟨rfl,u5,hI5,hf5⟩;go_wp2_with (go_at_call 67;refine (vL 2 at_ _).mono ?_;rintro e w6 ⟨rfl,hw6⟩;rw [hw6]);exact ⟨rfl,PR.mkBad HB2.out hI5.bs⟩
end
def DE (X:Nat->Prop) (m:ByteArray) (K:List Kid) (w:World) (e:Ending) (w':World):Prop:=∃ (vv pv:Value) (V:List VarD) (P:List (ProcD × Value)),e=.returned (.agg #[.string m,vv,pv])/\FR X (w.heap.size+1+1) w' vv pv V P/\V=qE true K/\P.map (·.1)=qH true K/\Below w.heap.size w w'
theorem zw9 {W:World} {m:ByteArray} {vv pv a0 a1:Value} (tl:List Value) (B:Nat) (h:kJ W B #[.string m,vv,pv] 41):(results Tryz.f40 (List.toArray (a0 :: a1 :: .pointer (some ⟨B,0,none⟩) :: tl))).run Tryz.prog W=.ok (.agg #[.string m,vv,pv]) W:=by
 have c3:Tryz.prog.cellsOf 41=3:=gN;have z0:=h.cell 0 rfl;have z1:=h.cell 1 rfl;have z2:=h.cell 2 rfl;simp [results,Tryz.f40,go_sem,z0,z1,z2]
theorem zrw (X:Nat->Prop) (w0:World) (D:Nat) (m:ByteArray) (K:List Kid) (a:Option Addr) (c:Nat) (w:World) (hbs:Below w0.heap.size w0 w) (hd:D<w.heap.size) (hX0:∀ b,X b->b<w.heap.size) (c1:w.cell? ⟨D,1,none⟩=some (.string m)) (c3':w.cell? ⟨D,3,none⟩=some (.slice a K.length c)) (hK:K≠[]->∃ g o,a=some ⟨g,o,none⟩/\g<w0.heap.size/\kY (·<w0.heap.size) w0 (K.map Kid.tree) g o) (hKl:K.length<=1000) (hgood:∀ k∈K,k.good) (hps:∀ k∈K,k.kids.length<=1000) : Calls Tryz.prog 40 #[.pointer (some ⟨D,0,none⟩)] w (DE X m K w):=by
 have c24:=kc25;have c4:Tryz.prog.cellsOf 57=4:=cell4;have c6:Tryz.prog.cellsOf 62=6:=fL;have c3:Tryz.prog.cellsOf 41=3:=gN;have d1:=xU c1 (.cells #[.string ⟨#[]⟩,.slice none 0 0,.slice none 0 0] 41);have d3:=xU (xU c3' (.cells #[.string ⟨#[]⟩,.slice none 0 0,.slice none 0 0] 41)) (.cells #[.string m,.slice none 0 0,.slice none 0 0] 41);have hb0:Below w.heap.size w ((w.alloc (.cells #[.string ⟨#[]⟩,.slice none 0 0,.slice none 0 0] 41)).alloc (.cells #[.string m,.slice none 0 0,.slice none 0 0] 41)):=(bal _).alloc (by simp) _;have hZ0:kJ ((w.alloc (.cells #[.string ⟨#[]⟩,.slice none 0 0,.slice none 0 0] 41)).alloc (.cells #[.string m,.slice none 0 0,.slice none 0 0] 41)) w.heap.size #[.string ⟨#[]⟩,.slice none 0 0,.slice none 0 0] 41:=(kJ.new w _ _).alloc _
 have hF0:kJ ((w.alloc (.cells #[.string ⟨#[]⟩,.slice none 0 0,.slice none 0 0] 41)).alloc (.cells #[.string m,.slice none 0 0,.slice none 0 0] 41)) (w.heap.size+1) #[.string m,.slice none 0 0,.slice none 0 0] 41:=by
  have:=kJ.new (w.alloc (.cells #[.string ⟨#[]⟩,.slice none 0 0,.slice none 0 0] 41)) #[.string m,.slice none 0 0,.slice none 0 0] 41;rw [jO] at this;exact this
 go_enter Tryz.func40,Tryz.ntmps40;go_wp2;clear d1 d3;generalize ((w.alloc (.cells #[.string ⟨#[]⟩,.slice none 0 0,.slice none 0 0] 41)).alloc (.cells #[.string m,.slice none 0 0,.slice none 0 0] 41))=W1 at *;go_loopw [18] (fun t wr=>∃ (j:Nat) (vv pv:Value) (V:List VarD) (P:List (ProcD × Value)),j<=K.length/\t=.int .i64 j/\FR X (w.heap.size+1+1) wr vv pv V P/\kJ wr (w.heap.size+1) #[.string m,vv,pv] 41/\kJ wr w.heap.size #[.string ⟨#[]⟩,.slice none 0 0,.slice none 0 0] 41/\Below w.heap.size w wr/\Hid (V=qE true (K.take j))/\Hid (P.map (·.1)=qH true (K.take j))) (fun t _=>K.length - (intOf t).toNat)
 case atStart=>exact ⟨0,_,_,[],[],jz _,rfl,FR.nil _ _ _,hF0,hZ0,hb0,rfl,rfl⟩
 case round =>
  clear hF0 hZ0 hb0;obtain ⟨j,vv,pv,V,P,hj,rfl,hR,hF,hZ,hb,HV,HP⟩:=hrel;obtain ⟨av,cv,rfl⟩:=hR.shapeV;obtain ⟨ap,cp,rfl⟩:=hR.shapeP;have holdV:∀ b,(Value.slice av V.length cv).ownBlock=some b->b<wr.heap.size:=fun b e=>(hR.ov.lt _ e).2
  have holdP:∀ b,(Value.slice ap P.length cp).ownBlock=some b->b<wr.heap.size:=fun b e=>(hR.op.lt _ e).2
  have hsz:=hF.lt;have hVl:V.length<=1000:=by rw [HV.out];exact jp (zbi true _) (by rw [List.length_take];omega)
  have hPl:P.length<=1000:=by
   have h1:(P.map (·.1)).length=(qH true (K.take j)).length:=by rw [HP.out]
   rw [List.length_map] at h1;rw [h1];exact jp (zbb true _) (by rw [List.length_take];omega)
  by_cases hlt:j<K.length
  ·obtain ⟨g,o,rfl,hg,hat⟩:=hK (by intro e;rw [e] at hlt;simp at hlt);have hbw:=hbs.trans (hb.mono hbs.size);obtain ⟨ka0,kc0,k0,k1,k2,k3,hly⟩:=ze0 hg hat hbw hlt;obtain ⟨ka,kc,j0,j1,j2,j3,hl0⟩:=ze0 hg hat (Below.refl _ _) hlt;have hj3:=(hbw.cell (p:=⟨g,o+j*4+3,none⟩) hg).trans j3;rw [hj3] at k3;injection k3 with k3;injection k3 with e1 _ e2;subst e1 e2;have k3:=hj3;clear j0 j1 j2 j3 hj3;have hgk:=hgood _ (jH hlt);have hpk:=hps _ (jH hlt);have HV1:Hid (K.take (j+1)=K.take j++[K[j]]):=zhd K j hlt;clear hat hK;generalize hkj:K[j]=kid at *;clear hkj
   cases kid with
   | imp x =>
    have HV2:Hid (qE true (K.take j++[.imp x])=V):=by show _=_;rw [cI,HV.out];simp [qE]
    have HV3:Hid (qH true (K.take j++[.imp x])=P.map (·.1)):=by show _=_;rw [cG,HP.out];simp [qH]
    clear hly hgk;simp only [Kid.kind,Kid.text,Kid.num] at k0 k1 k2;generalize (Kid.imp x).kids.length=kl at *;go_wp2
    exact ⟨⟨j+1,_,_,V,P,by omega,by simp,hR.alloc _,hF.alloc _,hZ.alloc _,hb.alloc (by omega) _,by show _=_;rw [HV1.out,HV2.out],by show _=_;rw [HV1.out,HV3.out]⟩,by simp [intOf];omega⟩
   | var x p l n =>
    have HV2:Hid (qE true (K.take j++[.var x p l n])=V++[vD x p l n]):=by show _=_;rw [cI,HV.out];simp [qE]
    have HV3:Hid (qH true (K.take j++[.var x p l n])=P.map (·.1)):=by show _=_;rw [cG,HP.out];simp [qH]
    have hC:=fun W (hW:Below w.heap.size w W)=>znx x p l n _ W (hl0.to (fun b hb=>jo hb (jp hbs.size hW.size)) (fun b hb o=>(hbs.trans (hW.mono hbs.size)).cell (p:=⟨b,o,none⟩) hb))
    simp only [Kid.kind,Kid.text,Kid.num] at k0 k1 k2 hC;clear hly hgk;generalize vD x p l n=vd at *;generalize (Kid.var x p l n).kids.length=kl at *;generalize 2*bI p+bI l=km at *;obtain ⟨i0,hi,hz0,hz1,hz2⟩:=info_parts zd3;have hS2:Q4 wr.heap.size (.int .i64 3) (.string x) (.int .i64 km) (.slice ka kl kc) (wr.alloc (.cells #[.int .i64 3,.string x,.int .i64 km,.slice ka kl kc] 25)).drew:=⟨by simp,by simp,by simp,by simp⟩
    go_wp2;refine wp_region_held_drew (S:=fun W=>Q4 wr.heap.size (.int .i64 3) (.string x) (.int .i64 km) (.slice ka kl kc) W) (by kernel_rfl) hS2 (fun hHeld=>?_);clear hHeld k0 k1 k2 k3;have hR2:=(hR.alloc (.cells #[.int .i64 3,.string x,.int .i64 km,.slice ka kl kc] 25)).drew;have hF2:kJ (wr.alloc (.cells #[.int .i64 3,.string x,.int .i64 km,.slice ka kl kc] 25)).drew (w.heap.size+1) #[.string m,.slice av V.length cv,.slice ap P.length cp] 41:=hF.alloc _;have hZ2:kJ (wr.alloc (.cells #[.int .i64 3,.string x,.int .i64 km,.slice ka kl kc] 25)).drew w.heap.size #[.string ⟨#[]⟩,.slice none 0 0,.slice none 0 0] 41:=hZ.alloc _;have hb2:=(hb.alloc (by omega) (.cells #[.int .i64 3,.string x,.int .i64 km,.slice ka kl kc] 25)).drew;have hs2:wr.heap.size+1<=(wr.alloc (.cells #[.int .i64 3,.string x,.int .i64 km,.slice ka kl kc] 25)).drew.heap.size:=by show _<=(wr.alloc (.cells #[.int .i64 3,.string x,.int .i64 km,.slice ka kl kc] 25)).heap.size;simp
    clear hR hF hZ hb;generalize (wr.alloc (.cells #[.int .i64 3,.string x,.int .i64 km,.slice ka kl kc] 25)).drew=W2 at *;refine tkP 0 (.pointer (some ⟨w.heap.size+1,1,none⟩)) hS2 ?_;simp only [Act.put,jA,jB,jC];refine tkP 2 (.agg #[.int .i64 3,.string x,.int .i64 km,.slice ka kl kc]) hS2 ?_;simp only [Act.put,jA,jB,jC];refine wpAnyH_ready (rs:=[1,3]) (by kernel_rfl) (by simp) ?_;refine AllReadyH.cons rfl (fun K hK=>?_) (AllReadyH.cons rfl (fun K hK=>?_) AllReadyH.nil)
    focus
     have m6:=hF2.cell 1 rfl;go_simp;refine hK.out _ _ hS2 (fun hHeld=>?_);clear hK K hHeld m6;refine oneH 3 fun K hK=>?_
     go_simp;go_at_call 65;refine (hC W2 hb2).mono ?_;rintro e w3 ⟨rfl,hb3⟩;unfold qN;have hw3:=hb3.size;replace hR2:=hR2.below hb3;replace hS2:=Q4.below hS2 hb3;replace hF2:=hF2.below hb3;replace hZ2:=hZ2.below hb3;have hb2':=hb2.trans (hb3.mono hb2.size);go_wp2;refine hK.out _ _ hS2 (fun hHeld=>?_);clear hK K hHeld hC;replace hb2:=hb2';clear hb2';refine oneH 4 fun K hK=>?_
     go_simp;have hsl:∀ j u,([.string vd.name,.bool vd.pub,.int .i64 vd.label,.int .i64 vd.size]:List Value)[j]?=some u->(w3.alloc (.cells #[.string vd.name,.bool vd.pub,.int .i64 vd.label,.int .i64 vd.size] 57)).cell? ((⟨w3.heap.size,0,none⟩:Addr).add j)=some u:=xF _ #[.string vd.name,.bool vd.pub,.int .i64 vd.label,.int .i64 vd.size] _ _ rfl;have hss:w3.heap.size+1=(w3.alloc (.cells #[.string vd.name,.bool vd.pub,.int .i64 vd.label,.int .i64 vd.size] 57)).heap.size:=by simp
     have hs0:wr.heap.size+1<=w3.heap.size:=by omega
     have hbe:=(Below.refl w3.heap.size w3).alloc (jE _) (.cells #[.string vd.name,.bool vd.pub,.int .i64 vd.label,.int .i64 vd.size] 57);replace hb2:=hb2.alloc (jp (by omega) hs0) (.cells #[.string vd.name,.bool vd.pub,.int .i64 vd.label,.int .i64 vd.size] 57);replace hR2:=hR2.alloc (.cells #[.string vd.name,.bool vd.pub,.int .i64 vd.label,.int .i64 vd.size] 57);replace hS2:=Q4.alloc hS2 (.cells #[.string vd.name,.bool vd.pub,.int .i64 vd.label,.int .i64 vd.size] 57);replace hF2:=hF2.alloc (.cells #[.string vd.name,.bool vd.pub,.int .i64 vd.label,.int .i64 vd.size] 57);replace hZ2:=hZ2.alloc (.cells #[.string vd.name,.bool vd.pub,.int .i64 vd.label,.int .i64 vd.size] 57);clear hbe;refine hK.out _ _ hS2 (fun hHeld=>?_);clear hK K hHeld;generalize w3.alloc (.cells #[.string vd.name,.bool vd.pub,.int .i64 vd.label,.int .i64 vd.size] 57)=W3 at *;generalize w3.heap.size=s0 at *
    rotate_left
    focus
     go_simp;go_at_call 65;refine (hC W2 hb2).mono ?_;rintro e w3 ⟨rfl,hb3⟩;unfold qN;have hw3:=hb3.size;replace hR2:=hR2.below hb3;replace hS2:=Q4.below hS2 hb3;replace hF2:=hF2.below hb3;replace hZ2:=hZ2.below hb3;have hb2':=hb2.trans (hb3.mono hb2.size);go_wp2;refine hK.out _ _ hS2 (fun hHeld=>?_);clear hK K hHeld hC;replace hb2:=hb2';clear hb2';refine wpAnyH_ready (rs:=[1,4]) (by kernel_rfl) (by simp) ?_;refine AllReadyH.cons rfl (fun K hK=>?_) (AllReadyH.cons rfl (fun K hK=>?_) AllReadyH.nil)
     focus
      have m6:=hF2.cell 1 rfl;go_simp;refine hK.out _ _ hS2 (fun hHeld=>?_);clear hK K hHeld m6;refine oneH 4 fun K hK=>?_
      go_simp;have hsl:∀ j u,([.string vd.name,.bool vd.pub,.int .i64 vd.label,.int .i64 vd.size]:List Value)[j]?=some u->(w3.alloc (.cells #[.string vd.name,.bool vd.pub,.int .i64 vd.label,.int .i64 vd.size] 57)).cell? ((⟨w3.heap.size,0,none⟩:Addr).add j)=some u:=xF _ #[.string vd.name,.bool vd.pub,.int .i64 vd.label,.int .i64 vd.size] _ _ rfl;have hss:w3.heap.size+1=(w3.alloc (.cells #[.string vd.name,.bool vd.pub,.int .i64 vd.label,.int .i64 vd.size] 57)).heap.size:=by simp
      have hs0:wr.heap.size+1<=w3.heap.size:=by omega
      have hbe:=(Below.refl w3.heap.size w3).alloc (jE _) (.cells #[.string vd.name,.bool vd.pub,.int .i64 vd.label,.int .i64 vd.size] 57);replace hb2:=hb2.alloc (jp (by omega) hs0) (.cells #[.string vd.name,.bool vd.pub,.int .i64 vd.label,.int .i64 vd.size] 57);replace hR2:=hR2.alloc (.cells #[.string vd.name,.bool vd.pub,.int .i64 vd.label,.int .i64 vd.size] 57);replace hS2:=Q4.alloc hS2 (.cells #[.string vd.name,.bool vd.pub,.int .i64 vd.label,.int .i64 vd.size] 57);replace hF2:=hF2.alloc (.cells #[.string vd.name,.bool vd.pub,.int .i64 vd.label,.int .i64 vd.size] 57);replace hZ2:=hZ2.alloc (.cells #[.string vd.name,.bool vd.pub,.int .i64 vd.label,.int .i64 vd.size] 57);clear hbe;refine hK.out _ _ hS2 (fun hHeld=>?_);clear hK K hHeld;generalize w3.alloc (.cells #[.string vd.name,.bool vd.pub,.int .i64 vd.label,.int .i64 vd.size] 57)=W3 at *;generalize w3.heap.size=s0 at *
     rotate_left
     focus
      go_simp;have hsl:∀ j u,([.string vd.name,.bool vd.pub,.int .i64 vd.label,.int .i64 vd.size]:List Value)[j]?=some u->(w3.alloc (.cells #[.string vd.name,.bool vd.pub,.int .i64 vd.label,.int .i64 vd.size] 57)).cell? ((⟨w3.heap.size,0,none⟩:Addr).add j)=some u:=xF _ #[.string vd.name,.bool vd.pub,.int .i64 vd.label,.int .i64 vd.size] _ _ rfl;have hss:w3.heap.size+1=(w3.alloc (.cells #[.string vd.name,.bool vd.pub,.int .i64 vd.label,.int .i64 vd.size] 57)).heap.size:=by simp
      have hs0:wr.heap.size+1<=w3.heap.size:=by omega
      have hbe:=(Below.refl w3.heap.size w3).alloc (jE _) (.cells #[.string vd.name,.bool vd.pub,.int .i64 vd.label,.int .i64 vd.size] 57);replace hb2:=hb2.alloc (jp (by omega) hs0) (.cells #[.string vd.name,.bool vd.pub,.int .i64 vd.label,.int .i64 vd.size] 57);replace hR2:=hR2.alloc (.cells #[.string vd.name,.bool vd.pub,.int .i64 vd.label,.int .i64 vd.size] 57);replace hS2:=Q4.alloc hS2 (.cells #[.string vd.name,.bool vd.pub,.int .i64 vd.label,.int .i64 vd.size] 57);replace hF2:=hF2.alloc (.cells #[.string vd.name,.bool vd.pub,.int .i64 vd.label,.int .i64 vd.size] 57);replace hZ2:=hZ2.alloc (.cells #[.string vd.name,.bool vd.pub,.int .i64 vd.label,.int .i64 vd.size] 57);clear hbe;refine hK.out _ _ hS2 (fun hHeld=>?_);clear hK K hHeld;generalize w3.alloc (.cells #[.string vd.name,.bool vd.pub,.int .i64 vd.label,.int .i64 vd.size] 57)=W3 at *;generalize w3.heap.size=s0 at *;refine oneH 1 fun K hK=>?_
      have m6:=hF2.cell 1 rfl;go_simp;refine hK.out _ _ hS2 (fun hHeld=>?_);clear hK K hHeld m6
    all_goals
     refine oneH 5 fun K hK=>?_
     refine step_append_lies _ (by rfl) (.tmp 27) (.tmp 30) 38 (by rfl) (w.heap.size+1+1) 57 i0 (.agg #[.string ⟨#[]⟩,.bool false,.int .i64 0,.int .i64 0]) 4 40 Tryz.underlying38 hi hz0 hz1 hz2 rfl (by decide) (.slice av V.length cv) V.length (zW V) (by simp [Act.eval,Act.put]) hR2.ov ⟨s0,0,none⟩ 1 1 [.string vd.name,.bool vd.pub,.int .i64 vd.label,.int .i64 vd.size] (by simp [Act.eval,Act.put]) rfl hsl (by intro u hu;simp at hu;rcases hu with rfl | rfl | rfl | rfl<;>rfl) (by omega) (by unfold maxLen;omega) (by omega) (by omega) (s0+1) hss.symm ?_;intro g5 cap5 w5 hown5 hgrow5 hat5 hlt5;have hlo:∀ b,(Value.slice av V.length cv).ownBlock=some b->w.heap.size+1+1<=b/\b<wr.heap.size:=fun b e=>⟨(hR2.ov.lt _ e).1,holdV b e⟩
     have hrN:(Value.slice av V.length cv).ownBlock≠some wr.heap.size:=fun e=>by have:=hlo _ e;omega
     have hrF:(Value.slice av V.length cv).ownBlock≠some (w.heap.size+1):=fun e=>by have:=hlo _ e;omega
     have hrZ:(Value.slice av V.length cv).ownBlock≠some w.heap.size:=fun e=>by have:=hlo _ e;omega
     have hX:∀ b,W3.heap.size<=b->¬ X b:=fun b hb e=>by have:=hX0 b e;omega
     have hfin:=(hR2.pushV (v:=vd) hown5 hgrow5 (hat5.imp id (fun e=>e.trans hss)) hX).set (M:=w.heap.size+1) (o:=1) (by omega) (.slice (some ⟨g5,0,none⟩) (V.length+1) cap5);have hF5:=hF2.grown hgrow5 hrF;have m6:=hF5.cell 1 rfl;have mf:=hF5.fz 1;have hF6:=hF5.set 1 (.slice (some ⟨g5,0,none⟩) (V.length+1) cap5);have hZ6:=(hZ2.grown hgrow5 hrZ).other (b:=w.heap.size+1) (o:=1) (by omega) (.slice (some ⟨g5,0,none⟩) (V.length+1) cap5);have hb6:=(hb2.grown hgrow5 (by omega) (fun k e=>by have:=hlo k e;omega)).setCell (p:=⟨w.heap.size+1,1,none⟩) (Nat.le_succ _) (.slice (some ⟨g5,0,none⟩) (V.length+1) cap5);have hs6:=hgrow5.size;replace hS2:=Q4.grown hS2 hgrow5 hrN;clear hR2 hF2 hZ2 hb2 hF5;refine hK.out _ _ hS2 (fun hHeld=>?_);clear hK K hHeld;simp only [Act.put,jA,jB,jC];refine tkP 6 (.pointer (some ⟨w.heap.size+1,1,none⟩)) hS2 ?_;simp only [Act.put,jA,jB,jC];refine oneH 7 fun K hK=>?_
     go_simp;refine hK.out _ _ (Q4.other (by omega) hS2 _ _) (fun hHeld=>?_);clear hK K hHeld m6 mf;refine wpAnyH_done (by kernel_rfl) ?_ _;go_wp2
     exact ⟨⟨j+1,.slice (some ⟨g5,0,none⟩) (V.length+1) cap5,.slice ap P.length cp,V++[vd],P,by omega,by simp,hfin,hF6,hZ6,hb6,by show _=_;rw [HV1.out,HV2.out],by show _=_;rw [HV1.out,HV3.out]⟩,by simp [intOf];omega⟩
   | proc x p l gv ps b =>
    have HV2:Hid (qE true (K.take j++[.proc x p l gv ps b])=V):=by show _=_;rw [cI,HV.out];simp [qE]
    have HV3:Hid (qH true (K.take j++[.proc x p l gv ps b])=P.map (·.1)++[zH x p l gv ps]):=by show _=_;rw [cG,HP.out];simp [qH]
    have HPL:Hid ((zH x p l gv ps).params.length=ps.length):=by show _=_;simp [zH]
    have hpl:ps.length<=1000:=by simp [Kid.kids] at hpk;omega
    have hC:∀ W (hW:Below w.heap.size w W),Calls Tryz.prog 66 #[_] W fun e w'=>∃ u,e=.returned (yJ (zH x p l gv ps) u)/\w'.ownsRow W.heap.size 3 1 u ps.length (uU (zH x p l gv ps).params)/\Below W.heap.size W w':=fun W hW=>zfo x p l gv ps b _ W (hl0.to (fun b hb=>jo hb (jp hbs.size hW.size)) (fun b hb o=>(hbs.trans (hW.mono hbs.size)).cell (p:=⟨b,o,none⟩) hb)) hpl hgk.2.2
    simp only [Kid.kind,Kid.text,Kid.num] at k0 k1 k2 hC;clear hly hgk hpk;generalize zH x p l gv ps=pd at *;generalize (Kid.proc x p l gv ps b).kids.length=kl at *;generalize 2*bI p+bI l+gI gv=km at *;obtain ⟨i0,hi,hz0,hz1,hz2⟩:=info_parts zn2;have hS2:Q4 wr.heap.size (.int .i64 4) (.string x) (.int .i64 km) (.slice ka kl kc) (wr.alloc (.cells #[.int .i64 4,.string x,.int .i64 km,.slice ka kl kc] 25)).drew:=⟨by simp,by simp,by simp,by simp⟩
    go_wp2;refine wp_region_held_drew (S:=fun W=>Q4 wr.heap.size (.int .i64 4) (.string x) (.int .i64 km) (.slice ka kl kc) W) (by kernel_rfl) hS2 (fun hHeld=>?_);clear hHeld k0 k1 k2 k3;have hR2:=(hR.alloc (.cells #[.int .i64 4,.string x,.int .i64 km,.slice ka kl kc] 25)).drew;have hF2:kJ (wr.alloc (.cells #[.int .i64 4,.string x,.int .i64 km,.slice ka kl kc] 25)).drew (w.heap.size+1) #[.string m,.slice av V.length cv,.slice ap P.length cp] 41:=hF.alloc _;have hZ2:kJ (wr.alloc (.cells #[.int .i64 4,.string x,.int .i64 km,.slice ka kl kc] 25)).drew w.heap.size #[.string ⟨#[]⟩,.slice none 0 0,.slice none 0 0] 41:=hZ.alloc _;have hb2:=(hb.alloc (by omega) (.cells #[.int .i64 4,.string x,.int .i64 km,.slice ka kl kc] 25)).drew;have hs2:wr.heap.size+1<=(wr.alloc (.cells #[.int .i64 4,.string x,.int .i64 km,.slice ka kl kc] 25)).drew.heap.size:=by show _<=(wr.alloc (.cells #[.int .i64 4,.string x,.int .i64 km,.slice ka kl kc] 25)).heap.size;simp
    clear hR hF hZ hb;generalize (wr.alloc (.cells #[.int .i64 4,.string x,.int .i64 km,.slice ka kl kc] 25)).drew=W2 at *;refine tkP 0 (.pointer (some ⟨w.heap.size+1,2,none⟩)) hS2 ?_;simp only [Act.put,jA,jB,jC];refine tkP 2 (.agg #[.int .i64 4,.string x,.int .i64 km,.slice ka kl kc]) hS2 ?_;simp only [Act.put,jA,jB,jC];refine wpAnyH_ready (rs:=[1,3]) (by kernel_rfl) (by simp) ?_;refine AllReadyH.cons rfl (fun K hK=>?_) (AllReadyH.cons rfl (fun K hK=>?_) AllReadyH.nil)
    focus
     have m6:=hF2.cell 2 rfl;go_simp;refine hK.out _ _ hS2 (fun hHeld=>?_);clear hK K hHeld m6;refine oneH 3 fun K hK=>?_
     go_simp;go_at_call 66;refine (hC W2 hb2).mono ?_;rintro e w3 ⟨zu,rfl,hzu,hb3⟩;obtain ⟨za,zc,rfl,_,_⟩:=lexs.own_shape hzu;have hpar:xR (fun b=>W2.heap.size<=b/\b<w3.heap.size) w3 (.slice za pd.params.length zc) pd.params:=xR.own (by rw [HPL.out];exact hzu);rw [HPL.out] at hpar;generalize hzn:ps.length=zn at hzu hpar |-;unfold yJ;have hw3:=hb3.size;replace hR2:=hR2.below hb3;replace hS2:=Q4.below hS2 hb3;replace hF2:=hF2.below hb3;replace hZ2:=hZ2.below hb3;have hb2':=hb2.trans (hb3.mono hb2.size);have hold:W2.heap.size<=W2.heap.size:=jE _;generalize hpb:W2.heap.size=pb at hpar;go_wp2;refine hK.out _ _ hS2 (fun hHeld=>?_);clear hK K hHeld hC;replace hb2:=hb2';clear hb2';refine oneH 4 fun K hK=>?_
     go_simp;have hsl:∀ j u,([.string pd.name,.bool pd.pub,.slice za zn zc,.int .i64 pd.writes,.bool pd.gives,.int .i64 pd.given]:List Value)[j]?=some u->(w3.alloc (.cells #[.string pd.name,.bool pd.pub,.slice za zn zc,.int .i64 pd.writes,.bool pd.gives,.int .i64 pd.given] 62)).cell? ((⟨w3.heap.size,0,none⟩:Addr).add j)=some u:=xF _ #[.string pd.name,.bool pd.pub,.slice za zn zc,.int .i64 pd.writes,.bool pd.gives,.int .i64 pd.given] _ _ rfl;have hss:w3.heap.size+1=(w3.alloc (.cells #[.string pd.name,.bool pd.pub,.slice za zn zc,.int .i64 pd.writes,.bool pd.gives,.int .i64 pd.given] 62)).heap.size:=by simp
     have hs0:wr.heap.size+1<=w3.heap.size:=by omega
     have hbe:=(Below.refl w3.heap.size w3).alloc (jE _) (.cells #[.string pd.name,.bool pd.pub,.slice za zn zc,.int .i64 pd.writes,.bool pd.gives,.int .i64 pd.given] 62);replace hb2:=hb2.alloc (jp (by omega) hs0) (.cells #[.string pd.name,.bool pd.pub,.slice za zn zc,.int .i64 pd.writes,.bool pd.gives,.int .i64 pd.given] 62);replace hR2:=hR2.alloc (.cells #[.string pd.name,.bool pd.pub,.slice za zn zc,.int .i64 pd.writes,.bool pd.gives,.int .i64 pd.given] 62);replace hS2:=Q4.alloc hS2 (.cells #[.string pd.name,.bool pd.pub,.slice za zn zc,.int .i64 pd.writes,.bool pd.gives,.int .i64 pd.given] 62);replace hF2:=hF2.alloc (.cells #[.string pd.name,.bool pd.pub,.slice za zn zc,.int .i64 pd.writes,.bool pd.gives,.int .i64 pd.given] 62);replace hZ2:=hZ2.alloc (.cells #[.string pd.name,.bool pd.pub,.slice za zn zc,.int .i64 pd.writes,.bool pd.gives,.int .i64 pd.given] 62);replace hpar:xR (fun b=>pb<=b/\b<w3.heap.size) (w3.alloc (.cells #[.string pd.name,.bool pd.pub,.slice za zn zc,.int .i64 pd.writes,.bool pd.gives,.int .i64 pd.given] 62)) (.slice za zn zc) pd.params:=hpar.to (fun b hb=>⟨hb.1,by omega⟩) (fun b hb o v hc=>(hbe.cell (p:=⟨b,o,none⟩) (by show b<w3.heap.size;omega)).trans hc);clear hbe;refine hK.out _ _ hS2 (fun hHeld=>?_);clear hK K hHeld;generalize w3.alloc (.cells #[.string pd.name,.bool pd.pub,.slice za zn zc,.int .i64 pd.writes,.bool pd.gives,.int .i64 pd.given] 62)=W3 at *;generalize w3.heap.size=s0 at *
    rotate_left
    focus
     go_simp;go_at_call 66;refine (hC W2 hb2).mono ?_;rintro e w3 ⟨zu,rfl,hzu,hb3⟩;obtain ⟨za,zc,rfl,_,_⟩:=lexs.own_shape hzu;have hpar:xR (fun b=>W2.heap.size<=b/\b<w3.heap.size) w3 (.slice za pd.params.length zc) pd.params:=xR.own (by rw [HPL.out];exact hzu);rw [HPL.out] at hpar;generalize hzn:ps.length=zn at hzu hpar |-;unfold yJ;have hw3:=hb3.size;replace hR2:=hR2.below hb3;replace hS2:=Q4.below hS2 hb3;replace hF2:=hF2.below hb3;replace hZ2:=hZ2.below hb3;have hb2':=hb2.trans (hb3.mono hb2.size);have hold:W2.heap.size<=W2.heap.size:=jE _;generalize hpb:W2.heap.size=pb at hpar;go_wp2;refine hK.out _ _ hS2 (fun hHeld=>?_);clear hK K hHeld hC;replace hb2:=hb2';clear hb2';refine wpAnyH_ready (rs:=[1,4]) (by kernel_rfl) (by simp) ?_;refine AllReadyH.cons rfl (fun K hK=>?_) (AllReadyH.cons rfl (fun K hK=>?_) AllReadyH.nil)
     focus
      have m6:=hF2.cell 2 rfl;go_simp;refine hK.out _ _ hS2 (fun hHeld=>?_);clear hK K hHeld m6;refine oneH 4 fun K hK=>?_
      go_simp;have hsl:∀ j u,([.string pd.name,.bool pd.pub,.slice za zn zc,.int .i64 pd.writes,.bool pd.gives,.int .i64 pd.given]:List Value)[j]?=some u->(w3.alloc (.cells #[.string pd.name,.bool pd.pub,.slice za zn zc,.int .i64 pd.writes,.bool pd.gives,.int .i64 pd.given] 62)).cell? ((⟨w3.heap.size,0,none⟩:Addr).add j)=some u:=xF _ #[.string pd.name,.bool pd.pub,.slice za zn zc,.int .i64 pd.writes,.bool pd.gives,.int .i64 pd.given] _ _ rfl;have hss:w3.heap.size+1=(w3.alloc (.cells #[.string pd.name,.bool pd.pub,.slice za zn zc,.int .i64 pd.writes,.bool pd.gives,.int .i64 pd.given] 62)).heap.size:=by simp
      have hs0:wr.heap.size+1<=w3.heap.size:=by omega
      have hbe:=(Below.refl w3.heap.size w3).alloc (jE _) (.cells #[.string pd.name,.bool pd.pub,.slice za zn zc,.int .i64 pd.writes,.bool pd.gives,.int .i64 pd.given] 62);replace hb2:=hb2.alloc (jp (by omega) hs0) (.cells #[.string pd.name,.bool pd.pub,.slice za zn zc,.int .i64 pd.writes,.bool pd.gives,.int .i64 pd.given] 62);replace hR2:=hR2.alloc (.cells #[.string pd.name,.bool pd.pub,.slice za zn zc,.int .i64 pd.writes,.bool pd.gives,.int .i64 pd.given] 62);replace hS2:=Q4.alloc hS2 (.cells #[.string pd.name,.bool pd.pub,.slice za zn zc,.int .i64 pd.writes,.bool pd.gives,.int .i64 pd.given] 62);replace hF2:=hF2.alloc (.cells #[.string pd.name,.bool pd.pub,.slice za zn zc,.int .i64 pd.writes,.bool pd.gives,.int .i64 pd.given] 62);replace hZ2:=hZ2.alloc (.cells #[.string pd.name,.bool pd.pub,.slice za zn zc,.int .i64 pd.writes,.bool pd.gives,.int .i64 pd.given] 62);replace hpar:xR (fun b=>pb<=b/\b<w3.heap.size) (w3.alloc (.cells #[.string pd.name,.bool pd.pub,.slice za zn zc,.int .i64 pd.writes,.bool pd.gives,.int .i64 pd.given] 62)) (.slice za zn zc) pd.params:=hpar.to (fun b hb=>⟨hb.1,by omega⟩) (fun b hb o v hc=>(hbe.cell (p:=⟨b,o,none⟩) (by show b<w3.heap.size;omega)).trans hc);clear hbe;refine hK.out _ _ hS2 (fun hHeld=>?_);clear hK K hHeld;generalize w3.alloc (.cells #[.string pd.name,.bool pd.pub,.slice za zn zc,.int .i64 pd.writes,.bool pd.gives,.int .i64 pd.given] 62)=W3 at *;generalize w3.heap.size=s0 at *
     rotate_left
     focus
      go_simp;have hsl:∀ j u,([.string pd.name,.bool pd.pub,.slice za zn zc,.int .i64 pd.writes,.bool pd.gives,.int .i64 pd.given]:List Value)[j]?=some u->(w3.alloc (.cells #[.string pd.name,.bool pd.pub,.slice za zn zc,.int .i64 pd.writes,.bool pd.gives,.int .i64 pd.given] 62)).cell? ((⟨w3.heap.size,0,none⟩:Addr).add j)=some u:=xF _ #[.string pd.name,.bool pd.pub,.slice za zn zc,.int .i64 pd.writes,.bool pd.gives,.int .i64 pd.given] _ _ rfl;have hss:w3.heap.size+1=(w3.alloc (.cells #[.string pd.name,.bool pd.pub,.slice za zn zc,.int .i64 pd.writes,.bool pd.gives,.int .i64 pd.given] 62)).heap.size:=by simp
      have hs0:wr.heap.size+1<=w3.heap.size:=by omega
      have hbe:=(Below.refl w3.heap.size w3).alloc (jE _) (.cells #[.string pd.name,.bool pd.pub,.slice za zn zc,.int .i64 pd.writes,.bool pd.gives,.int .i64 pd.given] 62);replace hb2:=hb2.alloc (jp (by omega) hs0) (.cells #[.string pd.name,.bool pd.pub,.slice za zn zc,.int .i64 pd.writes,.bool pd.gives,.int .i64 pd.given] 62);replace hR2:=hR2.alloc (.cells #[.string pd.name,.bool pd.pub,.slice za zn zc,.int .i64 pd.writes,.bool pd.gives,.int .i64 pd.given] 62);replace hS2:=Q4.alloc hS2 (.cells #[.string pd.name,.bool pd.pub,.slice za zn zc,.int .i64 pd.writes,.bool pd.gives,.int .i64 pd.given] 62);replace hF2:=hF2.alloc (.cells #[.string pd.name,.bool pd.pub,.slice za zn zc,.int .i64 pd.writes,.bool pd.gives,.int .i64 pd.given] 62);replace hZ2:=hZ2.alloc (.cells #[.string pd.name,.bool pd.pub,.slice za zn zc,.int .i64 pd.writes,.bool pd.gives,.int .i64 pd.given] 62);replace hpar:xR (fun b=>pb<=b/\b<w3.heap.size) (w3.alloc (.cells #[.string pd.name,.bool pd.pub,.slice za zn zc,.int .i64 pd.writes,.bool pd.gives,.int .i64 pd.given] 62)) (.slice za zn zc) pd.params:=hpar.to (fun b hb=>⟨hb.1,by omega⟩) (fun b hb o v hc=>(hbe.cell (p:=⟨b,o,none⟩) (by show b<w3.heap.size;omega)).trans hc);clear hbe;refine hK.out _ _ hS2 (fun hHeld=>?_);clear hK K hHeld;generalize w3.alloc (.cells #[.string pd.name,.bool pd.pub,.slice za zn zc,.int .i64 pd.writes,.bool pd.gives,.int .i64 pd.given] 62)=W3 at *;generalize w3.heap.size=s0 at *;refine oneH 1 fun K hK=>?_
      have m6:=hF2.cell 2 rfl;go_simp;refine hK.out _ _ hS2 (fun hHeld=>?_);clear hK K hHeld m6
    all_goals
     refine oneH 5 fun K hK=>?_
     refine step_append_lies _ (by rfl) (.tmp 36) (.tmp 39) 39 (by rfl) (w.heap.size+1+1) 62 i0 (.agg #[.string ⟨#[]⟩,.bool false,.slice none 0 0,.int .i64 0,.bool false,.int .i64 0]) 6 72 Tryz.underlying39 hi hz0 hz1 hz2 rfl (by decide) (.slice ap P.length cp) P.length (vK P) (by simp [Act.eval,Act.put]) hR2.op ⟨s0,0,none⟩ 1 1 [.string pd.name,.bool pd.pub,.slice za zn zc,.int .i64 pd.writes,.bool pd.gives,.int .i64 pd.given] (by simp [Act.eval,Act.put]) rfl hsl (by intro u hu;simp at hu;rcases hu with rfl | rfl | rfl | rfl | rfl | rfl<;>rfl) (by omega) (by unfold maxLen;omega) (by omega) (by omega) (s0+1) hss.symm ?_;intro g5 cap5 w5 hown5 hgrow5 hat5 hlt5;have hlo:∀ b,(Value.slice ap P.length cp).ownBlock=some b->w.heap.size+1+1<=b/\b<wr.heap.size:=fun b e=>⟨(hR2.op.lt _ e).1,holdP b e⟩
     have hrN:(Value.slice ap P.length cp).ownBlock≠some wr.heap.size:=fun e=>by have:=hlo _ e;omega
     have hrF:(Value.slice ap P.length cp).ownBlock≠some (w.heap.size+1):=fun e=>by have:=hlo _ e;omega
     have hrZ:(Value.slice ap P.length cp).ownBlock≠some w.heap.size:=fun e=>by have:=hlo _ e;omega
     have hX:∀ b,W3.heap.size<=b->¬ X b:=fun b hb e=>by have:=hX0 b e;omega
     have hq:xR (fun b=>w.heap.size+1+1<=b/\b<W3.heap.size/\(Value.slice av V.length cv).ownBlock≠some b/\(Value.slice ap P.length cp).ownBlock≠some b/\¬ X b) W3 (.slice za zn zc) pd.params :=
      hpar.to (fun b hb=>⟨by omega,by omega,fun e=>by have:=holdV _ e;omega,fun e=>by have:=holdP _ e;omega,fun e=>by have:=hX0 b e;omega⟩) (fun b hb o v hc=>hc)
     have hfin:=(hR2.pushP (q:=(pd,.slice za zn zc)) hown5 hgrow5 (hat5.imp id (fun e=>e.trans hss)) hX hq).set (M:=w.heap.size+1) (o:=2) (by omega) (.slice (some ⟨g5,0,none⟩) (P.length+1) cap5);have hF5:=hF2.grown hgrow5 hrF;have m6:=hF5.cell 2 rfl;have mf:=hF5.fz 2;have hF6:=hF5.set 2 (.slice (some ⟨g5,0,none⟩) (P.length+1) cap5);have hZ6:=(hZ2.grown hgrow5 hrZ).other (b:=w.heap.size+1) (o:=2) (by omega) (.slice (some ⟨g5,0,none⟩) (P.length+1) cap5);have hb6:=(hb2.grown hgrow5 (by omega) (fun k e=>by have:=hlo k e;omega)).setCell (p:=⟨w.heap.size+1,2,none⟩) (Nat.le_succ _) (.slice (some ⟨g5,0,none⟩) (P.length+1) cap5);have hs6:=hgrow5.size;replace hS2:=Q4.grown hS2 hgrow5 hrN;clear hR2 hF2 hZ2 hb2 hF5;refine hK.out _ _ hS2 (fun hHeld=>?_);clear hK K hHeld;simp only [Act.put,jA,jB,jC];refine tkP 6 (.pointer (some ⟨w.heap.size+1,2,none⟩)) hS2 ?_;simp only [Act.put,jA,jB,jC];refine oneH 7 fun K hK=>?_
     go_simp;refine hK.out _ _ (Q4.other (by omega) hS2 _ _) (fun hHeld=>?_);clear hK K hHeld m6 mf;refine wpAnyH_done (by kernel_rfl) ?_ _;go_wp2;exact ⟨⟨j+1,.slice av V.length cv,.slice (some ⟨g5,0,none⟩) (P.length+1) cap5,V,P++[(pd,.slice za zn zc)],by omega,by simp,hfin,hF6,hZ6,hb6,by show _=_;rw [HV1.out,HV2.out],by show _=_;rw [HV1.out,HV3.out,List.map_append];rfl⟩,by simp [intOf];omega⟩
  ·obtain rfl:j=K.length:=by omega
   rw [jG (by omega)] at HV HP;have z0:=hF.cell 0 rfl;have z1:=hF.cell 1 rfl;have z2:=hF.cell 2 rfl;have y0:=hZ.cell 0 rfl;have y1:=hZ.cell 1 rfl;have y2:=hZ.cell 2 rfl;have f0:=hZ.fz 0;have f1:=hZ.fz 1;have f2:=hZ.fz 2;have hres:=((hZ.set 0 (.string m)).set 1 (.slice av V.length cv)).set 2 (.slice ap P.length cp);have hR3:=((hR.set (M:=w.heap.size) (o:=0) (by omega) (.string m)).set (M:=w.heap.size) (o:=1) (by omega) (.slice av V.length cv)).set (M:=w.heap.size) (o:=2) (by omega) (.slice ap P.length cp);have hb3:=((hb.setCell (p:=⟨w.heap.size,0,none⟩) (jE _) (.string m)).setCell (p:=⟨w.heap.size,1,none⟩) (jE _) (.slice av V.length cv)).setCell (p:=⟨w.heap.size,2,none⟩) (jE _) (.slice ap P.length cp);go_wp2;refine jT (v:=.agg #[.string m,.slice av V.length cv,.slice ap P.length cp]) (zw9 _ _ hres) rfl ?_;exact ⟨_,_,V,P,rfl,hR3,HV.out,HP.out,hb3⟩
structure Rel (own:FV) (gf:ByteArray->Option FV) (fs:List FaceD) (f:ByteArray->Option FV):Prop where
 e:∀ z,eqS z empty=true->f z=some own
 o:∀ z,eqS z empty=false->(f z).map (·.1)=fs.find? (fun q=>eqS q.module z)
 g:∀ z q,eqS z empty=false->f z=some q->gf z=some q
theorem gH {x y:ByteArray}:eqS x y=true ↔ x=y:=by
 unfold eqS;rw [beq_iff_eq];constructor
 ·intro h;cases x;cases y;rename_i a b;have:a.toList=b.toList:=by simpa [ByteArray.toList_eq] using h
  congr
  exact Array.toList_inj.1 this
 ·intro h;rw [h]
theorem Rel.start (own:FV) (gf:ByteArray->Option FV):Rel own gf [] (fun z=>if eqS z empty then some own else none) :=
 ⟨fun z h=>by rw [jv h],fun z h=>by rw [ju (by rw [h];decide)];rfl,fun z q h hq=>by rw [ju (by rw [h];decide)] at hq;cases hq⟩
theorem Rel.more {own:FV} {gf:ByteArray->Option FV} {fs:List FaceD} {f:ByteArray->Option FV} (h:Rel own gf fs f) {x:ByteArray} {q:FV} (hx:eqS x empty=false) (hq:gf x=some q) (hm:eqS q.1.module x=true):Rel own gf (fs++[q.1]) (fun z=>if eqS z x then some q else f z):=by
 refine ⟨fun z hz=>?_,fun z hz=>?_,fun z p hz hp=>?_⟩
 ·have hzx:eqS z x=false:=by
   cases he:eqS z x with
   | false=>rfl
   | true=>rw [gH.1 he,hx] at hz;cases hz
  rw [ju (by rw [hzx];decide)];exact h.e z hz
 ·rw [List.find?_append]
  cases he:eqS z x with
  | true =>
   obtain rfl:=gH.1 he;rw [jv rfl]
   cases hf:f z with
   | none =>
    have:=h.o z hz;rw [hf] at this;rw [<- this]
    simp [List.find?,hm]
   | some p =>
    have h1:=h.o z hz;rw [hf] at h1;have h2:=h.g z p hz hf;rw [hq] at h2;cases h2;rw [<- h1]
    rfl
  | false =>
   rw [ju (by decide),h.o z hz]
   have hn:eqS q.1.module z=false:=by
    cases h3:eqS q.1.module z with
    | false=>rfl
    | true =>
     have e1:=gH.1 h3;have e2:=gH.1 hm;rw [<- e1,e2] at he;have:eqS x x=true:=gH.2 rfl;rw [this] at he;cases he
   simp [List.find?,hn]
 ·cases he:eqS z x with
  | true =>
   rw [he,jv rfl] at hp;rw [gH.1 he,hq]
   exact hp
  | false =>
   rw [he,ju (by decide)] at hp;exact h.g z p hz hp
theorem zh5 {x:ByteArray}:x.size=0 ↔ eqS x empty=true:=by
 rw [gH];constructor
 ·intro h
  cases x with
  | mk d =>
   have:d=#[]:=Array.size_eq_zero_iff.1 h;rw [this];rfl
 ·intro h;rw [h];rfl
theorem Rel.face {own:FV} {gf:ByteArray->Option FV} {fs:List FaceD} {f:ByteArray->Option FV} (h:Rel own gf fs f) (x:ByteArray):(f (xJ x)).map (·.1)=zat ⟨own.1,fs⟩ x:=by
 unfold zat;by_cases hz:(xJ x).size=0;·rw [jv hz,h.e _ (zh5.1 hz)];rfl
 ·rw [ju hz];refine h.o _ ?_
  cases he:eqS (xJ x) empty with
  | false=>rfl
  | true=>exact absurd (zh5.2 he) hz
theorem zul (L:List Loc) (x:ByteArray):cA (kN L) x=(L.reverse.find? (fun l=>eqS l.name x)).map fun l=>⟨l.name,false,l.label,0⟩:=by
 unfold cA kN;rw [<- List.map_reverse,List.find?_map];rfl
theorem Rel.tab {own:FV} {gf:ByteArray->Option FV} {fs:List FaceD} {f:ByteArray->Option FV} (h:Rel own gf fs f) (hok:cC ⟨own.1,fs⟩) (L:List Loc) (hL:xD L):Tab ⟨own.1,fs⟩ L f (kN L):=by
 refine ⟨hok,hL,fun x hx=>?_,fun x hx=>?_⟩
 ·unfold vJ cD;rw [zul,<- h.face x]
  cases L.reverse.find? (fun l=>eqS l.name x) with
  | some l=>rfl
  | none =>
   dsimp only [Option.map_none]
   cases f (xJ x) with
   | none=>rfl
   | some q=>rfl
 ·unfold uP procF;rw [<- h.face x]
  cases f (xJ x) with
  | none=>rfl
  | some q=>rfl
theorem zyj {E:Env} {q:ProcD} {ps:List (ByteArray × Bool)} {k:Int} {x:ByteArray} {m:Int} {ks:List Tree} {ends:Bool} {a d:Int} (hst:∀ t∈ks,StT t) (h:prF E q ps (.node k x m ks) ends a=.ok d):d=a+1+ps.length+1+kA ks:=by
 rw [zdx] at h;split at h;·cases h
 ·rename_i s hs;have:=(zf4 E _ ks _ _ _ _ _ hst hs).2.1;split at h;·cases h
  ·cases h;exact this
def vH (w:World) (D:Nat):World:={ w with heap:=w.heap.setIfInBounds D (.cells #[] 0 (0,0)) }
theorem zix (w:World) (D:Nat):(vH w D).heap.size=w.heap.size:=by simp [vH]
theorem zeb (w:World) (D b:Nat) (h:b≠D):(vH w D).heap[b]?=w.heap[b]?:=by
 unfold vH;exact Array.getElem?_setIfInBounds_ne (fun e=>h e.symm)
theorem zhz (w:World) (D:Nat):w.grownBy (vH w D) (some D) :=
 ⟨rfl,rfl,rfl,Nat.le_of_eq (zix w D).symm,fun b _ hne=>zeb w D b (fun e=>hne (by rw [e]))⟩
theorem zej {w:World} {D:Nat} {a:Addr} {v:Value} (h:(vH w D).cell? a=some v):a.block≠D/\w.cell? a=some v:=by
 have hne:a.block≠D:=by
  intro e;have hlt:=jR _ a h
  have hb:(vH w D).heap[a.block]?=some (.cells #[] 0 (0,0)):=by
   rw [zix] at hlt;unfold vH;rw [e];rw [e] at hlt;simp [hlt]
  simp [World.cell?,hb] at h
 exact ⟨hne,by rw [<- jM (a:=a) (zeb w D a.block hne)];exact h⟩
theorem ziy {w:World} {D:Nat} {a:Addr} {v:Value} (hne:a.block≠D) (h:w.cell? a=some v):(vH w D).cell? a=some v:=by
 rw [jM (a:=a) (zeb w D a.block hne)];exact h
end chk
namespace chk
open Go.RowKit Go.Shelf Go.Maps
open syn face
section
variable {w0 w w':World} {D Kb kn:Nat} {kf:KF} {vs:List VarD} {u:Value} {a:Int}
theorem CS.import (h:CS w0 w D Kb kn kf vs u a) {q:FV} {x:ByteArray} (hM:qM w' Kb (kn+1) (fun z=>if eqS z x then some (fvV q) else fvO (kf.f z))) (hg:w.grownBy w' (some Kb)) (hq:yZ kf.W (fvV q) q.1) (hWK:∀ a v,kf.W.cell? a=some v->a.block≠Kb) (hK:w0.heap.size<=Kb) : CS w0 w' D Kb (kn+1) { kf with f:=fun z=>if eqS z x then some q else kf.f z } vs u a:=by
 have hbl:=hg.block D h.lt (fun e=>h.nk (by injection e with e;exact e.symm));refine ⟨h.bs.grown hg h.bs.size (fun k e=>by injection e with e;rw [<- e];exact hK),h.hD,(jM (a:=⟨D,4,none⟩) hbl).trans h.c4,(jM (a:=⟨D,5,none⟩) hbl).trans h.c5,(jM (a:=⟨D,6,none⟩) hbl).trans h.c6,(jM (a:=⟨D,7,none⟩) hbl).trans h.c7,fun k=>(jN (a:=⟨D,k,none⟩) hbl).trans (h.fz k),?_,?_,fun p v hc=>⟨(h.fw p v hc).1,(h.fw p v hc).2.1,(jM (a:=p) (hg.block p.block (jo (h.fw p v hc).2.1 h.fm) (fun e=>hWK p v hc (by injection e)))).trans (h.fw p v hc).2.2⟩,jp h.fm hg.size,h.mM,h.fu,h.rl.kept hg ?_,h.nk,h.mx,h.nu⟩
 ·have e:(fun z=>fvO (if eqS z x then some q else kf.f z))=(fun z=>if eqS z x then some (fvV q) else fvO (kf.f z)):=by
   funext z
   split<;>rfl
  show qM w' Kb (kn+1) (fun z=>fvO (if eqS z x then some q else kf.f z));rw [e];exact hM
 ·intro z p hp;dsimp only at hp;split at hp;·cases hp;exact hq
  ·exact h.fi z p hp
 ·cases e:u.ownBlock with
  | none=>exact .inl rfl
  | some b=>exact .inr (fun e2=>h.nu (e.trans e2))
end
structure M0 (w0 w:World) (D Gb Kb gn:Nat) (gf:ByteArray->Option FV) (m:ByteArray) (k:Option Addr) (n c:Nat) (a:Int):Prop where
 bs:Below w0.heap.size w0 w
 hD:w0.heap.size<=D
 c1:w.cell? ⟨D,1,none⟩=some (.string m)
 c3:w.cell? ⟨D,3,none⟩=some (.slice k n c)
 c4:w.cell? ⟨D,4,none⟩=some (.map (some Gb))
 c5:w.cell? ⟨D,5,none⟩=some (.map (some Kb))
 c6:w.cell? ⟨D,6,none⟩=some (.slice none 0 0)
 c7:w.cell? ⟨D,7,none⟩=some (.int .i64 a)
 fz:∀ k,w.frozen? ⟨D,k,none⟩=false
 mp:qM w Kb 0 (fun _=>none)
 nk:Kb≠D
 hK:w0.heap.size<=Kb
 mx:vO w0
 mg:qM w0 Gb gn (fun z=>fvO (gf z))
section
variable {w0 w w':World} {D Gb Kb gn:Nat} {gf:ByteArray->Option FV} {m:ByteArray} {k:Option Addr} {n c:Nat} {a:Int}
theorem M0.lt (h:M0 w0 w D Gb Kb gn gf m k n c a):D<w.heap.size:=jR w ⟨D,5,none⟩ h.c5
theorem M0.setAt (h:M0 w0 w D Gb Kb gn gf m k n c a) (b:Int):M0 w0 (w.setCell ⟨D,7,none⟩ (.int .i64 b)) D Gb Kb gn gf m k n c b :=
 have o:∀ i,i≠7->(w.setCell ⟨D,7,none⟩ (.int .i64 b)).cell? ⟨D,i,none⟩=w.cell? ⟨D,i,none⟩:=fun i hi=>jD w ⟨D,7,none⟩ ⟨D,i,none⟩ _ (by intro e;injection e with _ e;exact hi e.symm)
 ⟨h.bs.setCell h.hD _,h.hD,(o 1 (by decide)).trans h.c1,(o 3 (by decide)).trans h.c3,(o 4 (by decide)).trans h.c4,(o 5 (by decide)).trans h.c5,(o 6 (by decide)).trans h.c6,World.cell?_setCell_same' _ _ _ (by rw [h.c7];rfl),fun k=>by rw [World.frozen?_setCell];exact h.fz k,h.mp.setCell h.nk _,h.nk,h.hK,h.mx,h.mg⟩
theorem M0.below (h:M0 w0 w D Gb Kb gn gf m k n c a) (hb:Below w.heap.size w w'):M0 w0 w' D Gb Kb gn gf m k n c a :=
 have o:∀ i,w'.cell? ⟨D,i,none⟩=w.cell? ⟨D,i,none⟩:=fun i=>hb.cell (p:=⟨D,i,none⟩) h.lt
 ⟨h.bs.trans (hb.mono h.bs.size),h.hD,(o 1).trans h.c1,(o 3).trans h.c3,(o 4).trans h.c4,(o 5).trans h.c5,(o 6).trans h.c6,(o 7).trans h.c7,fun k=>(jN (a:=⟨D,k,none⟩) (hb.block D h.lt)).trans (h.fz k),h.mp.below hb,h.nk,h.hK,h.mx,h.mg⟩
theorem M0.own (h:M0 w0 w D Gb Kb gn gf m k n c a) {q:FV} (hM:qM w' Kb 1 (fun z=>if eqS z empty then some (fvV q) else none)) (hg:w.grownBy w' (some Kb)) {B:Nat} {V:List VarD} {P:List (ProcD × Value)} (hFR:FR (fun b=>b=D\/b=Kb) B w q.2.1 q.2.2 V P) (hV:q.1.vars=V) (hP:q.1.procs=P.map (·.1)) (hl:V.length<=1000) (hl2:P.length<=1000) : CS w0 w' D Kb 1 ⟨fun z=>if eqS z empty then some q else none,vH (vH w' D) Kb,w'.heap.size,.map (some Gb)⟩ [] (.slice none 0 0) a:=by
 have hbl:=hg.block D h.lt (fun e=>h.nk (by injection e with e;exact e.symm));have hbs:=h.bs.grown hg h.bs.size (fun k e=>by injection e with e;rw [<- e];exact h.hK);have hF2:FR (fun b=>b=D\/b=Kb) B (vH (vH w' D) Kb) q.2.1 q.2.2 V P:=((hFR.grown hg (fun b e=>.inr (by injection e with e;exact e.symm))).grown (zhz w' D) (fun b e=>.inl (by injection e with e;exact e.symm))).grown (zhz _ Kb) (fun b e=>.inr (by injection e with e;exact e.symm));refine ⟨hbs,h.hD,(jM (a:=⟨D,4,none⟩) hbl).trans h.c4,(jM (a:=⟨D,5,none⟩) hbl).trans h.c5,(jM (a:=⟨D,6,none⟩) hbl).trans h.c6,(jM (a:=⟨D,7,none⟩) hbl).trans h.c7,fun k=>(jN (a:=⟨D,k,none⟩) hbl).trans (h.fz k),?_,?_,fun p v hc=>?_,jE _,hbs.size,fun b e=>(by cases e),World.ownsRow_nil _ _ _ _,h.nk,h.mx,fun e=>(by cases e)⟩
 ·have e:(fun z=>fvO (if eqS z empty then some q else none))=(fun z=>if eqS z empty then some (fvV q) else none):=by
   funext z
   split<;>rfl
  show qM w' Kb 1 (fun z=>fvO (if eqS z empty then some q else none));rw [e];exact hM
 ·intro z p hp;dsimp only at hp;split at hp;·cases hp;exact ⟨_,_,rfl,by rw [hV];exact zv6 hF2.ov (by omega),by rw [hP];exact zuf hF2.op (by omega) (fun x hx=>(hF2.par x hx).ints)⟩
  ·cases hp
 ·obtain ⟨h1,h2⟩:=zej hc;obtain ⟨h3,h4⟩:=zej h2;exact ⟨h3,jR _ p h4,h4⟩
end
def MR (w0:World) (r:Option (Int × Int)) (e:Ending) (w':World):Prop:=Below w0.heap.size w0 w'/\match r with
 | some q=>e=.panicked (qS q.1 q.2)
 | none=>e=.returned (.tuple #[])
theorem MR.mkBad {w0 w':World} {r:Option (Int × Int)} {c b:Int} (h:r=some (c,b)) (hb:Below w0.heap.size w0 w'):MR w0 r (.panicked (qS c b)) w':=by rw [h];exact ⟨hb,rfl⟩
theorem MR.mkOk {w0 w':World} {r:Option (Int × Int)} (h:r=none) (hb:Below w0.heap.size w0 w'):MR w0 r (.returned (.tuple #[])) w':=by rw [h];exact ⟨hb,rfl⟩
def zgz:Kid->Prop
 | .imp x=>kK x=true
 | .var _ _ _ n=>0<=n.getD 0
 | .proc _ _ _ _ ps b=>ps.length<=20/\InT b/\BlT b
end chk
end Go.Proofs.YtaadmdlbkhcfnaaGreatDoor
