/- The rest of the reference's stat: if, while. (Written by mkstatref.py: edit that.) -/
import Derived.Test.YtjkcecppnmlhjaaGreatDoorNQr
import Derived.Test.YtjkcecppnmlhjaaGreatDoorNQ18
open Go.Proofs.Tryz
open Go.Value renaming int → U, string → I, slice → J, bool → Y, agg → Za, pointer → Zp
open Go.IntKind renaming i64 → O
open Go.Obj renaming cells → Zc
open Go.Addr renaming mk → A
open Option renaming none → F, some → Z
open Bool renaming false → X, true → H
open Go renaming World → Zw, Value → Zv
set_option maxHeartbeats 4000000
set_option linter.unusedVariables false
set_option linter.unusedSimpArgs false
set_option maxRecDepth 100000
namespace Go.Proofs.YtjkcecppnmlhjaaGreatDoor
theorem oz19x182 {p:Prop} (aG:p:=by
 clear s a5 a3 ah;have P:=Q4.grown N B oE;have aa:=V.trans B;clear N V B z ba br bu bv bq aP k1 aQ aR;go_wp2;go_roundw
 case rel=>exact⟨0+1,ix,_,i,a8,b1,ad,oA,oJ,rfl,rfl,aa,P,G,am⟩
 case measure=>simp[intOf];omega):p:=aG
theorem oz19x179 {p:Prop} (b:p:=by
 intro ix vx h j i q d W a5 a2 a3
 exact S.out _ _ _ _ _ _ _ _ _ _ _ _ _ _ _ _ _ _ _ _ _ _ _ _ _ _ _ _ _ _ _ _ _ _ _ _ _ _ _ _ _ _ _ _ _ _ _ _ _ _ _ _ _ _ _ _ _ _ _ _ _ _ _ _ _ _ _ _ _ _ _ _ _ _ _ _ _ _ _ _ _ _ _ _ _ _ _ _ _ _ _ _ _ _ _ _ _ _ _ _ _ _ _ _ _ _ _ _ _ _ _ _ _ _ _ _ _ _ _ _ _ _ _ _ _ _ _ _ _ _ _ _ _ _ _ _ _ _ _ _ _ _ _ _ _ _ _ _ _ _ _ _ _ _ _ _ _ _ _ _ _ _ _ _ _ _ _ _ _ _ _ _ _ _ _ _ _ _ _ _ _ _ _ _ _ _ _ _ _ _ _ _ _ _ _ _ _ _ _ _ _ _ _ _ _ _ _ _ _ _ _ _ _ _ _ _ _ _ _ _ _ _ _ _ _ _ _ _ _ _ _ _ _ _ _ _ _ _ _ _ _ _ _ _ _ _ _ _ _ _ _ _ _ _ _ _ _ _ _ _ _ _ _ _ _ _ _ _ _ _ _ _ _ _ _ _ _ _ _ _ _ _ _ _ _ _ _ _ _ _ _ _ _ _ _ _ _ _ _ _ _ _ _ _ _ _ _ _ _ _ _ _ _ _ _ _ _ _ _ _ _ _ _ _ _ ix vx h j i q d (M.trans W) a5 a2 a3):p:=b
theorem oz19y191 {p:Prop} (n:p:=by
 obtain⟨b8,e1,b9,ba⟩:=aY.out;have f0:=(e.2.cell (p:=(A g (o+j*4) F)) Q.out).trans b8;have f1:=(e.2.cell (p:=(A g (o+j*4+1) F)) Q.out).trans e1;have cm:=(e.2.cell (p:=(A g (o+j*4+2) F)) Q.out).trans b9;have cn:=(e.2.cell (p:=(A g (o+j*4+3) F)) Q.out).trans ba;go_simp):p:=n
theorem oz19y190 {p:Prop} (n:p:=by
 obtain⟨⟨b8,e1,b9,ba⟩,_⟩:=e;go_simp):p:=n
theorem oz19x180 {p:Prop} (n:p:=by
 simp only[jA,jB,jC];refine oneH 18 fun bR be=>?_
 go_simp;go_at_call 92;refine aH.mono ?_;rintro q cj ⟨rfl,aW,s,ao⟩;go_wp2;have M:=b2.out;have z:=aZ.out
 have b0:Hid (aW.ownBlock≠Z w.heap.size):=fun q=>by
  rcases s.own _ q with e1 | e1
  ·exact z e1
  ·omega
 have aL:=s.q4 ap bN.out z
 have bg:Below w0.heap.size w0 cj:=by
  cases V with
  | bad b7 b6=>obtain⟨af,ag,bm,y⟩:=ao;exact y.bs
  | ok b=>exact ao.bs
 refine be.out _ _ ⟨aL,bg⟩ (fun c7=>?_);clear be bR c7 aH bg;refine wpAnyH_done oD ?_ _;go_wp2;go_roundw
 case rel =>
  cases V with
  | bad b7 b6 =>
   obtain⟨af,ag,bm,y⟩:=ao
   exact⟨j+1,af,aW,ag,b7,b6,H,oA,oJ,jp aE.out bm,y,aJ.trans s,b0.out,aL,HP.out⟩
  | ok b =>
   obtain⟨bS,bX,bY,bZ⟩:=aX.out b rfl;obtain⟨af,ag⟩:=b;exact⟨j+1,af,aW,ag,_,_,X,oA,oJ,jp aE.out bS,ao,aJ.trans s,b0.out,aL,rfl,rfl,bX,bY,bZ,HP.out⟩
 case measure=>simp[intOf];omega):p:=n
theorem oz19x185 {p:Prop} (n:p:=by
 have y:=l.cut G;have s:=C.set 4 (J u L.length N) (u2:=J u L.length N) (fun a2 q=>by cases u<;>exact q);go_wp2
 go_end0
 exact RSR.mk s y ⟨oQ,aB.out⟩):p:=n
theorem oz19x186 {p:Prop} (n:p:=by
 obtain⟨bc,co,c6⟩:=zdx E p _ _ _ _ _ _ _ (aV _ (jH r)) K
 exact⟨bc.len,oA,c6 a9,bc.lab aa⟩):p:=n
theorem oz19y192 {p:Prop} (G:p:=by
 show e≠w.heap.size;omega):p:=G
theorem oz19x178 {p:Prop} (G:p:=by
 refine tkP 0 (Za #[U O 0,I ⟨#[]⟩,U O 0,J F 0 0]) a8 ?_;simp only[Act.put,jA,jB,jC];refine tkP 1 (Za #[U O d,U O f]) a8 ?_;simp only[Act.put,jA,jB,jC];obtain⟨b6,b7,b8,b9,aY,aZ,h,B⟩:=Q.cells;have ba:=h 0;have bb:=h 1;have bc:=h 2;have be:=h 3;have b0:=B 0;have b2:=B 1;refine oneH 2 fun cf aB=>?_
 go_simp;have cw:kF ((((ad.setCell (A w.heap.size 0 F) (U O 0)).setCell (A w.heap.size 1 F) (I ⟨#[]⟩)).setCell (A w.heap.size 2 F) (U O 0)).setCell (A w.heap.size 3 F) (J F 0 0)) w.heap.size ((((#[U O 0,I ⟨#[]⟩,U O 0,J F 0 0]).setIfInBounds 0 (U O 0)).setIfInBounds 1 (I ⟨#[]⟩)).setIfInBounds 2 (U O 0) |>.setIfInBounds 3 (J F 0 0)) 25:=(((Q.n.set 0 _).set 1 _).set 2 _).set 3 _;have aD:kF ((((ad.setCell (A w.heap.size 0 F) (U O 0)).setCell (A w.heap.size 1 F) (I ⟨#[]⟩)).setCell (A w.heap.size 2 F) (U O 0)).setCell (A w.heap.size 3 F) (J F 0 0)) (w.heap.size+1) #[U O 0,U O 0] 28:=(((Q.f.other oA _).other oA _).other oA _).other oA _
 have aO:(fun W=>W.cell? (A e 0 F)=Z (U O d)/\W.cell? (A e 1 F)=Z (U O f)) ((((ad.setCell (A w.heap.size 0 F) (U O 0)).setCell (A w.heap.size 1 F) (I ⟨#[]⟩)).setCell (A w.heap.size 2 F) (U O 0)).setCell (A w.heap.size 3 F) (J F 0 0)):=by
  have o:∀K,((((ad.setCell (A w.heap.size 0 F) (U O 0)).setCell (A w.heap.size 1 F) (I ⟨#[]⟩)).setCell (A w.heap.size 2 F) (U O 0)).setCell (A w.heap.size 3 F) (J F 0 0)).cell? (A e K F)=ad.cell? (A e K F):=fun K=>jM (a:=(A e K F)) ((((jP _ _ _ e oz19y192).trans (jP _ _ _ e oz19y192)).trans (jP _ _ _ e oz19y192)).trans (jP _ _ _ e oz19y192))
  exact⟨(o 0).trans a8.1,(o 1).trans a8.2⟩
 have da:=aD.cell 0 rfl;have db:=aD.cell 1 rfl;have dc:=aD.fz 0;have dd:=aD.fz 1;obtain⟨C,D,bh⟩:=Q.done (U O 0) (I ⟨#[]⟩) (U O 0) (J F 0 0) (U O d) (U O f);refine aB.out _ _ aO (fun ag=>?_);clear aB ag b6 b7 b8 b9 aY aZ h B ba bb bc be b0 b2 cw aD;generalize ((((ad.setCell (A w.heap.size 0 F) (U O 0)).setCell (A w.heap.size 1 F) (I ⟨#[]⟩)).setCell (A w.heap.size 2 F) (U O 0)).setCell (A w.heap.size 3 F) (J F 0 0))=bg at *;refine oneH 3 fun cf aB=>?_
 go_simp
 have bY:(fun W=>W.cell? (A e 0 F)=Z (U O d)/\W.cell? (A e 1 F)=Z (U O f)) ((bg.setCell (A (w.heap.size+1) 0 F) (U O d)).setCell (A (w.heap.size+1) 1 F) (U O f)):=by
  have o:∀K,((bg.setCell (A (w.heap.size+1) 0 F) (U O d)).setCell (A (w.heap.size+1) 1 F) (U O f)).cell? (A e K F)=bg.cell? (A e K F):=fun K=>jM (a:=(A e K F)) ((jP _ _ _ e (by show e≠w.heap.size+1;omega)).trans (jP _ _ _ e (by show e≠w.heap.size+1;omega)))
  exact⟨(o 0).trans aO.1,(o 1).trans aO.2⟩
 refine aB.out _ _ bY (fun ag=>?_);clear aB ag da db dc dd bY aO a8;refine wpAnyH_done oD ?_ _;go_wp2;refine jT (v:=.tuple #[Za #[U O 0,I ⟨#[]⟩,U O 0,J F 0 0],Za #[U O d,U O f]]) (ze1 _ _ _ C D) rfl ?_
 exact vX.mkBad L.out a3 rfl bh):p:=G
theorem oz19x181 {p:Prop} (G:p:=by
 generalize y.heap.size+1=e at *;have a8:(fun W=>W.cell? (A e 0 F)=Z (U O d)/\W.cell? (A e 1 F)=Z (U O f)) aA.drew:=⟨V.cell 0 rfl,V.cell 1 rfl⟩
 refine wp_region_held_drew (S:=fun W=>W.cell? (A e 0 F)=Z (U O d)/\W.cell? (A e 1 F)=Z (U O f)) oD a8 (fun ag=>?_);clear ag;have Q:=z.drew;clear z;generalize aA.drew=ad at *
 exact oz19x178):p:=G
theorem oz19x184 {p:Prop} (G:p:=by
 refine jT (v:=.tuple #[Za #[U O 0,I ⟨#[]⟩,U O 0,J F 0 0],Za #[U O 2,U O 0]]) (ze1 _ _ _ e1 bw) rfl ?_
 exact vX.mkBad L.out oC rfl bz):p:=G
theorem oz19x187 {p:Prop} (G:p:=by
 show _=_;rw[<- M.out];unfold ckF
 rw[ju (by rw[bq];decide),ju (by simp[ak]),ab]):p:=G
theorem oz19y189 {p:Prop} (r:p:=by
 have br:=i.2.cell 0 rfl;have e1:=i.2.cell 1 rfl;go_simp):p:=r
theorem oz19y188 {p:Prop} (r:p:=by
 have br:=i.1.cell 0 rfl;have e1:=i.1.cell 1 rfl;have c6:=i.1.cell 2 rfl;have c7:=i.1.cell 3 rfl;go_simp):p:=r
theorem oz19x183 {p:Prop} (r:p:=by
 clear bn;refine oneH 3 fun q j=>?_
 go_simp;refine j.out _ _ ⟨(m.other ba.out _).other ba.out _,(o.other bc.out _).other bc.out _⟩ (fun t=>?_);clear j q t;refine wpAnyH_done oD ?_ _;go_wp2
 exact bg.out _ _ _ _ _ _ _ _ bf):p:=r
namespace chk
open Go.RowKit Go.Shelf Go.Maps
open syn face
def xW (l:List FV) (a:ByteArray):Option FV:=l.find? fun q=>eqS q.1.module a
theorem zvp (a:List FV) (b:ByteArray):(xW a b).map (·.1)=(a.map (·.1)).find? (fun c=>eqS c.module b):=by
 unfold xW;rw[List.find?_map];rfl
theorem ztp (c:List FV) (a:FV) (f:(c.map (·.1)).any (fun p=>eqS p.module a.1.module)=X):(fun b=>if eqS b a.1.module then Z (fvV a)else fvO (xW c b))=fun b=>fvO (xW (c++[a]) b):=by
 funext b
 unfold xW;rw[List.find?_append]
 cases d:eqS b a.1.module with
 | true =>
  obtain rfl:=xN.1 d
  have e:c.find? (fun p=>eqS p.1.module a.1.module)=F:=by
   rw[List.find?_eq_none];intro p h;rw[List.any_eq_false]at f;exact f p.1 (List.mem_map.2 ⟨p,h,rfl⟩)
  rw[e,jv rfl]
  simp[List.find?,xN.2 rfl,fvO]
 | false =>
  have e:eqS a.1.module b=X:=by
   cases g:eqS a.1.module b with
   | false=>rfl
   | true=>rw[xN.1 g,xN.2 rfl]at d;cases d
  rw[ju oC]
  congr 1
  simp[List.find?,e]
theorem zto (a:List FV) (b:ByteArray):(xW a b).isSome=(a.map (·.1)).any (fun p=>eqS p.module b):=by
 unfold xW;rw[List.any_map,List.isSome_find?];rfl
def gA (w:Zw) (v:Zv) (b:List FV):Prop:=∃a c,v=J a b.length c/\b.length<=2199023255552/\(b≠[]->∃g o,a=Z (A g o F)/\∀i (d:i<b.length),w.cell? (A g (o+i*3) F)=Z (I b[i].1.module)/\w.cell? (A g (o+i*3+1) F)=Z b[i].2.1/\w.cell? (A g (o+i*3+2) F)=Z b[i].2.2/\qX w (fvV b[i]) b[i].1/\b[i].1.module.size<=maxLen)
theorem zm5 {c:FaceD} (a:vB c=H):vT c:=by
 unfold vB at a;simp only[jj]at a;obtain⟨_,_,i,h,_⟩:=a;refine⟨fun v b=>?_,fun p b=>?_⟩;·have:=List.all_eq_true.1 i v b;unfold uR qM at this;simp only[jj,Bool.or_eq_true,beq_iff_eq,jl]at this;exact⟨this.2.2.1,this.2.2.2.1⟩
 ·have:=List.all_eq_true.1 h p b;unfold vO qM at this;simp only[jj,Bool.or_eq_true,beq_iff_eq,jl,List.all_eq_true]at this;obtain⟨_,_,_,d,e,f,_⟩:=this;exact⟨fun j g=>d j g,e,f⟩
theorem ze0:∀(fs c:List FaceD),qO c fs=X->∀f∈fs,vB f=H
 | [],_,_,f,b=>by cases b
 | a :: r,c,h,f,b=>by
  unfold qO at h;simp only[Bool.or_eq_false_iff,Bool.not_eq_false']at h;rcases List.mem_cons.1 b with rfl | b
  ·exact h.1.2
  ·exact ze0 r _ h.2 f b
theorem zem (fs:List FaceD) (j:Nat) (a:j<fs.length):qO (fs.take j) (fs.drop j)=(((fs.take j).any (fun b=>eqS b.module fs[j].module)||!vB fs[j])||qO (fs.take (j+1)) (fs.drop (j+1))):=by
 rw[List.drop_eq_getElem_cons a,List.take_succ_eq_append_getElem a];rfl
theorem rangeF_ok {n:Option Int} {a:Int} (b:vW n a=F):0<=n.getD 0:=by
 cases n with
 | none=>simp
 | some k =>
  simp only[vW]at b;split at b;·cases b
  ·simp only[Option.getD_some];omega
theorem zar (m:ByteArray):∀(e:List Kid) (is d:List ByteArray) (a:Int),zC m e is d a=F->∀k∈e,match k with
  | .imp _=>True
  | .var _ _ _ n=>0<=n.getD 0
  | .proc _ _ _ _ ps _=>ps.length<=5
 | [],_,_,_,_,k,c=>by cases c
 | .imp x :: r,is,d,a,h,k,c=>by
  unfold zC at h;split at h;·cases h
  ·split at h;·cases h
   ·rcases List.mem_cons.1 c with rfl | c
    ·trivial
    ·exact zar m r _ _ _ h k c
 | .var x p l n :: r,is,d,a,h,k,c=>by
  unfold zC at h;split at h;·cases h
  ·split at h;·cases h
   ·split at h;·cases h
    ·rename_i f;rcases List.mem_cons.1 c with rfl | c
     ·exact rangeF_ok f
     ·exact zar m r _ _ _ h k c
 | .proc x p l g ps b :: r,is,d,a,h,k,c=>by
  unfold zC at h;split at h;·cases h
  ·split at h;·cases h
   ·split at h;·cases h
    ·rename_i i;split at h;·cases h
     ·rcases List.mem_cons.1 c with rfl | c
      ·show ps.length<=5;omega
      ·exact zar m r _ _ _ h k c
theorem zi5:∀(ps:List (ByteArray × Bool)) (c:List ByteArray) (a:Int) (b:Int × Int),xK c ps a=Z b->b.1=5
 | [],_,_,_,h=>by cases h
 | x :: r,c,a,b,h=>by
  unfold xK at h;split at h;·cases h;rfl
  ·exact zi5 r _ _ b h
theorem zaq (m:ByteArray):∀(f:List Kid) (is e:List ByteArray) (a:Int) (c:Int × Int),zC m f is e a=Z c->c.1=5\/c.1=1\/c.1=6
 | [],_,_,_,_,h=>by cases h
 | .imp x :: r,is,e,a,c,h=>by
  unfold zC at h;split at h;·cases h;exact .inl rfl
  ·split at h;·cases h;exact .inr (.inl rfl)
   ·exact zaq m r _ _ _ c h
 | .var x p l n :: r,is,e,a,c,h=>by
  unfold zC at h;split at h;·cases h;exact .inl rfl
  ·split at h;·cases h;exact .inr (.inl rfl)
   ·split at h
    ·rename_i i d;cases h
     cases n with
     | none=>cases d
     | some k =>
      simp only[vW]at d;split at d;·cases d;exact .inr (.inr rfl)
      ·cases d
    ·exact zaq m r _ _ _ c h
 | .proc x p l g ps b :: r,is,e,a,c,h=>by
  unfold zC at h;split at h;·cases h;exact .inl rfl
  ·split at h;·cases h;exact .inr (.inl rfl)
   ·split at h;·cases h;exact .inr (.inl rfl)
    ·split at h;·rename_i i d;cases h;exact .inl (zi5 _ _ _ _ d)
     ·exact zaq m r _ _ _ c h
theorem zck (all:Bool):∀(j:List Kid) (v:VarD),v∈kI all j->∃x p e n,Kid.var x p e n∈j/\v=zY x p e n
 | [],v,b=>by cases b
 | .imp x :: r,v,b=>by
  obtain⟨a,d,c,f,h,i⟩:=zck all r v b
  exact⟨a,d,c,f,jF _ h,i⟩
 | .proc x p e g ps d :: r,v,b=>by
  obtain⟨a,d,c,f,h,i⟩:=zck all r v b
  exact⟨a,d,c,f,jF _ h,i⟩
 | .var x p e n :: r,v,b=>by
  have:v=zY x p e n\/v∈kI all r:=by
   unfold kI at b;split at b;·exact List.mem_cons.1 b
   ·exact .inr b
  rcases this with rfl | b
  ·exact⟨x,p,e,n,jJ ..,rfl⟩
  ·obtain⟨a,d,c,f,h,i⟩:=zck all r v b;exact⟨a,d,c,f,jF _ h,i⟩
theorem zb9 (all:Bool):∀(e:List Kid) (d:ProcD),d∈kL all e->∃x p c g ps,d=kO x p c g ps
 | [],v,a=>by cases a
 | .imp x :: r,v,a=>zb9 all r v a
 | .var x p c n :: r,v,a=>zb9 all r v a
 | .proc x p c g ps b :: r,v,a=>by
  have:v=kO x p c g ps\/v∈kL all r:=by
   unfold kL at a;split at a;·exact List.mem_cons.1 a
   ·exact .inr a
  rcases this with rfl | a
  ·exact⟨x,p,c,g,ps,rfl⟩
  ·exact zb9 all r v a
theorem zpt {m:ByteArray} {a:List Kid} (c:zC m a [] [] 1=F):vT (qS H m a):=by
 refine⟨fun v f=>?_,fun h e=>?_⟩;·obtain⟨x,p,b,n,d,rfl⟩:=zck H a v f;have:=zar m a _ _ _ c _ d;exact⟨fH _,this⟩
 ·obtain⟨x,p,b,g,ps,rfl⟩:=zb9 H a h e;exact zi8 x p b g ps
theorem zm4 {m:ByteArray} {a:List Kid} (e:zC m a [] [] 1=F) (i:∀k∈a,k.good/\k.named/\vK k):∀k∈a,k.good/\cI k:=by
 intro k d;obtain⟨b,f,h⟩:=i k d;have c:=zar m a _ _ _ e k d;refine⟨b,?_⟩
 cases k with
 | imp x=>exact f
 | var x p j n=>exact c
 | proc x p j g ps l=>exact⟨by have o:ps.length<=5:=c;omega,b.2.2,h⟩
end chk
namespace chk
open Go.RowKit Go.Shelf Go.Maps
open syn face
open lexs (qV)
def zdn (w:Zw):Prop:=dA w/\uH w
theorem zb1 {w w':Zw} (a:zdn w) (b:Below w.heap.size w w'):zdn w':=⟨zd3 a.1 b,zan a.2 b⟩
def zbh:Zv:=Za #[U O 0,I ⟨#[]⟩,U O 0,J F 0 0]
def vX (w:Zw) (x:ByteArray) (r:Int × Int) (e:Ending) (w':Zw):Prop :=
 ∃v,e=.returned (.tuple #[v,Za #[U O r.1,U O r.2]])/\(r.1=0->Lies (fun b=>w.heap.size<=b/\b<w'.heap.size) w' (parse x).tree v)/\(r.1≠0->v=zbh)/\Below w.heap.size w w'
theorem ze1 {W:Zw} {n0 n1 n2 n3 f0 f1 a0 c d e:Zv} (f:List Zv) (B C:Nat) (a:kF W B #[n0,n1,n2,n3] 25) (b:kF W C #[f0,f1] 28):(results f4 (List.toArray (a0 :: c :: d :: e :: Zp (Z (A B 0 F)) :: Zp (Z (A C 0 F)) :: f))).run prog W=.ok (.tuple #[Za #[n0,n1,n2,n3],Za #[f0,f1]]) W:=by
 have m:=kc25;have n:=kc28;have i:=a.cell 0 rfl;have j:=a.cell 1 rfl;have k:=a.cell 2 rfl;have l:=a.cell 3 rfl;have g:=b.cell 0 rfl;have h:=b.cell 1 rfl;simp[results,f4,go_sem,i,j,k,l,g,h]
section
variable {w W:Zw} {N:Nat}
structure RB (w W:Zw) (N:Nat):Prop where
 n:kF W N #[U O 0,I ⟨#[]⟩,U O 0,J F 0 0] 25
 f:kF W (N+1) #[U O 0,U O 0] 28
 b:Below w.heap.size w W
 hN:w.heap.size=N
theorem RB.below (a:RB w W N) {d:Zw} (c:Below W.heap.size W d):RB w d N:=⟨a.n.below c,a.f.below c,a.b.trans (c.mono a.b.size),a.hN⟩
theorem RB.alloc (a:RB w W N) (o:Obj):RB w (W.alloc o) N:=a.below (bal o)
theorem RB.grown (a:RB w W N) {c:Zw} {d:Nat} (b:W.grownBy c (Z d)) (g:N+1<d):RB w c N:=⟨a.n.grown b oE,a.f.grown b oE,a.b.grown b a.b.size (fun k e=>by injection e with e;have:=a.hN;omega),a.hN⟩
theorem RB.cells (a:RB w W N):W.cell? (A N 0 F)=Z (U O 0)/\W.cell? (A N 1 F)=Z (I ⟨#[]⟩)/\W.cell? (A N 2 F)=Z (U O 0)/\W.cell? (A N 3 F)=Z (J F 0 0)/\W.cell? (A (N+1) 0 F)=Z (U O 0)/\W.cell? (A (N+1) 1 F)=Z (U O 0)/\(∀k,W.frozen? (A N k F)=X)/\∀k,W.frozen? (A (N+1) k F)=X :=
 ⟨a.n.cell 0 rfl,a.n.cell 1 rfl,a.n.cell 2 rfl,a.n.cell 3 rfl,a.f.cell 0 rfl,a.f.cell 1 rfl,a.n.fz,a.f.fz⟩
theorem RB.done (c:RB w W N) (n0 n1 n2 n3 f0 f1:Zv):kF ((((((W.setCell (A N 0 F) n0).setCell (A N 1 F) n1).setCell (A N 2 F) n2).setCell (A N 3 F) n3).setCell (A (N+1) 0 F) f0).setCell (A (N+1) 1 F) f1) N #[n0,n1,n2,n3] 25/\kF ((((((W.setCell (A N 0 F) n0).setCell (A N 1 F) n1).setCell (A N 2 F) n2).setCell (A N 3 F) n3).setCell (A (N+1) 0 F) f0).setCell (A (N+1) 1 F) f1) (N+1) #[f0,f1] 28/\Below w.heap.size w ((((((W.setCell (A N 0 F) n0).setCell (A N 1 F) n1).setCell (A N 2 F) n2).setCell (A N 3 F) n3).setCell (A (N+1) 0 F) f0).setCell (A (N+1) 1 F) f1):=by
 have a:w.heap.size<=N:=Nat.le_of_eq c.hN;refine⟨((((((c.n.set 0 n0).set 1 n1).set 2 n2).set 3 n3).other (b:=N+1) (o:=0) oA f0).other (b:=N+1) (o:=1) oA f1),(((((c.f.other (b:=N) (o:=0) oA n0).other (b:=N) (o:=1) oA n1).other (b:=N) (o:=2) oA n2).other (b:=N) (o:=3) oA n3).set 0 f0).set 1 f1,?_⟩;exact(((((c.b.setCell (p:=(A N 0 F)) a _).setCell (p:=(A N 1 F)) a _).setCell (p:=(A N 2 F)) a _).setCell (p:=(A N 3 F)) a _).setCell (p:=(A (N+1) 0 F)) (Nat.le_succ_of_le a) _).setCell (p:=(A (N+1) 1 F)) (Nat.le_succ_of_le a) _
theorem RB.drew (a:RB w W N):RB w W.drew N:=⟨a.n,a.f,a.b.drew,a.hN⟩
theorem vX.mkBad {w W:Zw} {x:ByteArray} {R:Int × Int} {c p:Int} {a:Ending} (d:R=(c,p)) (f:c≠0) (g:a=.returned (.tuple #[zbh,Za #[U O c,U O p]])) (e:Below w.heap.size w W):vX w x R a W:=by
 subst d;exact⟨_,g,fun b=>absurd b f,fun _=>rfl,e⟩
end
theorem zzu (x:ByteArray) (b:List FV) (fv:Zv) (m:ByteArray) (i:List Kid) (w:Zw) (aJ:zdn w) (ci:gA w fv b) (az:(parse x).code=0->(parse x).tree=.node 1 m 0 (i.map Kid.tree)/\m.size<=16/\(∀k∈i,k.good/\k.named/\vK k)/\kA (i.map Kid.tree)<=900/\i.length<=900/\∀k∈i,k.kids.length<=900) : Calls prog 4 #[I x,fv] w (vX w x (ckF x (b.map (·.1)) m i)):=by
 have dj:=kc25;have dk:=kc28;have dl:prog.cellsOf 38=3:=xG;have dt:=@run_makeMap prog;obtain⟨R,M⟩:∃R,Hid (ckF x (b.map (·.1)) m i=R):=⟨_,rfl⟩
 rw[M.out];obtain⟨a,c,rfl,du,aW⟩:=ci
 have aw:∀p∈b,qX w (fvV p) p.1:=fun p cy=>by
  obtain⟨K,hi,rfl⟩:=List.mem_iff_getElem.1 cy;obtain⟨g,o,_,aQ⟩:=aW (fun N=>by rw[N]at hi;cases hi);exact(aQ K hi).2.2.2.1
 have u:RB w (((w.alloc (Zc #[U O 0,I ⟨#[]⟩,U O 0,J F 0 0] 25)).alloc (Zc #[U O 0,U O 0] 28)).alloc (.map #[] 0)) w.heap.size:=by
  refine⟨((kF.new w _ _).alloc _).alloc _,?_,((bal _).alloc oB _).alloc oE _,rfl⟩;have:=(kF.new (w.alloc (Zc #[U O 0,I ⟨#[]⟩,U O 0,J F 0 0] 25)) #[U O 0,U O 0] 28).alloc (.map #[] 0);rw[jO]at this;exact this
 have a6:kZ (((w.alloc (Zc #[U O 0,I ⟨#[]⟩,U O 0,J F 0 0] 25)).alloc (Zc #[U O 0,U O 0] 28)).alloc (.map #[] 0)) (w.heap.size+1+1) 0 (fun l=>fvO (xW [] l)):=by
  have:=kZ.made ((w.alloc (Zc #[U O 0,I ⟨#[]⟩,U O 0,J F 0 0] 25)).alloc (Zc #[U O 0,U O 0] 28));rw[jO,jO]at this;exact this
 go_enter func4,ntmps4;go_wp2;generalize (((w.alloc (Zc #[U O 0,I ⟨#[]⟩,U O 0,J F 0 0] 25)).alloc (Zc #[U O 0,U O 0] 28)).alloc (.map #[] 0))=dh at *;go_loopw [20] (fun bs wr=>∃j:Nat,j<=b.length/\bs=U O j/\RB w wr w.heap.size/\kZ wr (w.heap.size+1+1) j (fun l=>fvO (xW (b.take j) l))/\Hid (qO [] (b.map (·.1))=qO ((b.map (·.1)).take j) ((b.map (·.1)).drop j))) (fun bs _=>b.length - (intOf bs).toNat)
 case atStart=>exact⟨0,jz _,rfl,u,a6,by show _=_;simp⟩
 case round =>
  clear u a6;obtain⟨j,dr,rfl,u,a6,aH⟩:=hrel;by_cases aF:j<b.length
  ·obtain⟨g,o,rfl,aQ⟩:=aW (by intro N;rw[N]at aF;simp at aF);obtain⟨cc,k1,cd,aS,aV⟩:=aQ j aF;have cc:=keep cc u.b;have k1:=keep k1 u.b;have cd:=keep cd u.b;have aS:=aS.below u.b;have br:=zem (b.map (·.1)) j (by simpa using aF)
   rw[List.getElem_map]at br;have aa:=zto (b.take j) b[j].1.module;rw[List.map_take]at aa;have ay:=ztp (b.take j) b[j];rw[List.map_take]at ay;have cb:b.take (j+1)=b.take j++[b[j]]:=List.take_succ_eq_append_getElem aF;rw[<- cb]at ay;have au:Hid _:=aH.out.trans br;clear aW aQ br cb aH;generalize d0:b[j]=ac at *;clear d0;obtain⟨dm,ae,n1,C,af,n2,D,aG⟩:=zb6 aS;obtain⟨q,e3,f⟩:=ac;unfold fvV at aG;dsimp only at *;injection aG with aG;simp only[Array.mk.injEq,jq,and_true]at aG;obtain⟨_,rfl,rfl⟩:=aG;have bX:=u.alloc (Zc #[I q.module,J ae n1 C,J af n2 D] 38);have bm:kZ (wr.alloc (Zc #[I q.module,J ae n1 C,J af n2 D] 38)) (w.heap.size+1+1) j (fun l=>fvO (xW (b.take j) l)):=a6.below (bal _);have dq:=a6.lt
   cases ax:xW (b.take j) q.module with
   | some T =>
    have cz:T∈b:=List.mem_of_mem_take (List.mem_of_find?_eq_some ax);obtain⟨d2,b1,m1,E,cg,d1,ch,cA⟩:=zb6 (aw T cz);have av:=bX.alloc (Zc #[I d2,J b1 m1 E,J cg d1 ch] 38)
    have L:Hid (R=(2,0)):=by
     show _=_;rw[<- M.out];unfold ckF;rw[jv];rw[au.out];rw[ax]at aa;rw[<- aa];rfl
    clear au M ay aa az aw;obtain⟨b6,b7,b8,b9,aY,aZ,h,B⟩:=av.cells;have ba:=h 0;have bb:=h 1;have bc:=h 2;have be:=h 3;have b0:=B 0;have b2:=B 1
    go_wp2_with first
     | (at_lookup;refine zao (f:=fun l=>fvO (xW (b.take j) l)) rfl _ _ rfl rfl bm q.module aV rfl ?_;rw[ax,show fvO (Z T)=Z (fvV T)from rfl,cA])
     | go_in
    obtain⟨e1,bw,bz⟩:=av.done (U O 0) (I ⟨#[]⟩) (U O 0) (J F 0 0) (U O 2) (U O 0)
    exact oz19x184
   | none =>
    have av:=bX.alloc (Zc #[I ⟨#[]⟩,J F 0 0,J F 0 0] 38);have bD:Below wr.heap.size wr ((wr.alloc (Zc #[I q.module,J ae n1 C,J af n2 D] 38)).alloc (Zc #[I ⟨#[]⟩,J F 0 0,J F 0 0] 38)):=(bal _).alloc oB _;have cq:=aS.below bD;have cj:qV ((wr.alloc (Zc #[I q.module,J ae n1 C,J af n2 D] 38)).alloc (Zc #[I ⟨#[]⟩,J F 0 0,J F 0 0] 38)):=(zb1 aJ av.b).1.1;have aN:=(kF.new wr #[I q.module,J ae n1 C,J af n2 D] 38).alloc (Zc #[I ⟨#[]⟩,J F 0 0,J F 0 0] 38);have d4:=aN.cell 0 rfl;have d5:=aN.cell 1 rfl;have d6:=aN.cell 2 rfl;have cm:=a6.below bD;have aL:=ybx q _ _ cj cq;unfold fvV at aL;dsimp only at aL
    have aP:(List.take j (b.map (·.1))).any (fun p=>eqS p.module q.module)=X:=by
     rw[ax]at aa;exact aa.symm
    cases aU:vB q with
    | false =>
     have L:Hid (R=(2,0)):=by
      show _=_;rw[<- M.out];unfold ckF;rw[jv];rw[au.out,aU];simp
     clear au M ay aa az aw aP
     go_wp2_with first
      | (at_lookup;refine zao (f:=fun l=>fvO (xW (b.take j) l)) rfl _ _ rfl rfl bm q.module aV rfl ?_;rw[ax,show fvO F=(F:Option Zv)from rfl];unfold vH)
      | (go_at_call 7;refine aL.mono ?_;rintro N s ⟨rfl,a2⟩;rw[aU];have Q:=av.below a2;obtain⟨b6,b7,b8,b9,aY,aZ,h,B⟩:=Q.cells;have ba:=h 0;have bb:=h 1;have bc:=h 2;have be:=h 3;have b0:=B 0;have b2:=B 1)
      | go_in
     obtain⟨e1,bw,bz⟩:=Q.done (U O 0) (I ⟨#[]⟩) (U O 0) (J F 0 0) (U O 2) (U O 0)
     exact oz19x184
    | true =>
     have ce:Hid (qO [] (b.map (·.1))=qO ((b.map (·.1)).take (j+1)) ((b.map (·.1)).drop (j+1))):=by
      show _=_;rw[au.out,aU,aP];simp
     have ct:=ay aP;clear au ay aa aP
     go_wp2_with first
      | (at_lookup;refine zao (f:=fun l=>fvO (xW (b.take j) l)) rfl _ _ rfl rfl bm q.module aV rfl ?_;rw[ax,show fvO F=(F:Option Zv)from rfl];unfold vH)
      | (go_at_call 7;refine aL.mono ?_;rintro N s ⟨rfl,a2⟩;rw[aU];have Q:=av.below a2;have cn:=cm.below a2;have bn:=aN.below a2;have d4:=bn.cell 0 rfl;have d5:=bn.cell 1 rfl;have d6:=bn.cell 2 rfl)
      | (at_mapUpdate;refine ztc rfl _ _ _ rfl rfl cn (by unfold maxLen;omega) q.module aV rfl (Za #[I q.module,J ae n1 C,J af n2 D]) rfl ?_;intro e9 bP cr)
      | go_in
     have a7:=Q.grown cr oA;rw[show(fun l=>if eqS l q.module then Z (Value.agg #[I q.module,J ae n1 C,J af n2 D])else fvO (xW (b.take j) l))=fun l=>fvO (xW (b.take (j+1)) l)from ct]at bP;exact⟨⟨j+1,oA,oB,a7,bP,ce⟩,by simp[intOf];omega⟩
  ·skip;obtain rfl:j=b.length:=oA;rw[jG (jE _)]at a6
   have bq:qO [] (b.map (·.1))=X:=by
    rw[aH.out,List.drop_eq_nil_of_le oB];rfl
   clear aH aW;have bH:=zb1 aJ u.b;by_cases ak:(parse x).code=0
   ·obtain⟨aX,cv,aK,ck,bN,bj⟩:=az ak;have P:=zzv x m i wr bH.1 ak aX cv (fun k aE=>(aK k aE).1) oA (fun k aE=>by have:=bj k aE;omega);unfold vE at P;rw[zcr]at P
    cases ab:zC m i [] [] 1 with
    | some ac =>
     have a3:¬ac.1=0:=by have:=zaq m i _ _ _ ac ab;omega
     have L:Hid (R=ac):=by
      exact oz19x187
     rw[ab]at P;obtain⟨d,f⟩:=ac;dsimp only at P a3;have ca:(d != 0)=H:=by simp[a3]
     clear M ab az aw aX aK ck bN bj;go_wp2_with (go_at_call 8;refine P.mono ?_;rintro N y ⟨rfl,a9⟩;have z:=((u.below a9).alloc (Zc #[I ⟨#[]⟩,J F 0 0,J F 0 0] 38)).alloc (Zc #[U O d,U O f] 28));have V:=kF.new (y.alloc (Zc #[I ⟨#[]⟩,J F 0 0,J F 0 0] 38)) #[U O d,U O f] 28;rw[jO]at V;have c9:w.heap.size+1<y.heap.size+1:=by have:=(u.below a9).f.lt;omega
     generalize (y.alloc (Zc #[I ⟨#[]⟩,J F 0 0,J F 0 0] 38)).alloc (Zc #[U O d,U O f] 28)=aA at *
     exact oz19x181
    | none =>
     rw[ab]at P
     have L:Hid (R=nz ((moF (qS H m i) (b.map (·.1)) i [] 1).getD (0,0))):=by
      exact oz19x187
     have cu:=zm4 ab aK;have cx:=zpt ab;clear M ab az aK;have aM:=fun W (co:dA W)=>zg3 x W co
     unfold vJ at aM;rw[ak,aX]at aM;generalize (parse x).place=T at *;go_wp2_with (go_at_call 8;refine P.mono ?_;rintro N y ⟨di,df,de,d3,dz,bf,_,rfl,bi,_,_,c7,a9⟩;obtain⟨ao,ap,rfl⟩:=bi.shapeV;obtain⟨am,an,rfl⟩:=bi.shapeP;obtain⟨dx,dy,rfl,_,_⟩:=lexs.own_shape c7;clear bi c7);have c6:Below wr.heap.size wr ((y.alloc (Zc #[I m,J ao (kI X i).length ap,J am bf.length an] 38)).alloc (Zc #[U O 0,U O 0] 28)):=a9.trans ((((Below.refl y.heap.size y).alloc (jE _) _).alloc oB _).mono a9.size);have z:=u.below c6;have bR:=a6.below c6;have bF:=zb1 aJ z.b;have dp:=z.f.lt;refine(aM ((y.alloc (Zc #[I m,J ao (kI X i).length ap,J am bf.length an] 38)).alloc (Zc #[U O 0,U O 0] 28)) bF.1).mono ?_;clear aM P;generalize ((y.alloc (Zc #[I m,J ao (kI X i).length ap,J am bf.length an] 38)).alloc (Zc #[U O 0,U O 0] 28))=aA at *;rintro N s ⟨e8,rfl,aT,a2⟩;obtain⟨k1,x1,m1,b1,a5,E,rfl⟩:=zb7 aT;have ai:Below s.heap.size s ((s.alloc (Zc #[U O k1,I x1,U O m1,J b1 a5 E] 25)).alloc (Zc #[U O 0,U O T] 28)):=((Below.refl s.heap.size s).alloc (jE _) _).alloc oB _;have a7:=(z.below a2).below ai;have bS:=(bR.below a2).below ai;have bG:=zb1 aJ a7.b;have bo:kF ((s.alloc (Zc #[U O k1,I x1,U O m1,J b1 a5 E] 25)).alloc (Zc #[U O 0,U O T] 28)) s.heap.size #[U O k1,I x1,U O m1,J b1 a5 E] 25:=(kF.new s _ _).alloc _;have c8:Lies (·<((s.alloc (Zc #[U O k1,I x1,U O m1,J b1 a5 E] 25)).alloc (Zc #[U O 0,U O T] 28)).heap.size) ((s.alloc (Zc #[U O k1,I x1,U O m1,J b1 a5 E] 25)).alloc (Zc #[U O 0,U O T] 28)) (.node 1 m 0 (i.map Kid.tree)) (Za #[U O k1,I x1,U O m1,J b1 a5 E]):=aT.to (fun t ah=>jo ah.2 ai.size) (fun t ah o=>ai.cell (p:=(A t o F)) ah.2)
     have bE:=zx6 (gf:=xW b) (b.map (·.1)) m i _ ((s.alloc (Zc #[U O k1,I x1,U O m1,J b1 a5 E] 25)).alloc (Zc #[U O 0,U O T] 28)) (zvp b) (fun l ac cB=>(aw ac (List.mem_of_find?_eq_some cB)).below a7.b) (fun aI cp=>zm5 (ze0 _ _ bq aI cp)) bS bG.2 c8 bN cu (fun k aE=>by have:=bj k aE;omega) oA cx
     have dw:=a2.size;clear c8 bS bR bG bF;go_wp2_with (fail);refine bE.mono ?_;clear bE;rintro N ar ⟨rfl,aj⟩;generalize (moF (qS H m i) (b.map (·.1)) i [] 1).getD (0,0)=r at *
     obtain⟨d,f⟩:=r;dsimp only;have z:=(a7.below aj).alloc (Zc #[U O d,U O f] 28);have aC:=(bo.below aj).alloc (Zc #[U O d,U O f] 28);have V:=kF.new ar #[U O d,U O f] 28;have c9:w.heap.size+1<ar.heap.size:=(a7.below aj).f.lt;have bp:Below s.heap.size s (ar.alloc (Zc #[U O d,U O f] 28)):=ai.trans ((aj.trans (((Below.refl ar.heap.size ar).alloc (jE _) _).mono aj.size)).mono ai.size);have ds:w.heap.size+1<aA.heap.size:=oA;by_cases a3:d=0
     ·subst a3;have bu:Hid (R=(0,0)):=L.out;have e4:=aC.cell 0 rfl;have e5:=aC.cell 1 rfl;have e6:=aC.cell 2 rfl;have e7:=aC.cell 3 rfl;obtain⟨b6,b7,b8,b9,aY,aZ,h,B⟩:=z.cells;have ba:=h 0;have bb:=h 1;have bc:=h 2;have be:=h 3;have b0:=B 0;have b2:=B 1;obtain⟨C,D,bh⟩:=z.done (U O k1) (I x1) (U O m1) (J b1 a5 E) (U O 0) (U O 0);clear L aj a7 bo V;go_wp2;refine jT (v:=.tuple #[Za #[U O k1,I x1,U O m1,J b1 a5 E],Za #[U O 0,U O 0]]) (ze1 _ _ _ C D) rfl ?_;refine⟨_,by rw[bu.out],fun _=>?_,fun G=>absurd (by rw[bu.out]) G,bh⟩;rw[aX];refine aT.to ?lsz ?lcl
      case lsz =>
       intro t ah;refine⟨oA,?_⟩;simp only[jQ];exact jo ah.2 bp.size
      case lcl =>
       intro t ah o;refine(jM (a:=(A t o F)) ?_).trans (bp.cell (p:=(A t o F)) ah.2);have aR:t≠w.heap.size:=oA;have bZ:t≠w.heap.size+1:=oA;exact(((((jP _ _ _ t bZ).trans (jP _ _ _ t bZ)).trans (jP _ _ _ t aR)).trans (jP _ _ _ t aR)).trans (jP _ _ _ t aR)).trans (jP _ _ _ t aR)
     ·replace L:Hid (R=(d,f)):=L.out.trans (ju a3);have ca:(d != 0)=H:=by simp[a3]
      clear bp aj a7 bo aC aT ai;go_wp2;generalize ar.alloc (Zc #[U O d,U O f] 28)=bv at *;generalize ar.heap.size=e at *;have a8:(fun W=>W.cell? (A e 0 F)=Z (U O d)/\W.cell? (A e 1 F)=Z (U O f)) bv.drew:=⟨V.cell 0 rfl,V.cell 1 rfl⟩
      refine wp_region_held_drew (S:=fun W=>W.cell? (A e 0 F)=Z (U O d)/\W.cell? (A e 1 F)=Z (U O f)) oD a8 (fun ag=>?_);clear ag;have Q:=z.drew;clear z;generalize bv.drew=ad at *;exact oz19x178
   ·have L:Hid (R=((parse x).code,(parse x).place)):=by
     show _=_;rw[<- M.out];unfold ckF;rw[ju (by rw[bq];decide),jv ak]
    have P:=zx9 x wr bH.1 ak;clear M az aw;generalize (parse x).code=d at *;generalize (parse x).place=f at *;have a3:¬d=0:=ak;have ca:(d != 0)=H:=by simp[a3]
    go_wp2_with (go_at_call 8;refine P.mono ?_;rintro N y ⟨dn,e2,rfl,⟨de,d3,rfl,⟨ao,ap,rfl,_⟩,⟨am,an,rfl,_⟩⟩,⟨dZ,e0,rfl,_⟩,a9⟩;have z:=((u.below a9).alloc (Zc #[I uJ.module,J ao uJ.vars.length ap,J am uJ.procs.length an] 38)).alloc (Zc #[U O d,U O f] 28));have V:=kF.new (y.alloc (Zc #[I uJ.module,J ao uJ.vars.length ap,J am uJ.procs.length an] 38)) #[U O d,U O f] 28;rw[jO]at V;have c9:w.heap.size+1<y.heap.size+1:=by have:=(u.below a9).f.lt;omega
    generalize (y.alloc (Zc #[I uJ.module,J ao uJ.vars.length ap,J am uJ.procs.length an] 38)).alloc (Zc #[U O d,U O f] 28)=aA at *;exact oz19x181
end chk
namespace chk
open Go.RowKit
open syn face cut
open ord (tkd uP)
section
variable {W:Zw} {N:Nat} {n0 n1 n2 n3 f0 f1:Zv}
theorem zh9 {a:Nat} (d:N+1<a):((((((W.setCell (A N 0 F) n0).setCell (A N 1 F) n1).setCell (A N 2 F) n2).setCell (A N 3 F) n3).setCell (A (N+1) 0 F) f0).setCell (A (N+1) 1 F) f1).heap[a]?=W.heap[a]?:=by
 have b:a≠N:=oA;have c:a≠N+1:=oA;exact(jP _ (A (N+1) 1 F) _ a c).trans ((jP _ (A (N+1) 0 F) _ a c).trans ((jP _ (A N 3 F) _ a b).trans ((jP _ (A N 2 F) _ a b).trans ((jP _ (A N 1 F) _ a b).trans (jP _ (A N 0 F) _ a b)))))
end
def gT (w0 W d:Zw) (N:Nat) (k1:Int) (x1:ByteArray) (m1:Int) (e:Zv) (c a:Int):Prop:=∃n0 n1 n2 n3:Zv,kF d N #[n0,n1,n2,n3] 25/\kF d (N+1) #[U O c,U O a] 28/\Below w0.heap.size w0 d/\(∀b,N+1<b->d.heap[b]?=W.heap[b]?)/\W.heap.size<=d.heap.size/\((c=0/\n0=U O k1/\n1=I x1/\n2=U O m1/\n3=e)\/(c≠0/\n0=U O 0/\n1=I ⟨#[]⟩/\n2=U O 0/\n3=J F 0 0))
section
variable {w0 w:Zw} {N B C n1 e1:Nat} {k1 m1 c a:Int} {x1:ByteArray} {b1:Option Addr}
theorem gT.bad (f:RB w0 w N) (h:c≠0):gT w0 w ((((((w.setCell (A N 0 F) (U O 0)).setCell (A N 1 F) (I ⟨#[]⟩)).setCell (A N 2 F) (U O 0)).setCell (A N 3 F) (J F 0 0)).setCell (A (N+1) 0 F) (U O c)).setCell (A (N+1) 1 F) (U O a)) N k1 x1 m1 (J b1 n1 e1) c a:=by
 obtain⟨b,d,e⟩:=f.done (U O 0) (I ⟨#[]⟩) (U O 0) (J F 0 0) (U O c) (U O a);exact⟨_,_,_,_,b,d,e,fun i g=>zh9 g,by simp only[jQ];exact jE _,.inr ⟨h,rfl,rfl,rfl,rfl⟩⟩
theorem gT.good (e:RB w0 w N):gT w0 w ((((((w.setCell (A N 0 F) (U O k1)).setCell (A N 1 F) (I x1)).setCell (A N 2 F) (U O m1)).setCell (A N 3 F) (J b1 n1 e1)).setCell (A (N+1) 0 F) (U O 0)).setCell (A (N+1) 1 F) (U O a)) N k1 x1 m1 (J b1 n1 e1) 0 a:=by
 obtain⟨b,c,d⟩:=e.done (U O k1) (I x1) (U O m1) (J b1 n1 e1) (U O 0) (U O a);exact⟨_,_,_,_,b,c,d,fun g f=>zh9 f,by simp only[jQ];exact jE _,.inl ⟨rfl,rfl,rfl,rfl,rfl⟩⟩
theorem zqs {W:Zw} {f g h i:Zv} (e:kF W B #[f,g,h,i] 25) (a b c d:Zv):kF ((((W.setCell (A B 0 F) a).setCell (A B 1 F) b).setCell (A B 2 F) c).setCell (A B 3 F) d) B #[a,b,c,d] 25:=(((e.set 0 a).set 1 b).set 2 c).set 3 d
theorem zaa {W:Zw} {c:Array Zv} {b:TypeId} (h:kF W C c b) (a:C≠B) (d e f g:Zv):kF ((((W.setCell (A B 0 F) d).setCell (A B 1 F) e).setCell (A B 2 F) f).setCell (A B 3 F) g) C c b:=(((h.other a d).other a e).other a f).other a g
theorem zg9 (L:RB w0 w N) (K:kF w B #[U O k1,I x1,U O m1,J b1 n1 e1] 25) (s:kF w C #[U O c,U O a] 28) (bs:N+1<B) (bu:N+1<C) {M P a9 ak aR aS Q R T V a2 a3 a5 a6 a7 a8 aa ab ac ad ae af ag ah ai aj am an ao ap ar au av aw ax ay az aA aB aC aD aE aF aG aH aI aJ aK aL aM aN aO aP aQ bv bw bz bD bE bF bG:Zv} {l:Exit->Act->Zw->Prop} (bj:∀c bH bN bi w,l (.panic c) ⟨bH,bi⟩ w->l (.panic c) ⟨bN,bi⟩ w) (bm:∀(u v x y z D E:Zv) (d:Zw),gT w0 w d N k1 x1 m1 (J b1 n1 e1) c a->l .ret ⟨#[M,P,a9,ak,Zp (Z (A N 0 F)),Zp (Z (A (N+1) 0 F)),aR,aS,Zp (Z (A B 0 F)),Zp (Z (A C 0 F)),Q,R,T,V,a2,a3,a5,a6,a7,a8,aa,ab,ac,ad,ae,af,ag,ah,ai,aj,am,an,ao,ap,ar,au,av,aw,ax,ay,az,aA,aB,aC,aD,aE,aF,aG,aH,aI,aJ,aK,aL,aM,aN,aO,aP,aQ,u,v,x,y,z,D,E],[]⟩ d) : Code.wp prog (xH 16 f5) l ⟨#[M,P,a9,ak,Zp (Z (A N 0 F)),Zp (Z (A (N+1) 0 F)),aR,aS,Zp (Z (A B 0 F)),Zp (Z (A C 0 F)),Q,R,T,V,a2,a3,a5,a6,a7,a8,aa,ab,ac,ad,ae,af,ag,ah,ai,aj,am,an,ao,ap,ar,au,av,aw,ax,ay,az,aA,aB,aC,aD,aE,aF,aG,aH,aI,aJ,aK,aL,aM,aN,aO,aP,aQ,bv,bw,bz,bD,bE,bF,bG],[]⟩ w:=by
 have bY:=kc25;have bZ:=kc28;have G:Hid _:=bm;have HP:Hid _:=bj;have bb:Hid (B≠N):=(by show _≠_;omega)
 have be:Hid (C≠N):=(by show _≠_;omega)
 have ba:Hid (B≠N+1):=(by show _≠_;omega)
 have bc:Hid (C≠N+1):=(by show _≠_;omega)
 clear bm bj bs bu;have bh:=s.cell 0 rfl
 conv=>arg 2;whnf
 dsimp only;by_cases bo:c=0
 ·subst bo
  go_upto_region 18 with fail
  refine wp_region_held_drew (S:=fun W=>kF W B #[U O k1,I x1,U O m1,J b1 n1 e1] 25/\kF W C #[U O 0,U O a] 28) oD ⟨K.below (Below.refl _ _).drew,s.below (Below.refl _ _).drew⟩ (fun b=>?_);have e:=L.drew;have bg:Hid (∀(u v x y z D E:Zv) (d:Zw),gT w0 w.drew d N k1 x1 m1 (J b1 n1 e1) 0 a->l .ret ⟨#[M,P,a9,ak,Zp (Z (A N 0 F)),Zp (Z (A (N+1) 0 F)),aR,aS,Zp (Z (A B 0 F)),Zp (Z (A C 0 F)),Q,R,T,V,a2,a3,a5,a6,a7,a8,aa,ab,ac,ad,ae,af,ag,ah,ai,aj,am,an,ao,ap,ar,au,av,aw,ax,ay,az,aA,aB,aC,aD,aE,aF,aG,aH,aI,aJ,aK,aL,aM,aN,aO,aP,aQ,u,v,x,y,z,D,E],[]⟩ d):=G.out;clear K s bh L G;generalize w.drew=W at *;refine tkw 0 (Za #[U O k1,I x1,U O m1,J b1 n1 e1]  ) b HP ?_ (hy:=Or.inl ⟨oI,fun d i=>oz19y188⟩);simp only[jA,jB,jC];refine tkw 1 (Za #[U O 0,U O a] ) b HP ?_ (hy:=Or.inl ⟨oI,fun d i=>oz19y189⟩);simp only[jA,jB,jC];obtain⟨aY,aZ,b0,b2,aU,aV,h,k⟩:=e.cells;have b6:=h 0;have b7:=h 1;have b8:=h 2;have b9:=h 3;have aW:=k 0;have aX:=k 1;refine oneH 2 fun q j=>?_
  go_simp;have aT:=zqs e.n (U O k1) (I x1) (U O m1) (J b1 n1 e1);have g:=zaa e.f (Nat.succ_ne_self N) (U O k1) (I x1) (U O m1) (J b1 n1 e1);have m:=zaa b.1 bb.out (U O k1) (I x1) (U O m1) (J b1 n1 e1);have o:=zaa b.2 be.out (U O k1) (I x1) (U O m1) (J b1 n1 e1);have bP:=g.cell 0 rfl;have bR:=g.cell 1 rfl;have bS:=g.fz 0;have bX:=g.fz 1;have bf:=gT.good (k1:=k1) (x1:=x1) (m1:=m1) (b1:=b1) (n1:=n1) (e1:=e1) (a:=a) e;refine j.out _ _ ⟨m,o⟩ (fun t=>?_);clear j q t aY aZ b0 b2 aU aV h k b6 b7 b8 b9 aW aX aT g b e;have b:=And.intro m o;generalize bn:(((W.setCell (A N 0 F) (U O k1)).setCell (A N 1 F) (I x1)).setCell (A N 2 F) (U O m1)).setCell (A N 3 F) (J b1 n1 e1)=bq at *;exact oz19x183
 ·have bp:Hid (c≠0):=bo
  go_upto_region 17 with fail
  refine wp_region_held_drew (S:=fun W=>kF W B #[U O k1,I x1,U O m1,J b1 n1 e1] 25/\kF W C #[U O c,U O a] 28) oD ⟨K.below (Below.refl _ _).drew,s.below (Below.refl _ _).drew⟩ (fun b=>?_);have e:=L.drew;have bg:Hid (∀(u v x y z D E:Zv) (d:Zw),gT w0 w.drew d N k1 x1 m1 (J b1 n1 e1) c a->l .ret ⟨#[M,P,a9,ak,Zp (Z (A N 0 F)),Zp (Z (A (N+1) 0 F)),aR,aS,Zp (Z (A B 0 F)),Zp (Z (A C 0 F)),Q,R,T,V,a2,a3,a5,a6,a7,a8,aa,ab,ac,ad,ae,af,ag,ah,ai,aj,am,an,ao,ap,ar,au,av,aw,ax,ay,az,aA,aB,aC,aD,aE,aF,aG,aH,aI,aJ,aK,aL,aM,aN,aO,aP,aQ,u,v,x,y,z,D,E],[]⟩ d):=G.out;clear K s bh L G;generalize w.drew=W at *;refine tkw 0 (Za #[U O 0,I ⟨#[]⟩,U O 0,J F 0 0]  ) b HP ?_ (hy:=Or.inl ⟨oI,fun d i=>oz19y188⟩);simp only[jA,jB,jC];refine tkw 1 (Za #[U O c,U O a] ) b HP ?_ (hy:=Or.inl ⟨oI,fun d i=>oz19y189⟩);simp only[jA,jB,jC];obtain⟨aY,aZ,b0,b2,aU,aV,h,k⟩:=e.cells;have b6:=h 0;have b7:=h 1;have b8:=h 2;have b9:=h 3;have aW:=k 0;have aX:=k 1;refine oneH 2 fun q j=>?_
  go_simp;have aT:=zqs e.n (U O 0) (I ⟨#[]⟩) (U O 0) (J F 0 0);have g:=zaa e.f (Nat.succ_ne_self N) (U O 0) (I ⟨#[]⟩) (U O 0) (J F 0 0);have m:=zaa b.1 bb.out (U O 0) (I ⟨#[]⟩) (U O 0) (J F 0 0);have o:=zaa b.2 be.out (U O 0) (I ⟨#[]⟩) (U O 0) (J F 0 0);have bP:=g.cell 0 rfl;have bR:=g.cell 1 rfl;have bS:=g.fz 0;have bX:=g.fz 1;have bf:=gT.bad (k1:=k1) (x1:=x1) (m1:=m1) (b1:=b1) (n1:=n1) (e1:=e1) (a:=a) e bp.out;refine j.out _ _ ⟨m,o⟩ (fun t=>?_);clear j q t aY aZ b0 b2 aU aV h k b6 b7 b8 b9 aW aX aT g b e;have b:=And.intro m o;generalize bn:(((W.setCell (A N 0 F) (U O 0)).setCell (A N 1 F) (I ⟨#[]⟩)).setCell (A N 2 F) (U O 0)).setCell (A N 3 F) (J F 0 0) =bq at *;exact oz19x183
end
end chk
namespace chk
open Go.RowKit
open syn face
theorem zhp:∀a:List Loc,(zT a).length=a.length*3
 | []=>rfl
 | v :: r=>by
  show(Value.string v.name :: Value.int O v.label :: Value.int O v.deep :: zT r).length=_;simp only[jd,zhp r];omega
theorem zhl:∀(a:List Loc) (n:Nat),(zT a).take (n*3)=zT (a.take n)
 | [],n=>by simp[zT]
 | v :: r,0=>by simp[zT]
 | v :: r,n+1=>by
  show(Value.string v.name :: Value.int O v.label :: Value.int O v.deep :: zT r).take ((n+1)*3)=Value.string v.name :: Value.int O v.label :: Value.int O v.deep :: zT (r.take n);rw[show(n+1)*3=n*3+1+1+1 by omega];simp only[List.take_succ_cons,zhl r n]
theorem zxz {w:Zw} {B:Nat} {ua:Option Addr} {uc:Nat} {L:List Loc} (d:w.ownsRow B 115 3 (J ua L.length uc) L.length (zT L)) {n:Nat} (o:n<=L.length):w.ownsRow B 115 3 (J ua n uc) (L.take n).length (zT (L.take n)):=by
 have k:(L.take n).length=n:=oQ;refine⟨by rw[zhp],?_⟩;rw[k];rcases d.2 with⟨a,l⟩|⟨g,b,c,a,e,f,m,h,i,j⟩
 ·injection a with e1 _ e2;exact .inl ⟨by rw[e1,e2,show n=0 by omega],oA⟩
 ·injection a with e1 _ e2;refine .inr ⟨g,b,c,by rw[e1,e2],e,f,oA,h,i,?_⟩;rw[<- zhl,<- j,List.take_take,Nat.min_eq_left oA]
theorem zi4 {w:Zw} {B n:Nat} {d:Zv} {f:TypeId} {k:Nat} {j:List Zv} (h:w.ownsRow B f k d n j):∃a c,d=J a n c/\n<=c/\n<=9223372036854775807/\c<=9223372036854775807:=by
 rcases h.2 with⟨rfl,rfl⟩|⟨g,e,l,rfl,_,_,i,b,_⟩
 ·exact⟨F,0,rfl,oA,oA,oA⟩
 ·exact⟨Z (A g 0 F),e,rfl,i,by unfold maxLen at b;omega,by unfold maxLen at b;omega⟩
section
variable {w0 w w':Zw} {D:Nat} {own:FV} {fs:List FV} {fv lv:Zv} {L:List Loc} {at_:Int} {p0 p1 p2 p3 p4 p5:Zv} {fc fa:Int} {st:Bool} {ua:Option Addr} {uc:Nat}
theorem LK.cut (a:LK w0 w D own fs fv (J ua L.length uc) L at_ p0 p1 p2 p3 p4 p5 fc fa st) {n:Nat} (g:n<=L.length):LK w0 (w.setCell (A D 4 F) (J ua n uc)) D own fs fv (J ua n uc) (L.take n) at_ p0 p1 p2 p3 p4 p5 fc fa st:=by
 have c:(Value.slice ua n uc).ownBlock=(Value.slice ua L.length uc).ownBlock:=by cases ua<;>rfl
 have d:=a.rest 4 (J ua n uc);refine⟨a.lc.set4 _,d.1,a.hD,a.ow,a.fi,d.2.1,jU (zxz a.rl g) (fun b=>?_) _,fun e e1 f=>a.ne e e1 (by rw[<- c];exact f)⟩;rw[c]at b;have h:D+1<=D:=(a.rl.lt _ b).1;omega
end
def RSR (w0:Zw) (D:Nat) (own:FV) (fs:List FV) (fv lv:Zv) (L:List Loc) (p0 p1 p2 p3 p4 p5:Zv) (fc fa:Int) (w:Zw) (r:Res (List Loc × Int)) (e:Ending) (w':Zw):Prop:=e=.returned (.tuple #[])/\∃a,FrU D lv a w w'/\match r with
 | .bad c b=>∃d f,L.length<=d.length/\LK w0 w' D own fs fv a d f p0 p1 p2 p3 p4 p5 c b H
 | .ok q=>LK w0 w' D own fs fv a q.1 q.2 p0 p1 p2 p3 p4 p5 fc fa X
section
variable (E:Env) (p:Pr) (w0:Zw) (D:Nat) (own:FV) (fs:List FV) (fv:Zv) (p0 p1 p2 p3:Zv) (fc fa:Int)
def fG (t:Tree):Prop:=∀(ctx deep:Int) (last:Bool) (L:List Loc) (lv v:Zv) (w:Zw) (at_:Int),Lies (·<w0.heap.size) w0 t v->qN L->L.length<=20->1<=deep->deep<=at_->LK w0 w D own fs fv lv L at_ p0 p1 p2 p3 (Y p.gives) (U O p.given) fc fa X->at_+kC t<=1000000 ->
 Calls prog 92 #[Zp (Z (A D 0 F)),v,U O ctx,U O deep,Y last] w (RSR w0 D own fs fv lv L p0 p1 p2 p3 (Y p.gives) (U O p.given) fc fa w (stF E p ctx deep last t L at_))
def cC (t:Tree):Prop:=∀(ctx deep:Int) (L:List Loc) (lv v:Zv) (w:Zw) (at_:Int),Lies (·<w0.heap.size) w0 t v->qN L->L.length<=20->1<=deep->deep<=at_+1->LK w0 w D own fs fv lv L at_ p0 p1 p2 p3 (Y p.gives) (U O p.given) fc fa X->0<=at_->at_+kC t<=1000000 ->
 Calls prog 67 #[Zp (Z (A D 0 F)),v,U O ctx,U O deep] w (RSR w0 D own fs fv lv L p0 p1 p2 p3 (Y p.gives) (U O p.given) fc fa w (blF E p ctx deep t L at_))
end
theorem RSR.mk {w0:Zw} {D:Nat} {own:FV} {fs:List FV} {fv lv f:Zv} {L:List Loc} {p0 p1 p2 p3 p4 p5:Zv} {fc fa:Int} {w w':Zw} {r:Res (List Loc × Int)} {a:List Loc} {b c d:Int} {st:Bool} (h:FrU D lv f w w') (g:LK w0 w' D own fs fv f a b p0 p1 p2 p3 p4 p5 c d st) (e:match st with | true=>L.length<=a.length/\r=.bad c d | false=>c=fc/\d=fa/\r=.ok (a,b)):RSR w0 D own fs fv lv L p0 p1 p2 p3 p4 p5 fc fa w r (.returned (.tuple #[])) w':=by
 refine⟨rfl,f,h,?_⟩
 cases st with
 | true=>rw[e.2];exact⟨a,b,e.1,g⟩
 | false=>obtain⟨rfl,rfl,rfl⟩:=e;exact g
def KB (E:Env) (p:Pr) (ctx deep:Int) (ks:List Tree) (R:Res (List Loc × Int)) (a0 fc fa:Int) (j:Nat) (a:List Loc) (d c b:Int):Bool->Prop
 | true=>R=.bad c b
 | false=>c=fc/\b=fa/\d=a0+kA (ks.take j)/\a.length<=20/\qN a/\R=qP E p ctx deep (ks.drop j) a d
theorem zjd (E:Env) (p:Pr) (ctx deep:Int) (ks:List Tree) (j:Nat) (e:j<ks.length) (L:List Loc) (a:Int):qP E p ctx deep (ks.drop j) L a=match stF E p ctx deep (decide (deep=1)&&decide (j+1=ks.length)) ks[j] L a with
  | .bad c b=>.bad c b
  | .ok q=>qP E p ctx deep (ks.drop (j+1)) q.1 q.2:=by
 rw[List.drop_eq_getElem_cons e]
 have d:(ks.drop (j+1)).isEmpty=decide (j+1=ks.length):=by
  rw[Bool.eq_iff_iff,List.isEmpty_iff,List.drop_eq_nil_iff,decide_eq_true_iff];omega
 rw[<- d];simp only[qP]<;>rfl
def knd:Tree->Int
 | .node k _ _ _=>k
def txt:Tree->ByteArray
 | .node _ x _ _=>x
def itT (E:Env) (L:List Loc) (ctx:Int):Tree->Int->Res (Int × Int)
 | .node _ x _ [e],a=>match exF E L ctx X e (a+1)with
  | .bad c b=>.bad c b
  | .ok q=>match zP E L x with
   | none=>.bad 4 a
   | some v=>if 0<v.2 then .ok q else .bad 3 a
 | _,a=>.bad 0 0
def kdF (E:Env) (L:List Loc) (ctx:Int) (pl al:Bool):Bool->List Tree->Int->Int->Int->Res (Int × Int × Int)
 | _,[],ix,vx,a=>.ok (ix,vx,a)
 | f,t :: r,ix,vx,a=>if f=H/\pl=H/\knd t=17 then match itT E L ctx t a with
   | .bad c b=>.bad c b
   | .ok q=>kdF E L ctx pl al X r q.1 vx q.2
  else match exF E L ctx al t a with
   | .bad c b=>.bad c b
   | .ok q=>kdF E L ctx pl al X r ix (if f=H/\pl=H then vx else q.1) q.2
section
variable {E:Env} {L:List Loc} (ctx:Int)
variable {d:Tree}
theorem zih (pl al e:Bool) (d:Tree) (r:List Tree) (ix vx a:Int) (f:e=H/\pl=H/\knd d=17):kdF E L ctx pl al e (d :: r) ix vx a=match itT E L ctx d a with
   | .bad c b=>.bad c b
   | .ok q=>kdF E L ctx pl al X r q.1 vx q.2:=by
 rw[kdF.eq_def];dsimp only;rw[jv f]
theorem zej (pl al d:Bool) (e:Tree) (r:List Tree) (ix vx a:Int) (f:¬(d=H/\pl=H/\knd e=17)):kdF E L ctx pl al d (e :: r) ix vx a=match exF E L ctx al e a with
   | .bad c b=>.bad c b
   | .ok q=>kdF E L ctx pl al X r ix (if d=H/\pl=H then vx else q.1) q.2:=by
 rw[kdF.eq_def];dsimp only;rw[ju f]
theorem zbq (al:Bool) (b:Tree) (d:Bool) (ix vx a:Int) (pl:Bool) (g:¬(d=H/\pl=H)):kdF E L ctx pl al d [b] ix vx a=match exF E L ctx al b a with
   | .bad c f=>.bad c f
   | .ok e=>.ok (ix,e.1,e.2):=by
 rw[zej ctx pl al d b [] ix vx a (fun h=>g ⟨h.1,h.2.1⟩)]
 cases exF E L ctx al b a with
 | bad c f=>rfl
 | ok e=>dsimp only;rw[ju g];rfl
theorem zqh (i:yY E) (j:qN L) (r:List Tree) (vx a:Int) (o:PlT d):kdF E L ctx H X H (d :: r) 0 vx a=match plF E L ctx d a with
   | .bad c f=>.bad c f
   | .ok e=>kdF E L ctx H X X r e.2.1 vx e.2.2:=by
 cases o with
 | nam p =>
  rename_i x;rw[zej ctx H X H _ r 0 vx a (fun b=>by have:=b.2.2;simp[knd]at this)];have g:exL E L ctx [] (a+1)=.ok ([],a+1):=by simp only[exL]
  rw[zbp (alone:=X) (k:=16) (x:=x) (m:=0) g];simp only[plF,g];unfold zS;rw[jv rfl]
  cases zP E L x with
  | none=>rfl
  | some v =>
   dsimp only;by_cases b:v.2=0;·rw[jv b];rfl
   ·rw[ju b]
 | item p q =>
  rename_i x h;rw[zih ctx H X H _ r 0 vx a ⟨rfl,rfl,rfl⟩];simp only[plF,itT,fD]
  cases l:exF E L ctx X h (a+1)with
  | bad c f=>rfl
  | ok e =>
   have n:=dB i j l;dsimp only;unfold zS;rw[ju oC,jv rfl]
   cases zP E L x with
   | none=>rfl
   | some v =>
    dsimp only;by_cases b:0<v.2;·rw[jv b,jv b];show _=kdF E L ctx H X X r (jn 0 e.1) vx e.2;rw[jn0 n]
    ·rw[ju b,ju b]
variable (p:Pr) (deep a m:Int) (last:Bool) (x:ByteArray)
def t7 (L:List Loc) (x:ByteArray) (m ctx deep a:Int) (q:Int × Int × Int):Res (List Loc × Int):=if(!L.any (fun l=>l.deep==deep&&eqS l.name x))=X then .bad 5 a else if decide (L.length<20)=X then .bad 1 a else if(m==1||!hi q.2.1 ctx 0)=X then .bad 7 a else .ok (L++[⟨x,m,deep⟩],q.2.2)
def t8 (L:List Loc) (lb ctx a:Int) (q:Int × Int × Int):Res (List Loc × Int):=if(lb==1||!hi q.2.1 q.1 ctx)=X then .bad 7 a else .ok (L,q.2.2)
def t12 (L:List Loc) (m ctx a:Int) (q:Int × Int × Int):Res (List Loc × Int):=if(m==1||!hi q.2.1 ctx 0)=X then .bad 7 a else .ok (L,q.2.2)
def t13 (L:List Loc) (lb m ctx a:Int) (q:Int × Int × Int):Res (List Loc × Int):=if(m==1||ctx==0)=X then .bad 7 a else if(lb==1||!hi m q.1 ctx)=X then .bad 7 a else .ok (L,q.2.2)
def t14 (p:Pr) (L:List Loc) (last:Bool) (a:Int) (q:Int × Int × Int):Res (List Loc × Int):=if(last&&p.gives)=X then .bad 2 a else if(p.given==1||q.2.1==0)=X then .bad 7 a else .ok (L,q.2.2)
def uY {α β:Type} (r:Res α) (T:α->Res β):Res β:=match r with
 | .bad c b=>.bad c b
 | .ok q=>T q
def plb (E:Env) (L:List Loc) (x:ByteArray):Int:=((zP E L x).map (·.1)).getD 0
theorem zds (m:Int) (a:Bool):((m==1||!a)=X)=(m≠1/\a=H):=by cases a<;>simp
theorem yb4 (e:yY E) (f:qN L) (b:Tree):stF E p ctx deep last (.node 7 x m [b]) L a=uY (kdF E L ctx X X H [b] 0 0 (a+1)) (fun d=>t7 L x m ctx deep a d):=by
 unfold stF;rw[ju oC,zbq ctx X b H 0 0 (a+1) X oB];unfold xC;rw[jv rfl,fD]
 cases g:exF E L ctx X b (a+1)with
 | bad c i=>rfl
 | ok d =>
  have h:=dB e f g;simp only[uY,t7,zds,joinL,jn0 h,Bool.not_eq_false',decide_eq_false_iff_not,Nat.not_lt]
theorem ybl (e:yY E) (f:qN L) (b:Tree):stF E p ctx deep last (.node 12 x m [b]) L a=uY (kdF E L ctx X X H [b] 0 0 (a+1)) (fun d=>t12 L m ctx a d):=by
 unfold stF;rw[ju oC,zbq ctx X b H 0 0 (a+1) X oB];unfold xC;rw[ju oC,ju oC,ju oC,jv rfl,fD]
 cases g:exF E L ctx X b (a+1)with
 | bad c i=>rfl
 | ok d =>
  have h:=dB e f g;simp only[uY,t12,zds,joinL,jn0 h]
theorem ybn (e:yY E) (f:qN L) (b:Tree):stF E p ctx deep last (.node 14 x m [b]) L a=uY (kdF E L ctx X X H [b] 0 0 (a+1)) (fun d=>t14 p L last a d):=by
 unfold stF;rw[ju oC,zbq ctx X b H 0 0 (a+1) X oB];unfold xC;rw[ju oC,ju oC,ju oC,ju oC,ju oC,fD]
 cases g:exF E L ctx X b (a+1)with
 | bad c i=>rfl
 | ok d =>
  have h:=dB e f g;have e1:((p.given==1||d.1==0)=X)=(p.given≠1/\d.1≠0):=oB;simp only[uY,t14,joinL,jn0 h,e1]
theorem yb6 (b:Tree):stF E p ctx deep last (.node 9 x m [b]) L a=uY (kdF E L ctx X H H [b] 0 0 (a+1)) (fun c=>.ok (L,c.2.2)):=by
 unfold stF;rw[ju oC,zbq ctx H b H 0 0 (a+1) X oB];unfold xC;rw[ju oC,ju oC,jv rfl];dsimp only;cases exF E L ctx H b (a+1)<;>rfl
theorem zp1 {E:Env} {L:List Loc} {ctx:Int} {a:Int} {c:Int × Int × Int} (b:plF E L ctx d a=.ok c):c.1=plb E L (txt d):=by
 obtain⟨k,x,m,ks⟩:=d;simp only[plF]at b;split at b;·cases b
 ·split at b;·cases b
  ·cases b;rfl
theorem ybm (e:yY E) (f:qN L) (h:PlT d):stF E p ctx deep last (.node 13 x m [d]) L a=uY (kdF E L ctx H X H [d] 0 0 (a+1)) (fun b=>t13 L (plb E L (txt d)) m ctx a b):=by
 unfold stF;rw[ju oC,zqh ctx e f [] 0 (a+1) h];unfold xC;rw[ju oC,ju oC,ju oC,ju oC,jv rfl];dsimp only
 cases g:plF E L ctx d (a+1)with
 | bad c j=>rfl
 | ok b =>
  have i:=zp1 g;have e1:((m==1||ctx==0)=X)=(m≠1/\ctx≠0):=oB;simp only[uY,kdF,t13,zds,e1,i]
theorem yb5 (g:yY E) (h:qN L) (j:PlT d) (b:Tree):stF E p ctx deep last (.node 8 x m [d,b]) L a=uY (kdF E L ctx H X H [d,b] 0 0 (a+1)) (fun e=>t8 L (plb E L (txt d)) ctx a e):=by
 unfold stF;rw[ju oC,zqh ctx g h [b] 0 (a+1) j];unfold xC;rw[ju oC,jv rfl];dsimp only
 cases i:plF E L ctx d (a+1)with
 | bad c f=>rfl
 | ok e =>
  have k:=zp1 i;dsimp only;rw[zbq ctx X b X e.2.1 0 e.2.2 H oB]
  cases exF E L ctx X b e.2.2 with
  | bad c f=>rfl
  | ok l =>
   simp only[uY,t8,zds,k]
end
theorem XR.uni {w0 w':Zw} {D:Nat} {own:FV} {fs:List FV} {fv lv:Zv} {L:List Loc} {p0 p1 p2 p3 p4 p5:Zv} {fc fa:Int} {r:Res (Int × Int)} {f:Ending} (e:XR w0 D own fs fv lv L p0 p1 p2 p3 p4 p5 fc fa r f w'):∃(d a c b:Int) (st:Bool),f=.returned (U O d)/\LK w0 w' D own fs fv lv L a p0 p1 p2 p3 p4 p5 c b st/\KU fc fa c b r (.ok (d,a)) st:=by
 cases r with
 | bad c b=>obtain⟨d,a,i,h⟩:=e;exact⟨d,a,c,b,H,i,h,rfl⟩
 | ok g=>exact⟨g.1,g.2,fc,fa,X,e.1,e.2,rfl,rfl,rfl⟩
def zby (pl:Bool) (j:Nat) (t:Tree):Prop:=¬(j=0/\pl=H/\knd t=17)
def KD (E:Env) (L:List Loc) (ctx:Int) (pl al:Bool) (ks:List Tree) (R:Res (Int × Int × Int)) (a0 fc fa:Int) (j:Nat) (ix vx a c b:Int):Bool->Prop
 | true=>R=.bad c b
 | false=>c=fc/\b=fa/\a=a0+kA (ks.take j)/\R=kdF E L ctx pl al (j==0) (ks.drop j) ix vx a
section
variable {E:Env} {L:List Loc} {ctx:Int} {pl al:Bool} {ks:List Tree} {R:Res (Int × Int × Int)} {a0 fc fa:Int} {j:Nat} {ix vx:Int}
theorem KD.ex (f:j<ks.length) (a:R=kdF E L ctx pl al (j==0) (ks.drop j) ix vx (a0+kA (ks.take j))) (g:zby pl j ks[j]) {i b c d:Int} {st:Bool} (h:KU fc fa c d (exF E L ctx al ks[j] (a0+kA (ks.take j))) (.ok (i,b)) st) {v':Int} (l:v'=if j=0/\pl=H then vx else i):KD E L ctx pl al ks R a0 fc fa (j+1) ix v' b c d st:=by
 rw[List.drop_eq_getElem_cons f,zej ctx pl al _ _ _ _ _ _ (by unfold zby at g;simpa using g)]at a
 cases st with
 | true=>rw[show exF E L ctx al ks[j] (a0+kA (ks.take j))=_ from h]at a;exact a
 | false =>
  obtain⟨rfl,rfl,e⟩:=h;have k:=uI E L ctx _ _ _ _ e;have m:=xE ks j f;rw[e]at a;refine⟨rfl,rfl,by show b=_;have:b=_:=k;omega,?_⟩;rw[a,l];simp
theorem KD.it (l:j<ks.length) (e:R=kdF E L ctx pl al (j==0) (ks.drop j) ix vx (a0+kA (ks.take j))) (m:j=0/\pl=H) {x:ByteArray} {d:Tree} (i:ks[j]=.node 17 x 0 [d]) {k f c b:Int} {st:Bool} (g:KU fc fa c b (match exF E L ctx X d (a0+kA (ks.take j)+1)with
  | .bad c b=>.bad c b
  | .ok h=>match zP E L x with
   | none=>.bad 4 (a0+kA (ks.take j))
   | some v=>if 0<v.2 then .ok h else .bad 3 (a0+kA (ks.take j))) (.ok (k,f)) st):KD E L ctx pl al ks R a0 fc fa (j+1) k vx f c b st:=by
 rw[List.drop_eq_getElem_cons l,zih ctx pl al _ _ _ _ _ _ (by rw[i];exact⟨by simp[m.1],m.2,rfl⟩),i]at e
 have n:itT E L ctx (.node 17 x 0 [d]) (a0+kA (ks.take j))=match exF E L ctx X d (a0+kA (ks.take j)+1)with
  | .bad c b=>.bad c b
  | .ok h=>match zP E L x with
   | none=>.bad 4 (a0+kA (ks.take j))
   | some v=>if 0<v.2 then .ok h else .bad 3 (a0+kA (ks.take j)):=rfl
 replace g:KU fc fa c b (itT E L ctx (.node 17 x 0 [d]) (a0+kA (ks.take j))) (.ok (k,f)) st:=g
 cases st with
 | true=>rw[show itT E L ctx _ _=_ from g]at e;exact e
 | false =>
  obtain⟨rfl,rfl,a⟩:=g;have r:=xE ks j l
  have q:f=a0+kA (ks.take j)+1+kC d:=by
   rw[n]at a;split at a;·cases a
   ·rename_i h p;have o:=uI E L ctx _ _ _ _ p;split at a;·cases a
    ·split at a;·cases a;exact o
     ·cases a
  have s:kC ks[j]=1+kC d:=by rw[i,qT,vC];omega
  rw[a]at e;refine⟨rfl,rfl,oA,?_⟩;rw[e];simp
def ybs (E:Env) (L:List Loc) (ctx:Int) (al:Bool) (ks:List Tree) (R:Res (Int × Int × Int)) (a0 fc fa vx:Int) (x:ByteArray) (e:Tree):Prop:=∀(l a c b:Int) (st:Bool),KU fc fa c b (itT E L ctx (.node 17 x 0 [e]) (a0+kA (ks.take 0))) (.ok (l,a)) st->KD E L ctx H al ks R a0 fc fa 1 l vx a c b st
theorem KU.item {x:ByteArray} {b:Tree} {a A2 g d c e:Int} {st:Bool} (f:KU fc fa c e (exF E L ctx X b (a+1)) (.ok (g,d)) st) (h:st=X->A2=a):KU fc fa c e (itT E L ctx (.node 17 x 0 [b]) a) (match zP E L x with
   | none=>.bad 4 A2
   | some v=>if 0<v.2 then .ok (g,d)else .bad 3 A2) st:=by
 cases st with
 | true =>
  show itT E L ctx _ _=_;unfold itT;dsimp only
  rw[show exF E L ctx X b (a+1)=_ from f]
 | false =>
  obtain⟨rfl,rfl,i⟩:=f;refine⟨rfl,rfl,?_⟩;unfold itT;dsimp only;rw[i,h rfl]
  all_goals rfl
end
section
variable {w0 w w':Zw} {D:Nat} {own:FV} {fs:List FV} {fv lv:Zv} {L:List Loc} {at_:Int} {p0 p1 p2 p3 p4 p5:Zv} {fc fa:Int} {st:Bool}
theorem zz7 {α:Type} (k:Int) (x:ByteArray) (m:Int) (d:Option Addr) (f e:Nat) (a c g:Int) (w:Zw) (a8:kT x) (h:LK w0 w D own fs fv lv L at_ p0 p1 p2 p3 p4 p5 c g st) (a6:fs.length<=1000) (a3:L.length<=1000) {R rest:Res α} (l:KU fc fa c g R (match zP ⟨own.1,fs.map (·.1)⟩ L x with
   | none=>.bad 4 a
   | some v=>if 0<v.2 then rest else .bad 3 a) st) :
  Calls prog 115 #[Zp (Z (A D 0 F)),Za #[U O k,I x,U O m,J d f e],U O a] w fun b w'=>b=.returned (.tuple #[])/\Fr D w w'/\∃(o:Bool) (s r:Int),(o=X->st=X)/\LK w0 w' D own fs fv lv L at_ p0 p1 p2 p3 p4 p5 s r o/\Hid (KU fc fa s r R rest o):=by
 have ae:=kc25;have y:=za0 x (w.alloc (Zc #[U O k,I x,U O m,J d f e] 25)) a8 (h.alloc _) a6 a3;have i:Below w.heap.size w (w.alloc (Zc #[U O k,I x,U O m,J d f e] 25)):=bal _;have t:=h.alloc (Zc #[U O k,I x,U O m,J d f e] 25);generalize zP ⟨own.1,fs.map (·.1)⟩ L x=P at *
 have z:Calls prog 132 #[Zp (Z (A D 0 F)),I x] (w.alloc (Zc #[U O k,I x,U O m,J d f e] 25)) fun b w'=>(∃(E p:Int) (ok:Bool),b=.returned (.tuple #[U O E,U O p,Y ok])/\Hid (KU fc fa c g R (if ok=X then .bad 4 a else if decide (0<p)=X then .bad 3 a else rest) st))/\Below (w.alloc (Zc #[U O k,I x,U O m,J d f e] 25)).heap.size (w.alloc (Zc #[U O k,I x,U O m,J d f e] 25)) w':=by
  refine y.mono ?_;rintro b w' ⟨rfl,a5⟩;refine⟨?_,a5⟩
  cases P with
  | none=>exact⟨0,0,X,rfl,KU.to oI l⟩
  | some n =>
   refine⟨n.1,n.2,H,rfl,KU.to ?_ l⟩;by_cases B:0<n.2;·simp[B]
   ·simp[B]
 clear y l h;go_enter func115,ntmps115;go_wp2_with (fail);refine z.mono ?_;rintro b ab ⟨⟨E,p,ok,rfl,q⟩,j⟩;have u:=t.below j;have G:Hid (Below w.heap.size w ab):=i.trans (j.mono i.size);clear z j i t;go_wp2_with (fail);refine(rU u q.out).mono ?_;rintro b af ⟨rfl,T,a9,ad,ac,C,W,K⟩;have N:Hid (a9=X->st=X):=fun b=>(C b).1
 clear C q u;go_wp2_with (fail);refine(rU W K.out).mono ?_;rintro b ag ⟨rfl,V,aa,S,Q,a7,a2,M⟩;go_wp2
 go_end0
 exact⟨rfl,((Fr.below G.out).trans T).trans V,aa,S,Q,fun b=>N.out (a7 b).1,a2,M⟩
end
theorem RSR.ofKU {w0:Zw} {D:Nat} {own:FV} {fs:List FV} {fv lv g:Zv} {L:List Loc} {p0 p1 p2 p3 p4 p5:Zv} {fc fa:Int} {w w':Zw} {r:Res (List Loc × Int)} {a:List Loc} {b d c e:Int} {st:Bool} (m:FrU D lv g w w') (h:LK w0 w' D own fs fv g a b p0 p1 p2 p3 p4 p5 c e st) (n:L.length<=a.length) (l:st=X->b=d) (f:KU fc fa c e r (.ok (a,d)) st):RSR w0 D own fs fv lv L p0 p1 p2 p3 p4 p5 fc fa w r (.returned (.tuple #[])) w':=by
 refine RSR.mk m h ?_
 cases st with
 | true=>exact⟨n,f⟩
 | false=>obtain⟨i,j,k⟩:=f;exact⟨i,j,by rw[k,l rfl]⟩
theorem RSR.from {w0:Zw} {D:Nat} {own:FV} {fs:List FV} {fv lv:Zv} {L:List Loc} {p0 p1 p2 p3 p4 p5:Zv} {fc fa:Int} {w b w':Zw} {r:Res (List Loc × Int)} {a:Ending} (e:Fr D w b) (c:RSR w0 D own fs fv lv L p0 p1 p2 p3 p4 p5 fc fa b r a w'):RSR w0 D own fs fv lv L p0 p1 p2 p3 p4 p5 fc fa w r a w':=by
 obtain⟨d,h,f,g⟩:=c;exact⟨d,h,(FrU.of e lv).trans f,g⟩
end chk
namespace chk
open Go.RowKit
open syn face cut
open ord (tkd uP)
section
variable {w0 w:Zw} {D n:Nat} {own:FV} {fs:List FV} {fv lv:Zv} {L:List Loc} {p0 p1 p2 p3 p4 p5:Zv} {fc fa ctx at_:Int} {E:Env} {pl:Bool} {k:Int} {x:ByteArray} {m:Int} {ks:List Tree} {a:Option Addr} {c:Nat} {R:Res (Int × Int × Int)}
theorem zhb (aK:fs.length<=1000) (aI:L.length<=1000) (ax:E=⟨own.1,fs.map (·.1)⟩) (ac:∀ai∈ks,ExT ai) (bm:ks≠[]->∃g o,a=Z (A g o F)/\g<w0.heap.size/\kQ (·<w0.heap.size) w0 ks g o) (z:Q4 n (U O k) (I x) (U O m) (J a ks.length c) w) (h:LK w0 w D own fs fv lv L (at_+1) p0 p1 p2 p3 p4 p5 fc fa X) (aZ:0<=at_) (b6:at_+1+kA ks<=1000000) (mW:D<n) (cc:kdF E L ctx pl (k==9) H ks 0 0 (at_+1)=R) {cn gv hJ hU ik iz iJ co cp cq cr l7 l8 l9 e3 ee eq eE eP f3 fh fu g5 gh gw h6 hk hv hD hE hF hG hH hI hK hL hM hN hO hP hQ hR hS hT hV hW hX hY hZ i1 i3 i4 i5 i6 i7 i8 i9 ia ib ic ie ig ii ij il im io ip iq ir iu iv iw iy iC iD iE iF iG iH iI lb lg lh li lj lk ll lm ln lo lq lr lu j0 j1 j2 j3 j4 j5 j6 j7 j8 j9 ja jc jk jm jx jV jW jX jY jZ k0 k2 k3 k4 k5 k6 k7 k9 ka kb kc kd ke kf kg kh ki kj kk kl km kn ko kp kq kr kt ku kw kx ky kz l0 l1 l3 l4 l5 l6 ct cu cv cw cx cy cz cA cB d0 d1 d2 d3 d4 d5 d6 da db dc dd de df dh di dj dk dl dm dn dp dq dr ds dt du dw dx dy dz dZ e0 e2 e4 e5 e6 e7 e8 e9 ea eb ec ed ef eg eh ei ej ek em en eo ep er eu ev ew ey ez eA eB eC eD eF eG eH eI eJ eK eL eM eN eO eQ eR eS eT eU eV eW eX eY eZ f4 f5 f6 f7 f8 f9 fb fe ff fg fi fj fk fl fm fn fo fp fq ft fw fx fy fX fY g0 g1 g2 g3 g4 g6 g7 g8 g9 ga gb gd ge gf gg gi gj gl gm gn gp gq gr gs gu gx gy gz gP h0 h1 h2 h3 h4 h5 h7 h8 h9 ha hc he hf hg hh hj hl hm hn ho hp hq hr hs ht hu hw hz hC:Zv} {aT:Exit->Act->Zw->Prop} (cb:∀c ai mM bS w,aT (.panic c) ⟨ai,bS⟩ w->aT (.panic c) ⟨mM,bS⟩ w) (cj:∀(mw mx my mz mA mB mC mD mE mF mG mH mI mJ mK mL lw lx ly lz lA lB lC lD lE lF lG lH lI lJ lK lL lM lN lO lP lQ lR lS lT lU lV lW lX lY lZ m0 m1 m2 m3 m4 m5 m6 m7 m8 m9 ma mb mc md me mf mg mh mi mj ml mm mn mo mp mq mr mt:Zv) (ix vx y r q:Int) (T:Bool) (a7:Zw),Fr D w a7->Q4 n (U O k) (I x) (U O m) (J a ks.length c) a7->LK w0 a7 D own fs fv lv L y p0 p1 p2 p3 p4 p5 r q T->KU fc fa r q R (.ok (ix,vx,y)) T->Code.wp prog (xH 24 f92) aT ⟨#[Zp (Z (A D 0 F)),cn,U O ctx,gv,hJ,hU,Zp (Z (A n 0 F)),ik,iz,iJ,co,cp,cq,cr,U O ix,U O vx,Y pl,mw,mx,my,e3,ee,eq,eE,eP,f3,fh,fu,g5,gh,gw,h6,hk,hv,hD,hE,hF,hG,hH,hI,hK,hL,hM,hN,hO,hP,hQ,hR,hS,hT,hV,hW,hX,hY,hZ,i1,i3,i4,i5,i6,i7,i8,i9,ia,ib,ic,ie,ig,ii,ij,il,im,io,ip,iq,ir,iu,iv,iw,iy,iC,iD,iE,iF,iG,iH,iI,mz,mA,mB,mC,mD,mE,mF,mG,mH,mI,mJ,mK,mL,lw,lx,ly,lz,lA,lB,lC,lD,lE,lF,lG,lH,lI,lJ,lK,lL,lM,lN,lO,lP,lQ,lR,lS,lT,lU,lV,lW,lX,lY,lZ,m0,m1,m2,m3,m4,m5,m6,m7,m8,m9,ma,mb,mc,md,me,mf,mg,mh,mi,mj,ml,mm,mn,mo,mp,mq,mr,mt,ct,cu,cv,cw,cx,cy,cz,cA,cB,d0,d1,d2,d3,d4,d5,d6,da,db,dc,dd,de,df,dh,di,dj,dk,dl,dm,dn,dp,dq,dr,ds,dt,du,dw,dx,dy,dz,dZ,e0,e2,e4,e5,e6,e7,e8,e9,ea,eb,ec,ed,ef,eg,eh,ei,ej,ek,em,en,eo,ep,er,eu,ev,ew,ey,ez,eA,eB,eC,eD,eF,eG,eH,eI,eJ,eK,eL,eM,eN,eO,eQ,eR,eS,eT,eU,eV,eW,eX,eY,eZ,f4,f5,f6,f7,f8,f9,fb,fe,ff,fg,fi,fj,fk,fl,fm,fn,fo,fp,fq,ft,fw,fx,fy,fX,fY,g0,g1,g2,g3,g4,g6,g7,g8,g9,ga,gb,gd,ge,gf,gg,gi,gj,gl,gm,gn,gp,gq,gr,gs,gu,gx,gy,gz,gP,h0,h1,h2,h3,h4,h5,h7,h8,h9,ha,hc,he,hf,hg,hh,hj,hl,hm,hn,ho,hp,hq,hr,hs,ht,hu,hw,hz,hC],[]⟩ a7) : Code.wp prog (xH 13 f92) aT ⟨#[Zp (Z (A D 0 F)),cn,U O ctx,gv,hJ,hU,Zp (Z (A n 0 F)),ik,iz,iJ,co,cp,cq,cr,U O 0,U O 0,Y pl,l7,l8,l9,e3,ee,eq,eE,eP,f3,fh,fu,g5,gh,gw,h6,hk,hv,hD,hE,hF,hG,hH,hI,hK,hL,hM,hN,hO,hP,hQ,hR,hS,hT,hV,hW,hX,hY,hZ,i1,i3,i4,i5,i6,i7,i8,i9,ia,ib,ic,ie,ig,ii,ij,il,im,io,ip,iq,ir,iu,iv,iw,iy,iC,iD,iE,iF,iG,iH,iI,lb,lg,lh,li,lj,lk,ll,lm,ln,lo,lq,lr,lu,j0,j1,j2,j3,j4,j5,j6,j7,j8,j9,ja,jc,jk,jm,jx,jV,jW,jX,jY,jZ,k0,k2,k3,k4,k5,k6,k7,k9,ka,kb,kc,kd,ke,kf,kg,kh,ki,kj,kk,kl,km,kn,ko,kp,kq,kr,kt,ku,kw,kx,ky,kz,l0,l1,l3,l4,l5,l6,ct,cu,cv,cw,cx,cy,cz,cA,cB,d0,d1,d2,d3,d4,d5,d6,da,db,dc,dd,de,df,dh,di,dj,dk,dl,dm,dn,dp,dq,dr,ds,dt,du,dw,dx,dy,dz,dZ,e0,e2,e4,e5,e6,e7,e8,e9,ea,eb,ec,ed,ef,eg,eh,ei,ej,ek,em,en,eo,ep,er,eu,ev,ew,ey,ez,eA,eB,eC,eD,eF,eG,eH,eI,eJ,eK,eL,eM,eN,eO,eQ,eR,eS,eT,eU,eV,eW,eX,eY,eZ,f4,f5,f6,f7,f8,f9,fb,fe,ff,fg,fi,fj,fk,fl,fm,fn,fo,fp,fq,ft,fw,fx,fy,fX,fY,g0,g1,g2,g3,g4,g6,g7,g8,g9,ga,gb,gd,ge,gf,gg,gi,gj,gl,gm,gn,gp,gq,gr,gs,gu,gx,gy,gz,gP,h0,h1,h2,h3,h4,h5,h7,h8,h9,ha,hc,he,hf,hg,hh,hj,hl,hm,hn,ho,hp,hq,hr,hs,ht,hu,hw,hz,hC],[]⟩ w:=by
 have mQ:=kc25;have bG:Hid _:=cj;have HP:Hid _:=cb;clear cb;have bF:Hid _:=cc;have iW:=vQ ks;have mV:(ks.length:Int)<=1000000:=oA;clear cj cc iW
 conv=>arg 2;whnf
 dsimp only
 go_step
 go_cut [14,15,17] from 87 to 157 (fun bp bw _ wr=>∃(ix vx y r q:Int) (T:Bool),bp=U O ix/\bw=U O vx/\Fr D w wr/\Q4 n (U O k) (I x) (U O m) (J a ks.length c) wr/\LK w0 wr D own fs fv lv L y p0 p1 p2 p3 p4 p5 r q T/\Hid (KU fc fa r q R (.ok (ix,vx,y)) T))
 case first =>
  clear bG;go_wp2;go_loopw [14,15,17] (fun bp bw ai wr=>∃(j:Nat) (ix vx y r q:Int) (T:Bool),j<=ks.length/\ai=U O j/\bp=U O ix/\bw=U O vx/\Fr D w wr/\Q4 n (U O k) (I x) (U O m) (J a ks.length c) wr/\LK w0 wr D own fs fv lv L y p0 p1 p2 p3 p4 p5 r q T/\Hid (KD E L ctx pl (k==9) ks R (at_+1) fc fa j ix vx y r q T)) (fun _ _ ai _=>ks.length - (intOf ai).toNat)
  case atStart=>exact⟨0,0,0,at_+1,fc,fa,X,jz _,rfl,rfl,rfl,Fr.refl _ _,z,h,rfl,rfl,by simp[kA],by rw[List.drop_zero];exact bF.out.symm⟩
  case round =>
   clear z h;obtain⟨j,ix,vx,y,r,q,T,mS,rfl,rfl,rfl,C,z,h,ak⟩:=hrel;obtain⟨ba,br,bu,bv⟩:=id z;have bq:=h.lc.c14
   cases T with
   | true =>
    clear bm ac;by_cases K:j<ks.length
    ·go_wp2
     go_meet
     case rel=>exact⟨ix,vx,y,r,q,H,rfl,rfl,C,z,h,ak⟩
    ·go_wp2
     go_meet
     case rel=>exact⟨ix,vx,y,r,q,H,rfl,rfl,C,z,h,ak⟩
   | false =>
    obtain⟨rfl,rfl,rfl,cd⟩:=ak.out;have ao:Hid (R=kdF E L ctx pl (k==9) (j==0) (ks.drop j) ix vx (at_+1+kA (ks.take j))):=cd;clear ak cd bF;by_cases K:j<ks.length
    ·obtain⟨g,o,rfl,aL,ce⟩:=bm (by intro a9;rw[a9]at K;simp at K);obtain⟨mN,⟨n2,x1,na,nc,rfl,bN,bP,bR,aF⟩,ae⟩:=ce.get j K;have bo:=ae;obtain⟨t,b,v,u,a6⟩:∃t b v u,ks[j]=Tree.node t b v u:=by cases ks[j];exact⟨_,_,_,_,rfl⟩
     rw[a6]at bo;unfold Lies at bo;obtain⟨M,f,ab,iV,aM⟩:=bo;injection ab with ab;simp only[Array.mk.injEq,jq,and_true]at ab;obtain⟨rfl,rfl,rfl,rfl⟩:=ab;have aP:=(h.bs.cell (p:=(A g (o+j*4) F)) aL).trans bN;have k1:=(h.bs.cell (p:=(A g (o+j*4+1) F)) aL).trans bP;have aQ:=(h.bs.cell (p:=(A g (o+j*4+2) F)) aL).trans bR;have aR:=(h.bs.cell (p:=(A g (o+j*4+3) F)) aL).trans aF;have b7:=xE ks j K;have b8:=xY ks (j+1);have aB:=qU ks[j];have b9:=kR (ks.take j);clear bN bP bR aF ce bm;by_cases aA:j=0/\pl=H/\knd ks[j]=17
     ·obtain⟨rfl,rfl,bn⟩:=aA;rw[a6]at bn;obtain rfl:t=17:=bn;simp only[Nat.zero_mul,Nat.add_zero]at aP k1 aQ aR
      have b2:kT b/\v=0/\∃et,u=[et]/\ExT et:=by
       have:=ac _ (jH K);rw[a6]at this
       cases this with
       | item c7 c8=>exact⟨c7,rfl,_,rfl,c8⟩
      obtain⟨b2,rfl,et,rfl,ck⟩:=b2;obtain⟨d,e,rfl,az,cf⟩:=aM oB;obtain⟨mN,⟨nf,ng,nh,ni,rfl,ar,au,av,aw⟩,aN⟩:=cf.get 0 oB;obtain⟨aW,ex,aX,_,ab,aU,aY,aV,rfl⟩:=aN.shape;injection ab with ab;simp only[Array.mk.injEq,jq,and_true]at ab;obtain⟨rfl,rfl,rfl,rfl⟩:=ab;simp only[Nat.zero_mul,Nat.add_zero,jI]at ar au av aw aN;have iU:kC ks[0]=1+kC et:=by rw[a6,qT,vC];omega
      have ci:=qU et;have G:=(h.alloc (Zc #[U O 17,I b,U O 0,J (Z (A d e F)) 1 f] 25)).setAt (at_+1+kA (ks.take 0)+1);have ca:=h.lc.lt;have s:=zaf aK aI et (Za #[U O aW,I ex,U O aX,J aU aY aV]) _ ctx _ X ck aN G oA oA;rw[<- ax]at s;have mX:=jR wr (A n 0 F) ba;have N:Q4 n (U O k) (I x) (U O m) (J (Z (A g o F)) ks.length c) ((wr.alloc (Zc #[U O 17,I b,U O 0,J (Z (A d e F)) 1 f] 25)).setCell (A D 5 F) (U O (at_+1+kA (ks.take 0)+1))):=Q4.other oA (Q4.alloc z _) _ _;have V:=(C.alloc (Zc #[U O 17,I b,U O 0,J (Z (A d e F)) 1 f] 25)).set 5 (U O (at_+1+kA (ks.take 0)+1));have b0:Q4 wr.heap.size (U O 17) (I b) (U O 0) (J (Z (A d e F)) 1 f) ((wr.alloc (Zc #[U O 17,I b,U O 0,J (Z (A d e F)) 1 f] 25)).setCell (A D 5 F) (U O (at_+1+kA (ks.take 0)+1))):=Q4.other oA ⟨oB,oB,oB,oB⟩ _ _;have cm:=(h.alloc (Zc #[U O 17,I b,U O 0,J (Z (A d e F)) 1 f] 25)).lc.c5;have iZ:=(h.alloc (Zc #[U O 17,I b,U O 0,J (Z (A d e F)) 1 f] 25)).lc.fz 5;have f0:=(G.bs.cell (p:=(A d e F)) az).trans ar;have f1:=(G.bs.cell (p:=(A d (e+1) F)) az).trans au;have bc:=(G.bs.cell (p:=(A d (e+2) F)) az).trans av;have be:=(G.bs.cell (p:=(A d (e+3) F)) az).trans aw;have iS:at_+1+kA (ks.take 0)<=1000000:=oA;have iR:0<=at_+1+kA (ks.take 0):=oA;have iM:Hid (w0.cell? (A d e F)=Z (U O aW)/\w0.cell? (A d (e+1) F)=Z (I ex)/\w0.cell? (A d (e+2) F)=Z (U O aX)/\w0.cell? (A d (e+3) F)=Z (J aU aY aV)):=⟨ar,au,av,aw⟩
      have aS:Hid (d<w0.heap.size):=az;have iO:Hid (Lies (·<w0.heap.size) w0 et (Za #[U O aW,I ex,U O aX,J aU aY aV])):=aN
      have bz:Hid (kC et<=1000000):=(by show _<=_;omega)
      have iN:ybs E L ctx (k==9) ks R (at_+1) r q vx b et:=fun n0 y c mP st aG=>KD.it K ao.out ⟨rfl,rfl⟩ a6 aG
      obtain⟨aj,bf⟩:∃aj,at_+1+kA (ks.take 0)=aj:=⟨_,rfl⟩
      rw[bf]at G s N V b0 cm f0 f1 bc be iR iS;have iL:Hid (at_+1+kA (ks.take 0)=aj):=bf;rw[World.setCell_alloc_past (hn:=ca)]at G s N V b0 f0 f1 bc be;clear bf;have iQ:kT b:=b2;have iP:Hid (0<kC et):=ci;have bE:Hid (D<wr.heap.size):=ca;clear h C ae aM a6 b7 b8 aB b9 ac b6 aZ z iU ci aN cf ck iV ao aL az ar au av aw b2;go_wp2_with (fail);refine s.mono ?_;rintro a9 aC ⟨a5,B⟩;obtain⟨af,i,a8,b1,ad,rfl,a2,a3⟩:=a5.uni
      have cg:ad=X->wrap64 (wrap64 (i - 1) - kC et)=aj:=fun iY=>by
       subst iY;have c7:i=aj+1+kC et:=uI E L ctx _ _ _ _ a3.2.2;have c8:=bz.out;have mR:=iP.out;unfold wrap64;omega
      have an:=KU.item (x:=b) (A2:=wrap64 (wrap64 (i - 1) - kC et)) a3 cg;rw[ax]at an;generalize aJ:itT ⟨own.1,fs.map (·.1)⟩ L ctx (.node 17 b 0 [et]) aj=mO at an
      rw[<- ax]at aJ;replace aJ:Hid _:=aJ;replace an:Hid _:=an;have mY:n<aC.heap.size:=jR aC (A n 0 F) (Q4.grown N B oE).1;have P:=Q4.below (Q4.grown N B oE) (Below.refl _ _).drew;have iT:=Q4.below (Q4.grown b0 B (by have:=bE.out;simp;omega)) (Below.refl _ _).drew;have aa:=(V.trans B).trans (Fr.below (Below.refl _ _).drew);replace a2:=a2.drew;clear a5 a3 cg s B N b0 V G cm iZ f0 f1 bc be ba br bu bv bq aP k1 aQ aR
      go_upto_region 20 with fail
      refine wp_region_held_drew (S:=fun W=>Q4 wr.heap.size (U O 17) (I b) (U O 0) (J (Z (A d e F)) 1 f) W/\W.cell? (A D 5 F)=Z (U O i)/\Below w0.heap.size w0 W) oD ⟨iT,a2.lc.c5,a2.bs⟩ (fun l=>?_);generalize aC.drew=W at *;refine tkw 0 (Zp (Z (A D 0 F))) l HP ?_;simp only[jA,jB,jC];refine tkw 1 (Za #[U O 17,I b,U O 0,J (Z (A d e F)) 1 f] ) l HP ?_ (hy:=Or.inl ⟨oI,fun a7 Q=>by obtain⟨⟨bX,e1,bY,bZ⟩,_⟩:=Q;go_simp⟩);simp only[jA,jB,jC];refine tkw 2 (Zp (Z (A D 0 F))) l HP ?_;simp only[jA,jB,jC];refine tkw 3 (Zp (Z (A D 0 F))) l HP ?_;simp only[jA,jB,jC];refine tkw 4 (Zp (Z (A D 5 F))) l HP ?_;simp only[jA,jB,jC];refine tkw 5 (U O i) l HP ?_ (hy:=Or.inl ⟨oI,fun a7 Q=>by have c6:=Q.2.1;go_simp⟩);simp only[jA,jB,jC];refine tkw 6 (U O (wrap64 (i - 1))) l HP ?_ (hy:=Or.inl ⟨oI,fun a7 Q=>by have c6:=IntWalk.i64_left (i - 1);go_simp⟩);simp only[jA,jB,jC];refine tkw 7 (Zp (Z (A wr.heap.size 3 F))) l HP ?_;simp only[jA,jB,jC];refine tkw 8 (J (Z (A d e F)) 1 f) l HP ?_ (hy:=Or.inl ⟨oI,fun a7 Q=>by obtain⟨⟨bX,e1,bY,bZ⟩,_⟩:=Q;go_simp⟩);simp only[jA,jB,jC];refine tkw 9 (Zp (Z (A d e F))) l HP ?_;simp only[jA,jB,jC];refine tkw 10 (Za #[U O aW,I ex,U O aX,J aU aY aV] ) l HP ?_ (hy:=Or.inl ⟨oI,fun a7 Q=>by obtain⟨ar,au,av,aw⟩:=iM.out;have bX:=(Q.2.2.cell (p:=(A d e F)) aS.out).trans ar;have e1:=(Q.2.2.cell (p:=(A d (e+1) F)) aS.out).trans au;have bY:=(Q.2.2.cell (p:=(A d (e+2) F)) aS.out).trans av;have bZ:=(Q.2.2.cell (p:=(A d (e+3) F)) aS.out).trans aw;go_simp⟩);simp only[jA,jB,jC];refine oneH 11 fun bb aH=>?_
      go_simp;go_at_call 116;refine(zwp et _ W (Lies.below iO.out l.2.2) bz.out).mono ?_;rintro a9 ap ⟨rfl,ay⟩;go_wp2;have bj:Q4 wr.heap.size (U O 17) (I b) (U O 0) (J (Z (A d e F)) 1 f) ap/\ap.cell? (A D 5 F)=Z (U O i)/\Below w0.heap.size w0 ap:=⟨l.1.below ay,keep l.2.1 ay,(a2.below ay).bs⟩
      refine aH.out _ _ bj (fun bh=>?_);replace a2:=a2.below ay;replace P:=Q4.below P ay;replace aa:=aa.trans (Fr.below ay);clear aH bb bh l;have l:=bj;clear bj;refine tkw 12 (U O (wrap64 (wrap64 (i - 1) - kC et))) l HP ?_ (hy:=Or.inl ⟨oI,fun a7 Q=>by have c6:=IntWalk.i64_left (wrap64 (i - 1) - kC et);go_simp⟩);simp only[jA,jB,jC];refine oneH 13 fun bb aH=>?_
      go_simp;go_at_call 115;refine(zz7 17 b 0 (Z (A d e F)) 1 f _ a8 b1 ap iQ a2 aK aI (rest:=.ok (af,i)) an.out).mono ?_;rintro a9 n1 ⟨rfl,bg,iK,aF,bH,aB,bi,bD⟩;go_wp2;have c9:=Q4.grown l.1 bg (by have:=bE.out;simp;omega);refine aH.out _ _ ⟨c9,bi.lc.c5,bi.bs⟩ (fun bh=>?_);have mZ:n<ap.heap.size:=jR ap (A n 0 F) P.1;replace P:=Q4.grown P bg oE;replace aa:=aa.trans bg;have am:Hid (KD E L ctx H (k==9) ks R (at_+1) r q 1 af vx i aF bH iK):=iN _ _ _ _ _ (by rw[iL.out,aJ.out];exact bD.out);clear aH bb bh l c9 a2 bD aB an aJ;refine wpAnyH_done oD ?_ _;go_wp2;go_roundw
      case rel=>exact⟨1,af,vx,i,aF,bH,iK,oA,oJ,rfl,rfl,aa,P,bi,am⟩
      case measure=>simp[intOf];omega
     ·by_cases ch:j=0
      ·subst ch;simp only[Nat.zero_mul,Nat.add_zero]at aP k1 aQ aR
       cases pl with
       | true =>
        have bn:¬t=17:=fun a9=>aA ⟨rfl,rfl,by rw[a6];exact a9⟩
        have s:=zaf aK aI ks[0] (Za #[U O t,I b,U O v,J M u.length f]) (wr.alloc (Zc #[U O t,I b,U O v,J M u.length f] 25)) ctx _ (k==9) (ac _ (jH K)) ae (h.alloc _) oA oA;rw[<- ax]at s;have N:=Q4.alloc z (Zc #[U O t,I b,U O v,J M u.length f] 25);have V:=C.alloc (Zc #[U O t,I b,U O v,J M u.length f] 25);have aE:zby H 0 ks[0]:=aA;have aD:Hid (0<ks.length):=K;clear h C ae aM a6 b7 b8 aB b9 ac b6 aZ;go_wp2_with (fail);refine s.mono ?_;rintro a9 aC ⟨a5,B⟩;obtain⟨af,i,a8,b1,ad,rfl,G,a3⟩:=a5.uni;have ah:=fun ag aO=>KD.ex (pl:=H) (al:=(k==9)) aD.out ao.out aE a3 (v':=ag) aO
        have am:Hid (KD E L ctx H (k==9) ks R (at_+1) r q (0+1) ix vx i a8 b1 ad):=ah _ oB
        exact oz19x182
       | false =>
        have s:=zaf aK aI ks[0] (Za #[U O t,I b,U O v,J M u.length f]) (wr.alloc (Zc #[U O t,I b,U O v,J M u.length f] 25)) ctx _ (k==9) (ac _ (jH K)) ae (h.alloc _) oA oA;rw[<- ax]at s;have N:=Q4.alloc z (Zc #[U O t,I b,U O v,J M u.length f] 25);have V:=C.alloc (Zc #[U O t,I b,U O v,J M u.length f] 25);have aE:zby X 0 ks[0]:=aA;have aD:Hid (0<ks.length):=K;clear h C ae aM a6 b7 b8 aB b9 ac b6 aZ;go_wp2_with (fail);refine s.mono ?_;rintro a9 aC ⟨a5,B⟩;obtain⟨af,i,a8,b1,ad,rfl,G,a3⟩:=a5.uni;have ah:=fun ag aO=>KD.ex (pl:=X) (al:=(k==9)) aD.out ao.out aE a3 (v':=ag) aO
        have am:Hid (KD E L ctx X (k==9) ks R (at_+1) r q (0+1) ix af i a8 b1 ad):=ah _ oB;exact oz19x182
      ·have mT:0<j:=oA;have mU:((j:Int)==0)=X:=oE;have s:=zaf aK aI ks[j] (Za #[U O t,I b,U O v,J M u.length f]) (wr.alloc (Zc #[U O t,I b,U O v,J M u.length f] 25)) ctx _ (k==9) (ac _ (jH K)) ae (h.alloc _) oA oA;rw[<- ax]at s;have N:=Q4.alloc z (Zc #[U O t,I b,U O v,J M u.length f] 25);have V:=C.alloc (Zc #[U O t,I b,U O v,J M u.length f] 25);have aE:zby pl j ks[j]:=aA;have aD:Hid (j<ks.length):=K;clear h C ae aM a6 b7 b8 aB b9 ac b6 aZ;go_wp2_with (fail);refine s.mono ?_;rintro a9 aC ⟨a5,B⟩;obtain⟨af,i,a8,b1,ad,rfl,G,a3⟩:=a5.uni;have ah:=fun ag aO=>KD.ex (pl:=pl) (al:=(k==9)) aD.out ao.out aE a3 (v':=ag) aO
       have am:Hid (KD E L ctx pl (k==9) ks R (at_+1) r q (j+1) ix af i a8 b1 ad):=ah _ (by rw[ju (fun aG=>ch aG.1)] );clear s a5 a3 ah;have P:=Q4.grown N B oE;have aa:=V.trans B;clear N V B z ba br bu bv bq aP k1 aQ aR;go_wp2;go_roundw
       case rel=>exact⟨j+1,ix,_,i,a8,b1,ad,oA,oJ,rfl,rfl,aa,P,G,am⟩
       case measure=>simp[intOf];omega
    ·go_wp2
     go_meet
     case rel=>exact⟨ix,vx,_,_,_,X,rfl,rfl,C,z,h,rfl,rfl,by rw[ao.out,List.drop_eq_nil_of_le oA];rfl⟩
 case rest =>
  obtain⟨ix,vx,y,r,q,T,rfl,rfl,C,P,a2,ak⟩:=hcut
  go_step
  exact bG.out _ _ _ _ _ _ _ _ _ _ _ _ _ _ _ _ _ _ _ _ _ _ _ _ _ _ _ _ _ _ _ _ _ _ _ _ _ _ _ _ _ _ _ _ _ _ _ _ _ _ _ _ _ _ _ _ _ _ _ _ _ _ _ _ _ _ _ _ _ _ _ _ _ _ ix vx y r q T _ C P a2 ak.out
end
theorem KU.bind {α β:Type} {fc fa c d:Int} {b:Res α} {R:Res β} {f:α} {T:α->Res β} {st:Bool} (a:R=uY b T) (e:KU fc fa c d b (.ok f) st):KU fc fa c d R (T f) st:=by
 cases st with
 | true=>rw[show b=_ from e]at a;exact a
 | false=>obtain⟨g,h,i⟩:=e;rw[i]at a;exact⟨g,h,a⟩
section
variable {w0 w:Zw} {D:Nat} {own:FV} {fs:List FV} {fv lv:Zv} {L:List Loc} {p0 p1 p2 p3 p4 p5:Zv} {fc fa ctx deep at_ k m:Int} {last:Bool} {x:ByteArray} {a:Option Addr} {sc:Nat} {E:Env} {ks:List Tree} {R:Res (Int × Int × Int)}
theorem bW (T:k≠10) (V:k≠11) (v:fs.length<=1000) (u:L.length<=20) (s:E=⟨own.1,fs.map (·.1)⟩) (z:∀t∈ks,ExT t) (y:ks≠[]->∃g o,a=Z (A g o F)/\g<w0.heap.size/\kQ (·<w0.heap.size) w0 ks g o) (b:LK w0 w D own fs fv lv L at_ p0 p1 p2 p3 p4 p5 fc fa X) (r:0<=at_) (B:at_+1+kA ks<=1000000) (c:kdF E L ctx (k==8||k==13) (k==9) H ks 0 0 (at_+1)=R) {Q:Ending->Zw->Prop} (P:∀(a8 h1 hq hE hP aj ay aJ bi bw bX ce cq d0 de dr e2 ed ep eD eO eZ ff fq g3 gf gj gl gm gn gp gq gr gs gu gv gw gx gy gz gP h0 h2 h3 h4 h5 h6 h7 h8 h9 ha hc he hf hg hh hj hk hl hm ho hp hr hs ht hu hv hw hy hz hC hD hF hG hH hI hJ hK hL hM hN hO hQ hR hS hT hU hV hW hX hY hZ a9 aa ab ac ad ae af ag ah ai ak am an ao ap ar au av aw ax az aA aB aC aD aE aF aG aH aI aK aL aM aN aO aP aQ aR aS aT aU aV aW aX aY aZ b0 b1 b2 b6 b7 b8 b9 ba bb bc be bf bg bh bj bm bn bo bp bq br bs bu bv bz bD bE bF bG bH bN bP bR bS bY bZ c6 c7 c8 c9 ca cb cc cd cf cg ch ci cj ck cm cn co cp cr ct cu cv cw cx cy cz cA cB d1 d2 d3 d4 d5 d6 da db dc dd df dh di dj dk dl dm dn dp dq ds dt du dw dx dy dz dZ e0 e1 e3 e4 e5 e6 e7 e8 e9 ea eb ec ee ef eg eh ei ej ek em en eo eq er eu ev ew ey ez eA eB eC eE eF eG eH eI eJ eK eL eM eN eP eQ eR eS eT eU eV eW eX eY f0 f3 f4 f5 f6 f7 f8 f9 fb fe fg fh fi fj fk fl fm fn fo fp ft fu fw fx fy fX fY g0 g1 g2 g4 g5 g6 g7 g8 g9 ga gb gd ge gg gh gi:Zv) (ix vx h j i:Int) (q:Bool) (d:Zw),Fr D w d->Q4 w.heap.size (U O k) (I x) (U O m) (J a ks.length sc) d->LK w0 d D own fs fv lv L h p0 p1 p2 p3 p4 p5 j i q->KU fc fa j i R (.ok (ix,vx,h)) q->Code.wp prog (xH 24 f92) (bodyPost prog f92 Q) ⟨#[Zp (Z (A D 0 F)),a8,U O ctx,U O deep,Y last,h1,Zp (Z (A w.heap.size 0 F)),hq,hE,hP,U O at_,aj,ay,aJ,U O ix,U O vx,bi,bw,bX,ce,cq,d0,de,dr,e2,ed,ep,eD,eO,eZ,ff,fq,g3,gf,gj,gl,gm,gn,gp,gq,gr,gs,gu,gv,gw,gx,gy,gz,gP,h0,h2,h3,h4,h5,h6,h7,h8,h9,ha,hc,he,hf,hg,hh,hj,hk,hl,hm,ho,hp,hr,hs,ht,hu,hv,hw,hy,hz,hC,hD,hF,hG,hH,hI,hJ,hK,hL,hM,hN,hO,hQ,hR,hS,hT,hU,hV,hW,hX,hY,hZ,a9,aa,ab,ac,ad,ae,af,ag,ah,ai,ak,am,an,ao,ap,ar,au,av,aw,ax,az,aA,aB,aC,aD,aE,aF,aG,aH,aI,aK,aL,aM,aN,aO,aP,aQ,aR,aS,aT,aU,aV,aW,aX,aY,aZ,b0,b1,b2,b6,b7,b8,b9,ba,bb,bc,be,bf,bg,bh,bj,bm,bn,bo,bp,bq,br,bs,bu,bv,bz,bD,bE,bF,bG,bH,bN,bP,bR,bS,bY,bZ,c6,c7,c8,c9,ca,cb,cc,cd,cf,cg,ch,ci,cj,ck,cm,cn,co,cp,cr,ct,cu,cv,cw,cx,cy,cz,cA,cB,d1,d2,d3,d4,d5,d6,da,db,dc,dd,df,dh,di,dj,dk,dl,dm,dn,dp,dq,ds,dt,du,dw,dx,dy,dz,dZ,e0,e1,e3,e4,e5,e6,e7,e8,e9,ea,eb,ec,ee,ef,eg,eh,ei,ej,ek,em,en,eo,eq,er,eu,ev,ew,ey,ez,eA,eB,eC,eE,eF,eG,eH,eI,eJ,eK,eL,eM,eN,eP,eQ,eR,eS,eT,eU,eV,eW,eX,eY,f0,f3,f4,f5,f6,f7,f8,f9,fb,fe,fg,fh,fi,fj,fk,fl,fm,fn,fo,fp,ft,fu,fw,fx,fy,fX,fY,g0,g1,g2,g4,g5,g6,g7,g8,g9,ga,gb,gd,ge,gg,gh,gi],[]⟩ d) : Calls prog 92 #[Zp (Z (A D 0 F)),Za #[U O k,I x,U O m,J a ks.length sc],U O ctx,U O deep,Y last] w Q:=by
 have i1:=kc25;have N:=b.lc.lt;have i4:=kR ks;have l:=b.alloc (Zc #[U O k,I x,U O m,J a ks.length sc] 25);have i7:=l.lc.c5;have i8:=l.lc.fz 5;have n:=l.setAt (at_+1);have f:Q4 w.heap.size (U O k) (I x) (U O m) (J a ks.length sc) ((w.alloc (Zc #[U O k,I x,U O m,J a ks.length sc] 25)).setCell (A D 5 F) (U O (at_+1))):=Q4.other oA ⟨oB,oB,oB,oB⟩ _ _;have M:Fr D w ((w.alloc (Zc #[U O k,I x,U O m,J a ks.length sc] 25)).setCell (A D 5 F) (U O (at_+1))):=((Fr.refl _ _).alloc _).set _ _;rw[World.setCell_alloc_past (hn:=N)]at n f M;obtain⟨i9,ia,ib,ic⟩:=id f;have C:D<w.heap.size:=N;have S:Hid _:=P;have i5:(k==10)=X:=beq_false_of_ne T;have i6:(k==11)=X:=beq_false_of_ne V;have i3:at_+1<=1000000:=oA;clear P l b;by_cases K:k=8
 ·subst K;have e:Hid (kdF E L ctx H ((8:Int)==9) H ks 0 0 (at_+1)=R):=c;clear c;go_enter func92,ntmps92
  go_upto_region 12 with fail
  repeat
   (fail_if_success (show Code.wp _ (Code.seq (Code.seq (Code.region 13 _ _) _) _) _ _ _))
   first | go_skip | go_guarded | go_step | go_upon
  refine zhb (pl:=H) (k:=8) (R:=R) v (jp u oC) s z y f n r B C e.out (fun _ _ _ _ _ b=>b) ?_
  iterate 74 intro _
  exact oz19x179
 ·by_cases G:k=13
  ·subst G;have e:Hid (kdF E L ctx H ((13:Int)==9) H ks 0 0 (at_+1)=R):=c;clear c;go_enter func92,ntmps92
   go_upto_region 12 with fail
   repeat
    (fail_if_success (show Code.wp _ (Code.seq (Code.seq (Code.region 13 _ _) _) _) _ _ _))
    first | go_skip | go_guarded | go_step | go_upon
   refine zhb (pl:=H) (k:=13) (R:=R) v (jp u oC) s z y f n r B C e.out (fun _ _ _ _ _ b=>b) ?_
   iterate 74 intro _
   exact oz19x179
  ·have a7:(k==8)=X:=beq_false_of_ne K;have a6:(k==13)=X:=beq_false_of_ne G;have e:Hid (kdF E L ctx X (k==9) H ks 0 0 (at_+1)=R):=by rw[a7,a6]at c;exact c
   clear c;go_enter func92,ntmps92
   go_upto_region 12 with fail
   repeat
    (fail_if_success (show Code.wp _ (Code.seq (Code.seq (Code.region 13 _ _) _) _) _ _ _))
    first | go_skip | go_guarded | go_step | go_upon
   refine zhb (pl:=X) (k:=k) (R:=R) v (jp u oC) s z y f n r B C e.out (fun _ _ _ _ _ b=>b) ?_
   iterate 74 intro _
   exact oz19x179
end
end chk
namespace chk
open Go.RowKit
open syn face
open ord (tkd uP)
def zhi (n:Nat):Res (List Loc × Int)->Res (List Loc × Int)
 | .bad c b=>.bad c b
 | .ok q=>.ok (q.1.take n,q.2)
theorem zzb (E:Env) (p:Pr) (ctx deep:Int) (ks:List Tree) (L:List Loc) (a:Int):blF E p ctx deep (.node 6 empty 0 ks) L a=zhi L.length (qP E p ctx deep ks L (a+1)):=by
 simp only[blF];cases qP E p ctx deep ks L (a+1)<;>rfl
section
variable {E:Env} {p:Pr} {w0:Zw} {D:Nat} {own:FV} {fs:List FV} {fv:Zv} {p0 p1 p2 p3:Zv} {fc fa:Int}
theorem zp3 (B:Tree) (c9:BlT B) (ih:∀k x m ks,B=.node k x m ks->∀j (ca:j<ks.length),fG E p w0 D own fs fv p0 p1 p2 p3 fc fa ks[j]):cC E p w0 D own fs fv p0 p1 p2 p3 fc fa B:=by
 intro ctx deep L lv v w at_ bu c8 aG ar bi n bb aU;have ck:=kc25
 cases c9 with
 | mk aV =>
 rename_i ks;replace ih:=ih 6 empty 0 ks rfl;unfold Lies at bu;obtain⟨a,c,rfl,bj,aS⟩:=bu;have aP:kC (.node 6 empty 0 ks)=1+kA ks:=by unfold kC;omega
 rw[aP]at aU;have bh:=kR ks;have aQ:=n.lc.lt;have bn:=vQ ks;obtain⟨R,aM⟩:∃R,qP E p ctx deep ks L (at_+1)=R:=⟨_,rfl⟩
 have b1:Hid (blF E p ctx deep (.node 6 empty 0 ks) L at_=zhi L.length R):=(zzb E p ctx deep ks L at_).trans (by rw[aM]);generalize blF E p ctx deep (.node 6 empty 0 ks) L at_=RB at *;have bP:Hid (qP E p ctx deep ks L (at_+1)=R):=aM;clear aM;have aT:lv.ownBlock≠Z w.heap.size:=fun q=>by have:=(n.rl.lt _ q).2;omega
 have am:=n.alloc (Zc #[U O 6,I empty,U O 0,J a ks.length c] 25);have ch:=am.lc.c5;have ci:=am.lc.fz 5;have an:=am.setAt (at_+1);have bD:=an.lc.c4;have aK:Q4 w.heap.size (U O 6) (I empty) (U O 0) (J a ks.length c) ((w.alloc (Zc #[U O 6,I empty,U O 0,J a ks.length c] 25)).setCell (A D 5 F) (U O (at_+1))):=Q4.other oA ⟨oB,oB,oB,oB⟩ _ _;have aI:FrU D lv lv w ((w.alloc (Zc #[U O 6,I empty,U O 0,J a ks.length c] 25)).setCell (A D 5 F) (U O (at_+1))):=((FrU.refl D lv w).alloc _).set _ _ (fun _ q=>q);rw[World.setCell_alloc_past (hn:=aQ)]at an aK aI bD;obtain⟨cf,cg,rfl,cc,cd,cb⟩:=zi4 n.rl;have bN:Hid (w.heap.size≠D):=by show _≠_;omega
 clear am n cb cc cd;go_enter func67,ntmps67;go_wp2;clear ch ci bD;go_loopw [9] (fun B wr=>∃(j:Nat) (h:List Loc) (aw:Zv) (aF aj ai:Int) (az:Bool),j<=ks.length/\B=U O j/\L.length<=h.length/\LK w0 wr D own fs fv aw h aF p0 p1 p2 p3 (Y p.gives) (U O p.given) aj ai az/\FrU D (J cf L.length cg) aw w wr/\aw.ownBlock≠Z w.heap.size/\Q4 w.heap.size (U O 6) (I empty) (U O 0) (J a ks.length c) wr/\Hid (KB E p ctx deep ks R (at_+1) fc fa j h aF aj ai az)) (fun B _=>ks.length - (intOf B).toNat)
 case atStart =>
  refine⟨0,L,_,at_+1,fc,fa,X,jz _,rfl,jE _,an,aI,aT,aK,rfl,rfl,?_,aG,c8,?_⟩;·simp[kA]
  ·rw[List.drop_zero];exact bP.out.symm
 case round =>
  clear an aK aI;obtain⟨j,h,aw,aF,aj,ai,az,ca,rfl,G,l,C,z,ab,aC⟩:=hrel;obtain⟨bE,cv,cw,cx⟩:=id ab;have bF:=l.lc.c14;have bG:=l.lc.c4;have bH:=l.lc.fz 4;obtain⟨u,N,rfl,bw,bz,bv⟩:=zi4 l.rl
  cases az with
  | true =>
   have aB:Hid (RB=.bad aj ai):=by show _=_;rw[b1.out,show R=_ from aC.out];rfl
   by_cases r:j<ks.length;·skip;exact oz19x185
   ·skip
    exact oz19x185
  | false =>
   obtain⟨rfl,rfl,rfl,a9,aa,bf⟩:=aC.out;have T:Hid (R=qP E p ctx deep (ks.drop j) h (at_+1+kA (ks.take j))):=bf;clear aC bf;by_cases r:j<ks.length
   ·obtain⟨g,o,rfl,t,aO⟩:=aS (by intro q;rw[q]at r;simp at r);obtain⟨cy,⟨cz,x1,cA,cB,rfl,a3,a5,a6,a7⟩,ae⟩:=aO.get j r;obtain⟨av,aA,ax,_,au,ah,ay,ak,rfl⟩:=ae.shape;injection au with au;simp only[Array.mk.injEq,jq,and_true]at au;obtain⟨rfl,rfl,rfl,rfl⟩:=au;have cr:=(l.bs.cell (p:=(A g (o+j*4) F)) t).trans a3;have k1:=(l.bs.cell (p:=(A g (o+j*4+1) F)) t).trans a5;have ct:=(l.bs.cell (p:=(A g (o+j*4+2) F)) t).trans a6;have cu:=(l.bs.cell (p:=(A g (o+j*4+3) F)) t).trans a7;have bo:=xE ks j r;have bp:=xY ks (j+1);have bq:=qU ks[j];have br:=kR (ks.take j);by_cases aR:deep=1
    ·subst aR
     have a8:(decide ((1:Int)=1)&&decide (j+1=ks.length))=((j:Int)==(ks.length:Int) - 1):=by
      rw[Bool.eq_iff_iff];simp;omega
     have HP:Hid (R=match stF E p ctx 1 ((j:Int)==(ks.length:Int) - 1) ks[j] h (at_+1+kA (ks.take j))with
       | .bad c a2=>.bad c a2
       | .ok b=>qP E p ctx 1 (ks.drop (j+1)) b.1 b.2):=by
      show _=_;rw[<- a8];exact T.out.trans (zjd E p ctx 1 ks j r h _)
     have aH:=ih j r ctx 1 ((j:Int)==(ks.length:Int) - 1) h _ _ wr.drew _ ae aa a9 ar oA l.drew oA
     have P:Hid (∀b,stF E p ctx 1 ((j:Int)==(ks.length:Int) - 1) ks[j] h (at_+1+kA (ks.take j))=.ok b->h.length<=b.1.length/\b.2=at_+1+kA (ks.take (j+1))/\b.1.length<=20/\qN b.1):=fun b K=>by
      exact oz19x186
     have M:=jR wr (A w.heap.size 0 F) bE;have ad:=And.intro a3 (And.intro a5 (And.intro a6 a7));clear a3 a5 a6 a7 aO ae aS bo bp bq br ih;generalize aN:stF E p ctx 1 ((j:Int)==(ks.length:Int) - 1) ks[j] h (at_+1+kA (ks.take j))=V at *;have aX:Hid (∀b,V=.ok b->h.length<=b.1.length/\b.2=at_+1+kA (ks.take (j+1))/\b.1.length<=20/\qN b.1):=fun b K=>P.out b K
     clear aN P a8;have aE:Hid (L.length<=h.length):=G;have ap:Q4 w.heap.size (U O 6) (I empty) (U O 0) (J (Z (A g o F)) ks.length c) wr.drew:=ab;have aJ:=C.drew;have aZ:Hid (Value.ownBlock (J u h.length N)≠Z w.heap.size):=z;have b2:Hid (w.heap.size<wr.drew.heap.size):=M;have aD:Hid ((ks.length:Int)<=1000000):=(by show _<=_;omega)
     clear aa aV aP bh bn aU aQ bj a9 bw bz bv bG bH bi ar aG aT bb T G z M ab C;have Q:Hid (g<w0.heap.size):=t;have ce:(ks.length:Int)<=1000000:=aD.out;have aY:Hid (w0.cell? (A g (o+j*4) F)=Z (U O av)/\w0.cell? (A g (o+j*4+1) F)=Z (I aA)/\w0.cell? (A g (o+j*4+2) F)=Z (U O ax)/\w0.cell? (A g (o+j*4+3) F)=Z (J ah ay ak)):=ad;have ac:Q4 w.heap.size (U O 6) (I empty) (U O 0) (J (Z (A g o F)) ks.length c) wr.drew/\Below w0.heap.size w0 wr.drew:=⟨ap,l.bs.drew⟩
     clear l t ad
     go_upto_region 6 with fail
     clear bF;refine wp_region_held_drew (S:=fun W=>Q4 w.heap.size (U O 6) (I empty) (U O 0) (J (Z (A g o F)) ks.length c) W/\Below w0.heap.size w0 W) oD ac (fun d=>?_);clear ac;generalize wr.drew=W at *;refine tkS (i:=0) (v:=Zp (Z (A D 0 F))) rfl rfl (Or.inl ⟨oI,fun f e=>oM⟩) d ?_;simp only[jA,jB,jC];refine tkS (i:=1) (v:=Zp (Z (A w.heap.size 3 F))) rfl rfl (Or.inl ⟨oI,fun f e=>oM⟩) d ?_;simp only[jA,jB,jC];refine tkS (i:=2) (v:=J (Z (A g o F)) ks.length c) rfl rfl (Or.inl ⟨oI,fun f e=>oz19y190⟩) d ?_;simp only[jA,jB,jC];refine tkS (i:=3) (v:=U O j) rfl rfl (Or.inl ⟨oI,fun f e=>oM⟩) d ?_;simp only[jA,jB,jC];refine tkS (i:=4) (v:=Zp (Z (A g (o+j*4) F))) rfl rfl (Or.inl ⟨oI,fun f e=>oM⟩) d ?_;simp only[jA,jB,jC];refine tkS (i:=5) (v:=Za #[U O av,I aA,U O ax,J ah ay ak] ) rfl rfl (Or.inl ⟨oI,fun f e=>oz19y191⟩) d ?_;simp only[jA,jB,jC];refine tkS (i:=6) (v:=U O ctx) rfl rfl (Or.inl ⟨oI,fun f e=>oM⟩) d ?_;simp only[jA,jB,jC];refine tkS (i:=7) (v:=U O 1) rfl rfl (Or.inl ⟨oI,fun f e=>oM⟩) d ?_;simp only[jA,jB,jC];refine tkS (i:=8) (v:=U O 1) rfl rfl (Or.inl ⟨oI,fun f e=>oM⟩) d ?_;simp only[jA,jB,jC];refine tkS (i:=9) (v:=Y H) rfl rfl (Or.inl ⟨oI,fun f e=>oM⟩) d ?_;simp only[jA,jB,jC];refine tkS (i:=10) (v:=Y H) rfl rfl (Or.inl ⟨oI,fun f e=>oM⟩) d ?_;simp only[jA,jB,jC];refine tkS (i:=11) (v:=U O j) rfl rfl (Or.inl ⟨oI,fun f e=>oM⟩) d ?_;simp only[jA,jB,jC];refine tkS (i:=12) (v:=Zp (Z (A w.heap.size 3 F))) rfl rfl (Or.inl ⟨oI,fun f e=>oM⟩) d ?_;simp only[jA,jB,jC];refine tkS (i:=13) (v:=J (Z (A g o F)) ks.length c) rfl rfl (Or.inl ⟨oI,fun f e=>oz19y190⟩) d ?_;simp only[jA,jB,jC];refine tkS (i:=14) (v:=U O ks.length) rfl rfl (Or.inl ⟨oI,fun f e=>oM⟩) d ?_;simp only[jA,jB,jC];refine tkS (i:=15) (v:=U O ((ks.length:Int) - 1)) rfl rfl (Or.inl ⟨oI,fun f e=>by have cq:IntKind.i64.wrap ((ks.length:Int) - 1)=(ks.length:Int) - 1:=IntWalk.i64_in _ oA;go_simp⟩) d ?_;simp only[jA,jB,jC];refine tkS (i:=16) (v:=Y ((j:Int)==(ks.length:Int) - 1)) rfl rfl (Or.inl ⟨oI,fun f e=>oM⟩) d ?_;simp only[jA,jB,jC];refine tkS (i:=17) (v:=Y ((j:Int)==(ks.length:Int) - 1)) rfl rfl (Or.inl ⟨oI,fun f e=>oM⟩) d ?_;exact oz19x180
    ·have a8:(decide (deep=1)&&decide (j+1=ks.length))=X:=by simp[aR]
     have cp:(deep==1)=X:=beq_false_of_ne aR
     have HP:Hid (R=match stF E p ctx deep X ks[j] h (at_+1+kA (ks.take j))with
       | .bad c a2=>.bad c a2
       | .ok b=>qP E p ctx deep (ks.drop (j+1)) b.1 b.2):=by
      show _=_;rw[<- a8];exact T.out.trans (zjd E p ctx deep ks j r h _)
     have aH:=ih j r ctx deep X h _ _ wr.drew _ ae aa a9 ar oA l.drew oA
     have P:Hid (∀b,stF E p ctx deep X ks[j] h (at_+1+kA (ks.take j))=.ok b->h.length<=b.1.length/\b.2=at_+1+kA (ks.take (j+1))/\b.1.length<=20/\qN b.1):=fun b K=>by
      exact oz19x186
     have M:=jR wr (A w.heap.size 0 F) bE;have ad:=And.intro a3 (And.intro a5 (And.intro a6 a7));clear a3 a5 a6 a7 aO ae aS bo bp bq br ih;generalize aN:stF E p ctx deep X ks[j] h (at_+1+kA (ks.take j))=V at *;have aX:Hid (∀b,V=.ok b->h.length<=b.1.length/\b.2=at_+1+kA (ks.take (j+1))/\b.1.length<=20/\qN b.1):=fun b K=>P.out b K
     clear aN P a8;have aE:Hid (L.length<=h.length):=G;have ap:Q4 w.heap.size (U O 6) (I empty) (U O 0) (J (Z (A g o F)) ks.length c) wr.drew:=ab;have aJ:=C.drew;have aZ:Hid (Value.ownBlock (J u h.length N)≠Z w.heap.size):=z;have b2:Hid (w.heap.size<wr.drew.heap.size):=M;have aD:Hid ((ks.length:Int)<=1000000):=(by show _<=_;omega)
     clear aa aV aP bh bn aU aQ bj a9 bw bz bv bG bH bi ar aG aT bb T G z M ab C;have Q:Hid (g<w0.heap.size):=t;have ce:(ks.length:Int)<=1000000:=aD.out;have aY:Hid (w0.cell? (A g (o+j*4) F)=Z (U O av)/\w0.cell? (A g (o+j*4+1) F)=Z (I aA)/\w0.cell? (A g (o+j*4+2) F)=Z (U O ax)/\w0.cell? (A g (o+j*4+3) F)=Z (J ah ay ak)):=ad;have ac:Q4 w.heap.size (U O 6) (I empty) (U O 0) (J (Z (A g o F)) ks.length c) wr.drew/\Below w0.heap.size w0 wr.drew:=⟨ap,l.bs.drew⟩
     clear l t ad
     go_upto_region 6 with fail
     clear bF;refine wp_region_held_drew (S:=fun W=>Q4 w.heap.size (U O 6) (I empty) (U O 0) (J (Z (A g o F)) ks.length c) W/\Below w0.heap.size w0 W) oD ac (fun d=>?_);clear ac;generalize wr.drew=W at *;refine tkS (i:=0) (v:=Zp (Z (A D 0 F))) rfl rfl (Or.inl ⟨oI,fun f e=>oM⟩) d ?_;simp only[jA,jB,jC];refine tkS (i:=1) (v:=Zp (Z (A w.heap.size 3 F))) rfl rfl (Or.inl ⟨oI,fun f e=>oM⟩) d ?_;simp only[jA,jB,jC];refine tkS (i:=2) (v:=J (Z (A g o F)) ks.length c) rfl rfl (Or.inl ⟨oI,fun f e=>oz19y190⟩) d ?_;simp only[jA,jB,jC];refine tkS (i:=3) (v:=U O j) rfl rfl (Or.inl ⟨oI,fun f e=>oM⟩) d ?_;simp only[jA,jB,jC];refine tkS (i:=4) (v:=Zp (Z (A g (o+j*4) F))) rfl rfl (Or.inl ⟨oI,fun f e=>oM⟩) d ?_;simp only[jA,jB,jC];refine tkS (i:=5) (v:=Za #[U O av,I aA,U O ax,J ah ay ak] ) rfl rfl (Or.inl ⟨oI,fun f e=>oz19y191⟩) d ?_;simp only[jA,jB,jC];refine tkS (i:=6) (v:=U O ctx) rfl rfl (Or.inl ⟨oI,fun f e=>oM⟩) d ?_;simp only[jA,jB,jC];refine tkS (i:=7) (v:=U O deep) rfl rfl (Or.inl ⟨oI,fun f e=>oM⟩) d ?_;simp only[jA,jB,jC];refine tkS (i:=8) (v:=U O deep) rfl rfl (Or.inl ⟨oI,fun f e=>oM⟩) d ?_;simp only[jA,jB,jC];refine tkS (i:=9) (v:=Y X) rfl rfl (Or.inl ⟨oI,fun f e=>oM⟩) d ?_;simp only[jA,jB,jC];refine tkS (i:=10) (v:=Y X) rfl rfl (Or.inl ⟨oI,fun f e=>oM⟩) d ?_;simp only[jA,jB,jC];refine tkU 11 d ?_;simp only[jA,jB,jC];refine tkU 12 d ?_;simp only[jA,jB,jC];refine tkU 13 d ?_;simp only[jA,jB,jC];refine tkU 14 d ?_;simp only[jA,jB,jC];refine tkU 15 d ?_;simp only[jA,jB,jC];refine tkU 16 d ?_;simp only[jA,jB,jC];refine tkS (i:=17) (v:=Y X) rfl rfl (Or.inl ⟨oI,fun f e=>oM⟩) d ?_;exact oz19x180
   ·have aB:Hid (RB=.ok (h.take L.length,at_+1+kA (ks.take j))):=by
     show _=_;rw[b1.out,T.out,List.drop_eq_nil_of_le oA];simp[qP,zhi]
    have y:=l.cut G;have s:=C.set 4 (J u L.length N) (u2:=J u L.length N) (fun a2 q=>by cases u<;>exact q);go_wp2
    go_end0
    exact RSR.mk s y ⟨rfl,rfl,aB.out⟩
end
end chk
namespace chk
open Go.RowKit
open syn face cut
open ord (tkd uP)
def KBl (E:Env) (p:Pr) (L:List Loc) (ctx deep:Int) (r:List Tree) (R:Res (List Loc × Int)) (a0 fc fa:Int) (j:Nat) (d:List Loc) (a c b:Int):Bool->Prop
 | true=>R=.bad c b
 | false=>c=fc/\b=fa/\d=L/\a=a0+kA (r.take j)/\R=zX E p ctx deep (r.drop j) L a
theorem ztj (E:Env) (p:Pr) (ctx deep:Int) (r:List Tree) (j:Nat) (d:j<r.length) (L:List Loc) (a:Int):zX E p ctx deep (r.drop j) L a=match blF E p ctx deep r[j] L a with
  | .bad c b=>.bad c b
  | .ok q=>zX E p ctx deep (r.drop (j+1)) q.1 q.2:=by
 rw[List.drop_eq_getElem_cons d];simp only[zX]<;>rfl
section
variable {w0 w:Zw} {D n:Nat} {own:FV} {fs:List FV} {fv lv:Zv} {L:List Loc} {p0 p1 p2 p3:Zv} {fc fa ctx deep at_ k m:Int} {x:ByteArray} {sc g o:Nat} {R:Res (List Loc × Int)} {E:Env} {p:Pr} {et:Tree} {r:List Tree}
theorem yb7 (aR:fs.length<=1000) (aH:L.length<=20) (aD:E=⟨own.1,fs.map (·.1)⟩) (bn:qN L) (kq:1<=deep) (kr:deep<=at_) (aQ:ExT et) (aO:∀h∈r,BlT h) (ih:∀j (aS:j<r.length),cC E p w0 D own fs fv p0 p1 p2 p3 fc fa r[j]) (l:g<w0.heap.size) (ag:kQ (·<w0.heap.size) w0 (et :: r) g o) (af:Q4 n (U O k) (I x) (U O m) (J (Z (A g o F)) (r.length+1) sc) w) (d:LK w0 w D own fs fv lv L (at_+1) p0 p1 p2 p3 (Y p.gives) (U O p.given) fc fa X) (bq:lv.ownBlock≠Z n) (kt:D<n) (br:at_+1+kA (et :: r)<=1000000) (aL:(match exF E L ctx X et (at_+1)with
  | .bad c b=>.bad c b
  | .ok a=>zX E p (jn ctx a.1) (deep+1) r L a.2)=R)
  {bN iu iH j3 jx k6 bP cb cn cz db dn dZ eb en eB eM eX fe fp g2 ge gr h2 hf hr hF hQ i3 ig il im io ip iq ir iv iw ix iy iz iC iD iE iF iG iI iJ iK iL iM iN iO iP iQ iR iS iT iU iV iW iY iZ j0 j1 j2 j4 j5 j6 j7 j8 j9 ja jc jk jm jV jW jX jY jZ k0 k2 k3 k4 k5 k7 k9 ka kb kc kd ke kf kg kh bR bS bX bY bZ c6 c7 c8 c9 ca cc cd ce cf cg ch ci cj ck cm co cp cq cr ct cu cv cw cx cy cA cB d0 d1 d2 d3 d4 d5 d6 da dc dd de df dh di dj dk dl dm dp dq dr ds dt du dw dx dy dz e0 e2 e3 e4 e5 e6 e7 e8 e9 ea ec ed ee ef eg eh ei ej ek em eo ep eq er eu ev ew ey ez eA eC eD eE eF eG eH eI eJ eK eL eN eO eP eQ eR eS eT eU eV eW eY eZ f3 f4 f5 f6 f7 f8 f9 fb ff fg fh fi fj fk fl fm fn fo fq ft fu fw fx fy fX fY g0 g1 g3 g4 g5 g6 g7 g8 g9 ga gb gd gf gg gh gi gj gl gm gn gp gq gs gu gv gw gx gy gz gP h0 h1 h3 h4 h5 h6 h7 h8 h9 ha hc he hg hh hj hk hl hm hn ho hp hq hs ht hu hv hw hy hz hC hD hE hG hH hI hJ hK hL hM hN hO hP hR hS hT hU hV hW hX hY hZ i1 i4 i5 i6 i7 i8 i9 ia ib ic ie ii ij ik:Zv} {ax:Exit->Act->Zw->Prop} (i:∀(h:Array Zv) (aW:Zw),RSR w0 D own fs fv lv L p0 p1 p2 p3 (Y p.gives) (U O p.given) fc fa w R (.returned (.tuple #[])) aW->ax .ret ⟨h,[]⟩ aW) :
  Code.wp prog (xH 4 f92) ax ⟨#[Zp (Z (A D 0 F)),bN,U O ctx,U O deep,iu,iH,Zp (Z (A n 0 F)),j3,jx,k6,bP,cb,cn,cz,db,dn,dZ,eb,en,eB,eM,eX,fe,fp,g2,ge,gr,h2,hf,hr,hF,hQ,i3,ig,il,im,io,ip,iq,ir,iv,iw,ix,iy,iz,iC,iD,iE,iF,iG,iI,iJ,iK,iL,iM,iN,iO,iP,iQ,iR,iS,iT,iU,iV,iW,iY,iZ,j0,j1,j2,j4,j5,j6,j7,j8,j9,ja,jc,jk,jm,jV,jW,jX,jY,jZ,k0,k2,k3,k4,k5,k7,k9,ka,kb,kc,kd,ke,kf,kg,kh,bR,bS,bX,bY,bZ,c6,c7,c8,c9,ca,cc,cd,ce,cf,cg,ch,ci,cj,ck,cm,co,cp,cq,cr,ct,cu,cv,cw,cx,cy,cA,cB,d0,d1,d2,d3,d4,d5,d6,da,dc,dd,de,df,dh,di,dj,dk,dl,dm,dp,dq,dr,ds,dt,du,dw,dx,dy,dz,e0,e2,e3,e4,e5,e6,e7,e8,e9,ea,ec,ed,ee,ef,eg,eh,ei,ej,ek,em,eo,ep,eq,er,eu,ev,ew,ey,ez,eA,eC,eD,eE,eF,eG,eH,eI,eJ,eK,eL,eN,eO,eP,eQ,eR,eS,eT,eU,eV,eW,eY,eZ,f3,f4,f5,f6,f7,f8,f9,fb,ff,fg,fh,fi,fj,fk,fl,fm,fn,fo,fq,ft,fu,fw,fx,fy,fX,fY,g0,g1,g3,g4,g5,g6,g7,g8,g9,ga,gb,gd,gf,gg,gh,gi,gj,gl,gm,gn,gp,gq,gs,gu,gv,gw,gx,gy,gz,gP,h0,h1,h3,h4,h5,h6,h7,h8,h9,ha,hc,he,hg,hh,hj,hk,hl,hm,hn,ho,hp,hq,hs,ht,hu,hv,hw,hy,hz,hC,hD,hE,hG,hH,hI,hJ,hK,hL,hM,hN,hO,hP,hR,hS,hT,hU,hV,hW,hX,hY,hZ,i1,i4,i5,i6,i7,i8,i9,ia,ib,ic,ie,ii,ij,ik],[]⟩ w:=by
 have ko:=kc25;have a8:Hid _:=i;have aw:Hid _:=aL;clear i aL;obtain⟨a6,aj,ak,am⟩:=id af;obtain⟨ki,⟨kj,x1,kk,kl,rfl,t,u,v,y⟩,a3⟩:=ag.get 0 oB;obtain⟨ba,ex,bb,_,f,b8,bc,b9,rfl⟩:=a3.shape;injection f with f;simp only[Array.mk.injEq,jq,and_true]at f;obtain⟨rfl,rfl,rfl,rfl⟩:=f;simp only[Nat.zero_mul,Nat.add_zero,jI]at t u v y a3;have aP:kA (et :: r)=kC et+kA r:=rfl;rw[aP]at br;have ku:=qU et;have kw:=kR r;have ks:=vQ r;have f0:=(d.bs.cell (p:=(A g o F)) l).trans t;have f1:=(d.bs.cell (p:=(A g (o+1) F)) l).trans u;have be:=(d.bs.cell (p:=(A g (o+2) F)) l).trans v;have bf:=(d.bs.cell (p:=(A g (o+3) F)) l).trans y;have z:=zaf aR (jp aH oC) et (Za #[U O ba,I ex,U O bb,J b8 bc b9]) w ctx _ X aQ a3 d oA oA;rw[<- aD]at z;have P:=jR w (A n 0 F) a6;have aZ:Hid (∀h∈r,BlT h):=aO;have b0:Hid (∀j (aS:j<r.length),cC E p w0 D own fs fv p0 p1 p2 p3 fc fa r[j]):=ih;have aY:Hid (kQ (·<w0.heap.size) w0 (et :: r) g o):=ag
 clear aO ih ag d t u v y a3 aQ aD aR aP
 conv=>arg 2;whnf
 dsimp only;go_wp2_with (fail);refine z.mono ?_;rintro W aV ⟨aN,a2⟩;obtain⟨q,ab,az,b1,an,rfl,aG,ae⟩:=aN.uni;have aJ:=Q4.grown af a2 oE;have aE:FrU D lv lv w aV:=FrU.of a2 _
 have ap:Hid (KBl E p L (jn ctx q) (deep+1) r R (at_+1+kC et) fc fa 0 L ab az b1 an):=by
  show KBl _ _ _ _ _ _ _ _ _ _ _ _ _ _ _ _;have s:=aw.out
  cases an with
  | true=>rw[show exF E L ctx X et (at_+1)=_ from ae]at s;exact s.symm
  | false =>
   obtain⟨ad,aB,aC⟩:=ae;have bh:ab=at_+1+kC et:=uI E L ctx _ _ _ _ aC;rw[aC]at s;exact⟨ad,aB,rfl,by simp[kA,bh],s.symm⟩
 have av:Hid (n<aV.heap.size):=jo P a2.size;clear z aN ae a2 f0 f1 be bf a6 aj ak am af aw P;have bm:L.length<=L.length:=jE _;go_wp2_with (go_at_call 114;refine(zah _ _ _).mono ?_;rintro W l3 ⟨rfl,bD⟩;obtain rfl:=bD.symm);go_loopw [13] (fun h wr=>∃(j:Nat) (G:Zv) (e:List Loc) (aa M K:Int) (a7:Bool),j<=r.length/\h=U O ((j:Int)+1)/\L.length<=e.length/\LK w0 wr D own fs fv G e aa p0 p1 p2 p3 (Y p.gives) (U O p.given) M K a7/\FrU D lv G w wr/\G.ownBlock≠Z n/\Q4 n (U O k) (I x) (U O m) (J (Z (A g o F)) (r.length+1) sc) wr/\n<wr.heap.size/\Hid (KBl E p L (jn ctx q) (deep+1) r R (at_+1+kC et) fc fa j e aa M K a7)) (fun h _=>r.length+1 - (intOf h).toNat)
 case atStart=>exact⟨0,lv,L,ab,az,b1,an,jz _,oB,bm,aG,aE,bq,aJ,av.out,ap⟩
 case round =>
  clear aG aE aJ av ap;obtain⟨j,G,e,aa,M,K,a7,aS,rfl,bj,d,B,aT,i,P,S⟩:=hrel;obtain⟨a6,aj,ak,am⟩:=id i;have bH:=d.lc.c14
  cases a7 with
  | true =>
   have Q:RSR w0 D own fs fv lv L p0 p1 p2 p3 (Y p.gives) (U O p.given) fc fa w R (.returned (.tuple #[])) wr:=RSR.mk B d ⟨bj,S.out⟩;have V:Hid (RSR w0 D own fs fv lv L p0 p1 p2 p3 (Y p.gives) (U O p.given) fc fa w R (.returned (.tuple #[])) wr):=Q;clear Q S d B i;by_cases C:j<r.length;·go_wp2;exact a8.out _ _ V.out
   ·go_wp2
    exact a8.out _ _ V.out
  | false =>
   obtain⟨rfl,rfl,rfl,rfl,aM⟩:=S.out;have T:Hid (R=zX E p (jn ctx q) (deep+1) (r.drop j) e (at_+1+kC et+kA (r.take j))):=aM;clear S aM;by_cases C:j<r.length
   ·obtain⟨ki,⟨kj,x1,kk,kl,rfl,t,u,v,y⟩,a5⟩:=aY.out.get (j+1) oE;simp only[List.getElem_cons_succ]at a5;obtain⟨ky,l4,kz,_,f,kn,l0,kp,rfl⟩:=a5.shape;injection f with f;simp only[Array.mk.injEq,jq,and_true]at f;obtain⟨rfl,rfl,rfl,rfl⟩:=f;have bE:=(d.bs.cell (p:=(A g (o+(j+1)*4) F)) l).trans t;have k1:=(d.bs.cell (p:=(A g (o+(j+1)*4+1) F)) l).trans u;have bF:=(d.bs.cell (p:=(A g (o+(j+1)*4+2) F)) l).trans v;have bG:=(d.bs.cell (p:=(A g (o+(j+1)*4+3) F)) l).trans y;have bu:=xE r j C;have bv:=xY r (j+1);have bw:=qU r[j];have bz:=kR (r.take j);have z:=b0.out j C (jn ctx q) (deep+1) e G _ wr _ a5 bn aH oA oA d oA oA
    have HP:Hid (R=match blF E p (jn ctx q) (deep+1) r[j] e (at_+1+kC et+kA (r.take j))with
      | .bad c b=>.bad c b
      | .ok a=>zX E p (jn ctx q) (deep+1) (r.drop (j+1)) a.1 a.2):=T.out.trans (ztj E p _ _ r j C e _)
    have ao:Hid (∀a,blF E p (jn ctx q) (deep+1) r[j] e (at_+1+kC et+kA (r.take j))=.ok a->a.1=e/\a.2=at_+1+kC et+kA (r.take (j+1))):=fun a ah=>by
     obtain⟨ad,aB⟩:=zgx E p _ _ _ _ _ _ (aZ.out _ (jH C)) ah;exact⟨ad,oA⟩
    clear t u v y a5 bu bv bw bz T;generalize bo:blF E p (jn ctx q) (deep+1) r[j] e (at_+1+kC et+kA (r.take j))=ay at *;have aX:Hid (∀a,ay=.ok a->a.1=e/\a.2=at_+1+kC et+kA (r.take (j+1))):=fun a ah=>ao.out a ah
    clear bo ao;have ar:Hid (G.ownBlock≠Z n):=aT;have b2:Hid (n≠D):=(by show _≠_;omega)
    have km:Hid (j<r.length):=C;have kx:deep+1<=1000001:=oA;clear d aT;go_wp2_with (fail);refine z.mono ?_;rintro W l1 ⟨rfl,ai,N,aI⟩
    have au:Hid (ai.ownBlock≠Z n):=fun W=>by
     rcases N.own _ W with e1 | e1
     ·exact ar.out e1
     ·omega
    have aK:=N.q4 i b2.out ar.out;have aU:=jo P N.size;have aF:=B.trans N;clear z N B i a6 aj ak am bH bE k1 bF bG P;go_wp2;go_roundw
    case rel =>
     cases ay with
     | bad b7 b6 =>
      obtain⟨a9,ac,bp,bi⟩:=aI
      exact⟨j+1,ai,a9,ac,b7,b6,H,oA,oJ,bp,bi,aF,au.out,aK,aU,HP.out⟩
     | ok a =>
      obtain⟨bg,aA⟩:=aX.out a rfl;obtain⟨a9,ac⟩:=a;obtain rfl:a9=e:=bg;exact⟨j+1,ai,_,ac,_,_,X,oA,oJ,jE _,aI,aF,au.out,aK,aU,rfl,rfl,rfl,aA,by have s:=HP.out;dsimp only at aA s;rw[s]⟩
    case measure=>simp[intOf];omega
   ·have Q:RSR w0 D own fs fv lv e p0 p1 p2 p3 (Y p.gives) (U O p.given) M K w R (.returned (.tuple #[])) wr:=RSR.mk B d ⟨rfl,rfl,by
     rw[T.out,List.drop_eq_nil_of_le oA];simp only[zX]⟩
    have V:Hid (RSR w0 D own fs fv lv e p0 p1 p2 p3 (Y p.gives) (U O p.given) M K w R (.returned (.tuple #[])) wr):=Q;clear Q T d B i;go_wp2;exact a8.out _ _ V.out
end
end chk
end Go.Proofs.YtjkcecppnmlhjaaGreatDoor
