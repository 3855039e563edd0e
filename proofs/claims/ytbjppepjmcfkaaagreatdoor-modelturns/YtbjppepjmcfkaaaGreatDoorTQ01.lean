/- A fault that chapter 5 finds has a code. No Go in sight. -/
import Derived.Test.YtbjppepjmcfkaaaGreatDoorTQ00
set_option linter.unusedVariables false
namespace Go.Proofs.YtbjppepjmcfkaaaGreatDoor
namespace mdl
open syn face mac
structure Ext (F:Nat) (s s':RS):Prop where
 oL:s.oL <+: s'.oL
 oH:s.oH <+: s'.oH
 st:s.st<=s'.st
 le:s.st<=F->s'.st<=F
theorem Ext.refl (b:Nat) (a:RS):Ext b a a:=⟨List.prefix_refl _,List.prefix_refl _,Nat.le_refl _,id⟩
theorem Ext.trans {c:Nat} {d e f:RS} (a:Ext c d e) (b:Ext c e f):Ext c d f:=⟨a.oL.trans b.oL,a.oH.trans b.oH,jp a.st b.st,fun g=>b.le (a.le g)⟩
def Gd {α:Type} (F:Nat) (s:RS):Out α->Prop
 | .go _ s'=>Ext F s s'
 | .back _ s'=>Ext F s s'
 | .stop _ s'=>Ext F s s'
 | .lost=>True
theorem Gd.bind {α β:Type} {d:Nat} {h:RS} {i:Out α} {g:α->RS->Out β} (b:Gd d h i) (l:∀f a,Ext d h a->Gd d a (g f a)):Gd d h (i.bind g):=by
 cases i with
 | go f a =>
  have c:=l f a b;show Gd d h (g f a)
  cases e:g f a with
  | go m j=>rw[e]at c;exact Ext.trans b c
  | back v j=>rw[e]at c;exact Ext.trans b c
  | stop k j=>rw[e]at c;exact Ext.trans b c
  | lost=>trivial
 | back v a=>exact b
 | stop k a=>exact b
 | lost=>trivial
theorem xD (b:Nat) (a:RS):Gd b a (kP b a):=by
 unfold kP;split;·exact Ext.refl b a
 ·rename_i d;exact⟨List.prefix_refl _,List.prefix_refl _,by show a.st<=a.st+1;omega,fun c=>by show a.st+1<=b;omega⟩
theorem zay (b:Nat) (e c d:Int) (a:RS):Gd b a (zO e c d a):=by
 unfold zO;split<;>exact Ext.refl b a
theorem zn1 (C:Cx) (b:Nat) (c:Int) (a:RS):Gd b a (takeF C c a):=by
 unfold takeF;split<;>split<;>exact⟨List.prefix_refl _,List.prefix_refl _,Nat.le_refl _,id⟩
theorem zzd (b:Nat) (c v:Int) (a:RS):Ext b a (uN c v a):=by
 unfold uN;split;·exact⟨List.prefix_refl _,List.prefix_append _ _,Nat.le_refl _,id⟩
 ·exact⟨List.prefix_append _ _,List.prefix_refl _,Nat.le_refl _,id⟩
theorem znx (b:Nat) (c:Lc) (a:RS) (v:Int) (q:Wd):Ext b a (qJ c a v q).2:=by
 cases q<;>exact⟨List.prefix_refl _,List.prefix_refl _,Nat.le_refl _,id⟩
structure Gds (C:Cx) (g:Nat):Prop where
 ex:∀M l d t s,Gd C.fuel s (exM C g M l d t s)
 ix:∀M l d t s,Gd C.fuel s (ixM C g M l d t s)
 ar:∀M l d t vs s,Gd C.fuel s (asM C g M l d t vs s)
 ca:∀M l d t s,Gd C.fuel s (caM C g M l d t s)
 cl:∀d x vs s,Gd C.fuel s (clM C g d x vs s)
 bl:∀M l d t s,Gd C.fuel s (blM C g M l d t s)
 ss:∀M l d t s,Gd C.fuel s (ssM C g M l d t s)
 st:∀M l d t s,Gd C.fuel s (stM C g M l d t s)
 wh:∀M l d a b s,Gd C.fuel s (whM C g M l d a b s)
theorem gds (C:Cx):∀k,Gds C k
 | 0=>by constructor<;>intros<;>simp only[exM,ixM,asM,caM,clM,blM,ssM,stM,whM]<;>trivial
 | k+1=>by
  have ih:=gds C k;constructor
  ·intro f g d b c;obtain⟨h,e,j,i⟩:=b;unfold exM;refine(xD _ c).bind fun _ t _=>?_
   split
   ·refine(ih.ix ..).bind fun o a _=>?_
    split<;>exact Ext.refl _ _
   split;·exact ih.ca ..
   split
   ·split;·exact(ih.ex ..).bind fun p a _=>(ih.ex ..).bind fun v l _=>zay ..
    ·trivial
   split
   ·split;·exact(ih.ex ..).bind fun p a _=>zay ..
    ·trivial
   split
   ·split;·exact(ih.ex ..).bind fun p a _=>zay ..
    ·trivial
   exact Ext.refl _ _
  ·intro f g d b c;obtain⟨h,e,j,i⟩:=b;unfold ixM;split;·exact Ext.refl _ _
   ·split;·exact ih.ex ..
    ·trivial
  ·intro f g d b m c
   cases b with
   | nil=>unfold asM;exact Ext.refl _ _
   | cons b s=>unfold asM;exact(ih.ex ..).bind fun v a _=>ih.ar ..
  ·intro f g d b c;obtain⟨h,e,j,i⟩:=b;unfold caM;exact(ih.ar ..).bind fun m a _=>ih.cl ..
  ·intro d e m c;unfold clM;split;·exact Ext.refl _ _
   split
   ·trivial
   have n:=ih.bl (C.ps e).mod ((C.ps e).pars.zip m) (d+1) (C.ps e).body c;split<;>(rename_i q;rw[q]at n;exact n)
  ·intro f g d b c;obtain⟨h,e,j,i⟩:=b;unfold blM;exact(ih.ss ..).bind fun r a _=>Ext.refl _ _
  ·intro f g d b c
   cases b with
   | nil=>unfold ssM;exact Ext.refl _ _
   | cons b s=>unfold ssM;exact(ih.st ..).bind fun v a _=>ih.ss ..
  ·intro f g d b c;obtain⟨h,e,j,i⟩:=b;unfold stM;refine(xD _ c).bind fun _ t _=>?_
   split
   ·trivial
   split
   ·refine(ih.ex ..).bind fun v a _=>?_
    split
    ·trivial
    ·exact Ext.refl _ _
   split
   ·split
    ·trivial
    ·refine(ih.ix ..).bind fun o a _=>(ih.ex ..).bind fun v l _=>?_
     split;·exact Ext.refl _ _
     ·exact znx ..
   split;·exact(ih.ca ..).bind fun v a _=>Ext.refl _ _
   split
   ·refine(ih.ex ..).bind fun v a _=>?_
    split
    ·split
     ·trivial
     ·exact ih.bl ..
    ·split;·exact ih.bl ..
     ·exact Ext.refl _ _
   split
   ·split
    ·trivial
    ·exact ih.wh ..
   split;·exact(ih.ex ..).bind fun v a _=>zzd ..
   split
   ·refine(ih.ix ..).bind fun o a _=>(zn1 ..).bind fun v l _=>?_
    split;·exact Ext.refl _ _
    ·exact znx ..
   split;·exact(ih.ex ..).bind fun v a _=>Ext.refl _ _
   exact Ext.refl _ _
  ·intro f g d u w c;unfold whM;refine(ih.ex ..).bind fun v a _=>?_
   split;·exact(ih.bl ..).bind fun r l _=>ih.wh ..
   ·exact Ext.refl _ _
end mdl
namespace chk
open syn face
def gW:List FaceD->List FaceD->Bool
 | _,[]=>false
 | seen,f :: r=>(seen.any (fun q=>eqS q.module f.module)||!cU f)||gW (seen++[f]) r
def nz (q:Int × Int):Int × Int:=if q.1=0 then(0,0)else q
def ckF (x:ByteArray) (b:List FaceD) (m:ByteArray) (a:List Kid):Int × Int :=
 if gW [] b=true then(2,0)else if(parse x).code≠0 then((parse x).code,(parse x).place)else
  match kV m a [] [] 1 with
  | some q=>q
  | none=>nz ((moF (qQ true m a) b a [] 1).getD (0,0))
end chk
namespace mdl
open syn face mac
structure Sk (C:Cx) (e:Nat) (s s':RS):Prop where
 oL:s'.oL.length+s.st+e<=s'.st+s.oL.length
 oH:s'.oH.length+s.st+e<=s'.st+s.oH.length
 uL:s.uL<=C.iL.length->s'.uL<=C.iL.length
 uH:s.uH<=C.iH.length->s'.uH<=C.iH.length
section
variable {C:Cx}
variable {a b c:RS} {d g:Nat}
theorem Sk.refl (a:RS):Sk C 0 a a:=⟨oA,oA,id,id⟩
theorem Sk.trans (e:Sk C d a b) (f:Sk C g b c):Sk C (d+g) a c:=⟨by have:=e.oL;have:=f.oL;omega,by have:=e.oH;have:=f.oH;omega,fun h=>f.uL (e.uL h),fun h=>f.uH (e.uH h)⟩
theorem Sk.less (c:Sk C d a b) (e:g<=d):Sk C g a b:=⟨by have:=c.oL;omega,by have:=c.oH;omega,c.uL,c.uH⟩
def Gk {α:Type} (C:Cx) (e:Nat) (s:RS):Out α->Prop
 | .go _ s'=>Sk C e s s'
 | .back _ s'=>Sk C 0 s s'
 | .stop _ s'=>Sk C 0 s s'
 | .lost=>True
theorem Gk.bind {α β:Type} {e f:Nat} {j:Out α} {h:α->RS->Out β} (c:Gk C e a j) (m:∀g b,Sk C e a b->Gk C f b (h g b)):Gk C (e+f) a (j.bind h):=by
 cases j with
 | go g b =>
  have d:=m g b c;show Gk C (e+f) a (h g b)
  cases i:h g b with
  | go n k=>rw[i]at d;exact Sk.trans c d
  | back v k=>rw[i]at d;exact(Sk.trans c d).less oA
  | stop l k=>rw[i]at d;exact(Sk.trans c d).less oA
  | lost=>trivial
 | back v b=>exact c
 | stop l b=>exact c
 | lost=>trivial
theorem Gk.less {α:Type} {c:Out α} (b:Gk C d a c) (f:g<=d):Gk C g a c:=by
 cases c with
 | go i e=>exact Sk.less b f
 | back v e=>exact b
 | stop h e=>exact b
 | lost=>trivial
theorem vJ (a:RS):Gk C 1 a (kP C.fuel a):=by
 unfold kP;split;·exact Sk.refl a
 ·exact⟨by show a.oL.length+a.st+1<=a.st+1+a.oL.length;omega,by show a.oH.length+a.st+1<=a.st+1+a.oH.length;omega,id,id⟩
theorem zg9 (d b c:Int) (a:RS):Gk C 0 a (zO d b c a):=by
 unfold zO;split<;>exact Sk.refl a
theorem zn2 (c:Int) (a:RS):Gk C 0 a (takeF C c a):=by
 unfold takeF;split
 ·split;·exact Sk.refl a
  ·rename_i b;have:=(List.getElem?_eq_some_iff.1 b).1;exact⟨by show a.oL.length+a.st+0<=a.st+a.oL.length;omega,by show a.oH.length+a.st+0<=a.st+a.oH.length;omega,id,fun _=>by show a.uH+1<=_;omega⟩
 ·split;·exact Sk.refl a
  ·rename_i b;have:=(List.getElem?_eq_some_iff.1 b).1;exact⟨by show a.oL.length+a.st+0<=a.st+a.oL.length;omega,by show a.oH.length+a.st+0<=a.st+a.oH.length;omega,fun _=>by show a.uL+1<=_;omega,id⟩
theorem zq7 (b:Lc) (a:RS) (v:Int) (q:Wd):Sk C 0 a (qJ b a v q).2:=by
 cases q<;>exact⟨by show a.oL.length+a.st+0<=a.st+a.oL.length;omega,by show a.oH.length+a.st+0<=a.st+a.oH.length;omega,id,id⟩
end
structure Gks (C:Cx) (g:Nat):Prop where
 ex:∀M l d t s,Gk C 0 s (exM C g M l d t s)
 ix:∀M l d t s,Gk C 0 s (ixM C g M l d t s)
 ar:∀M l d t vs s,Gk C 0 s (asM C g M l d t vs s)
 ca:∀M l d t s,Gk C 0 s (caM C g M l d t s)
 cl:∀d x vs s,Gk C 0 s (clM C g d x vs s)
 bl:∀M l d t s,Gk C 0 s (blM C g M l d t s)
 ss:∀M l d t s,Gk C 0 s (ssM C g M l d t s)
 st:∀M l d t s,Gk C 0 s (stM C g M l d t s)
 wh:∀M l d a b s,Gk C 0 s (whM C g M l d a b s)
variable {c e h:RS} {i j:Nat}
theorem yb9 {C:Cx} (f v:Int) (b:Sk C 1 c e) (d:Sk C 0 e h):Sk C 0 c (uN f v h):=by
 have a:=b.trans d;unfold uN;split;·exact⟨by have:=a.oL;show h.oL.length+c.st+0<=h.st+c.oL.length;omega,by have:=a.oH;show(h.oH++[v]).length+c.st+0<=h.st+c.oH.length;rw[jb];simp;omega,a.uL,a.uH⟩
 ·exact⟨by have:=a.oL;show(h.oL++[v]).length+c.st+0<=h.st+c.oL.length;rw[jb];simp;omega,by have:=a.oH;show h.oH.length+c.st+0<=h.st+c.oH.length;omega,a.uL,a.uH⟩
theorem ztw {C:Cx} {h:Int} {g:Lc} {d:Out Int} (b:Sk C 1 c e) (a:Gk C 0 e d):Gk C 0 c (d.bind fun v c=>.go g (uN h v c)):=by
 cases d with
 | go v f=>exact yb9 _ v b a
 | back v f=>exact(b.trans a).less oA
 | stop i f=>exact(b.trans a).less oA
 | lost=>trivial
theorem gks (C:Cx):∀r,Gks C r
 | 0=>by constructor<;>intros<;>simp only[exM,ixM,asM,caM,clM,blM,ssM,stM,whM]<;>trivial
 | r+1=>by
  have ih:=gks C r;constructor
  ·intro i j e c d;obtain⟨n,h,p,o⟩:=c;unfold exM;refine Gk.less (Gk.bind (f:=0) (vJ d) fun _ l _=>?_) (jz _);split
   ·refine Gk.bind (e:=0) (f:=0) (ih.ix ..) fun z b _=>?_
    split<;>exact Sk.refl _
   split;·exact ih.ca ..
   split
   ·split;·exact Gk.bind (e:=0) (f:=0) (ih.ex ..) fun w b _=>Gk.bind (e:=0) (f:=0) (ih.ex ..) fun v u _=>zg9 ..
    ·trivial
   split
   ·split;·exact Gk.bind (e:=0) (f:=0) (ih.ex ..) fun w b _=>zg9 ..
    ·trivial
   split
   ·split;·exact Gk.bind (e:=0) (f:=0) (ih.ex ..) fun w b _=>zg9 ..
    ·trivial
   exact Sk.refl _
  ·intro i j e c d;obtain⟨n,h,p,o⟩:=c;unfold ixM;split;·exact Sk.refl _
   ·split;·exact ih.ex ..
    ·trivial
  ·intro i j e c x d
   cases c with
   | nil=>unfold asM;exact Sk.refl _
   | cons c E=>unfold asM;exact Gk.bind (e:=0) (f:=0) (ih.ex ..) fun v b _=>ih.ar ..
  ·intro i j e c d;obtain⟨n,h,p,o⟩:=c;unfold caM;exact Gk.bind (e:=0) (f:=0) (ih.ar ..) fun x b _=>ih.cl ..
  ·intro e h x d;unfold clM;split;·exact Sk.refl _
   split
   ·trivial
   have y:=ih.bl (C.ps h).mod ((C.ps h).pars.zip x) (e+1) (C.ps h).body d;split<;>(rename_i a;rw[a]at y;exact y)
  ·intro i j e c d;obtain⟨n,h,p,o⟩:=c;unfold blM;exact Gk.bind (e:=0) (f:=0) (ih.ss ..) fun D b _=>Sk.refl _
  ·intro i j e c d
   cases c with
   | nil=>unfold ssM;exact Sk.refl _
   | cons c E=>unfold ssM;exact Gk.bind (e:=0) (f:=0) (ih.st ..) fun v b _=>ih.ss ..
  ·intro i j e c d;obtain⟨n,h,p,o⟩:=c;have k:=vJ (C:=C) d;unfold stM
   cases t:kP C.fuel d with
   | go w l =>
    rw[t]at k;have m:Sk C 1 d l:=k
    have g:∀q:Out Lc,Gk C 0 l q->Gk C 0 d q:=fun q s=>by
     cases q with
     | go L b=>exact(m.trans s).less oA
     | back v b=>exact(m.trans s).less oA
     | stop B b=>exact(m.trans s).less oA
     | lost=>trivial
    dsimp only[Out.bind];split
    ·trivial
    split
    ·refine g _ (Gk.bind (e:=0) (f:=0) (ih.ex ..) fun v b _=>?_);split
     ·trivial
     ·exact Sk.refl _
    split
    ·split
     ·trivial
     ·refine g _ (Gk.bind (e:=0) (f:=0) (ih.ix ..) fun z b _=>Gk.bind (e:=0) (f:=0) (ih.ex ..) fun v u _=>?_);split;·exact Sk.refl _
      ·exact zq7 ..
    split;·exact g _ (Gk.bind (e:=0) (f:=0) (ih.ca ..) fun v b _=>Sk.refl _)
    split
    ·refine g _ (Gk.bind (e:=0) (f:=0) (ih.ex ..) fun v b _=>?_);split
     ·split
      ·trivial
      ·exact ih.bl ..
     ·split;·exact ih.bl ..
      ·exact Sk.refl _
    split
    ·split
     ·trivial
     ·exact g _ (ih.wh ..)
    split;·exact ztw m (ih.ex ..)
    split
    ·refine g _ (Gk.bind (e:=0) (f:=0) (ih.ix ..) fun z b _=>Gk.bind (e:=0) (f:=0) (zn2 ..) fun v u _=>?_);split;·exact Sk.refl _
     ·exact zq7 ..
    split;·exact g _ (Gk.bind (e:=0) (f:=0) (ih.ex ..) fun v b _=>Sk.refl _)
    exact g _ (Sk.refl _)
   | back v l=>rw[t]at k;exact k
   | stop B l=>rw[t]at k;exact k
   | lost=>trivial
  ·intro i j e G K d;unfold whM;refine Gk.bind (e:=0) (f:=0) (ih.ex ..) fun v b _=>?_
   split;·exact Gk.bind (e:=0) (f:=0) (ih.bl ..) fun D u _=>ih.wh ..
   ·exact Sk.refl _
structure Inv (C:Cx) (s:RS):Prop where
 st:s.st<=C.fuel
 oL:s.oL.length<=s.st
 oH:s.oH.length<=s.st
 uL:s.uL<=C.iL.length
 uH:s.uH<=C.iH.length
theorem Inv.of {C:Cx} (a:Inv C c) (d:Ext C.fuel c e) (b:Sk C 0 c e):Inv C e:=⟨d.le a.st,by have:=b.oL;have:=a.oL;omega,by have:=b.oH;have:=a.oH;omega,b.uL a.uL,b.uH a.uH⟩
theorem Inv.go {α:Type} {C:Cx} {a:Out α} {h:α} (g:Inv C c) (b:Gd C.fuel c a) (d:Gk C 0 c a) (f:a=.go h e):Inv C e:=by
 rw[f]at b d;exact g.of b d
def Lw (n:Nat):Out Lc->Prop
 | .go l2 _=>n<=l2.length
 | _=>True
theorem Lw.any {α:Type} {d:Out α} {c:α->RS->Out Lc} (e:∀b a,Lw i (c b a)):Lw i (d.bind c):=by
 cases d with
 | go b a=>exact e b a
 | _=>trivial
theorem Lw.bind {b:Out Lc} {d:Lc->RS->Out Lc} (e:Lw i b) (f:∀a c,i<=a.length->Lw i (d a c)):Lw i (b.bind d):=by
 cases b with
 | go a c=>exact f a c e
 | _=>trivial
theorem Lw.mono {a:Out Lc} (b:Lw j a) (c:i<=j):Lw i a:=by
 cases a with
 | go e d=>exact jp c b
 | _=>trivial
theorem zj0 (a:Lc) (b:RS) (v:Int) (q:Wd):(qJ a b v q).1.length=a.length:=by
 cases q<;>simp[qJ]
structure Lns (C:Cx) (g:Nat):Prop where
 bl:∀M l d t s,Lw l.length (blM C g M l d t s)
 ss:∀M l d ks s,Lw l.length (ssM C g M l d ks s)
 st:∀M l d t s,Lw l.length (stM C g M l d t s)
 wh:∀M l d a b s,Lw l.length (whM C g M l d a b s)
theorem lns (C:Cx):∀j,Lns C j
 | 0=>⟨fun c a d f e=>by unfold blM;trivial,fun c a d h e=>by unfold ssM;trivial,fun c a d f e=>by unfold stM;trivial,fun c a d l m e=>by unfold whM;trivial⟩
 | j+1=>by
  have ih:=lns C j;refine⟨fun c a d f e=>?_,fun c a d h e=>?_,fun c a d f e=>?_,fun c a d l m e=>?_⟩
  ·cases f;unfold blM;refine Lw.bind (ih.ss ..) fun k b g=>?_
   show a.length<=(k.take a.length).length;rw[List.length_take];omega
  ·cases h with
   | nil=>unfold ssM;exact Nat.le_refl _
   | cons f o =>
    unfold ssM;exact Lw.bind (ih.st ..) fun k b g=>(ih.ss ..).mono g
  ·cases f with
   | node q p r h =>
    unfold stM;refine Lw.any fun _ s=>?_
    cases h with
    | nil=>trivial
    | cons l o =>
     dsimp only;split
     ·refine Lw.any fun v b=>?_
      split
      ·trivial
      ·show a.length<=(a++[(p,v)]).length;simp
     split
     ·split
      ·trivial
      ·refine Lw.any fun n b=>Lw.any fun v i=>?_
       split
       ·trivial
       ·show a.length<=(qJ a i v _).1.length;rw[zj0];exact Nat.le_refl _
     split;·exact Lw.any fun v b=>Nat.le_refl _
     split
     ·refine Lw.any fun v b=>?_
      split
      ·split
       ·trivial
       ·exact ih.bl ..
      ·split;·exact ih.bl ..
       ·exact Nat.le_refl _
     split
     ·split
      ·trivial
      ·exact ih.wh ..
     split;·exact Lw.any fun v b=>Nat.le_refl _
     split
     ·refine Lw.any fun n b=>Lw.any fun v i=>?_
      split
      ·trivial
      ·show a.length<=(qJ a i v _).1.length;rw[zj0];exact Nat.le_refl _
     split;·exact Lw.any fun v b=>trivial
     ·exact Nat.le_refl _
  ·unfold whM;refine Lw.any fun v b=>?_
   split;·exact Lw.bind (ih.bl ..) fun k i g=>(ih.wh ..).mono g
   ·exact Nat.le_refl _
end mdl
namespace face
open syn
def uO:List ByteArray->List (ByteArray × Bool)->Int->Option (Int × Int)
 | _,[],_=>none
 | seen,q :: r,a=>if kJ seen q.1 then some (5,a)else if 5<=seen.length then some (1,a)else uO (seen++[q.1]) r (a+1)
def zW:List Kid->List ByteArray->List ByteArray->Int->Option (Int × Int)
 | [],_,_,_=>none
 | .imp x :: r,ms,ns,a=>if kJ ms x then some (5,a)else if 6<=ms.length then some (1,a)else zW r (ms++[x]) ns (a+1)
 | .var x p l n :: r,ms,ns,a=>if kJ ns x then some (5,a)else if 20<=ns.length then some (1,a)else
  match gC n a with
  | some e=>some e
  | none=>zW r ms (ns++[x]) (a+kD (Kid.var x p l n).tree)
 | .proc x p l g ps b :: r,ms,ns,a=>if kJ ns x then some (5,a)else if 20<=ns.length then some (1,a)else if 5<ps.length then some (1,a)else
  match uO [] ps (a+1)with
  | some e=>some e
  | none=>zW r ms (ns++[x]) (a+kD (Kid.proc x p l g ps b).tree)
theorem zp2:∀(ps:List (ByteArray × Bool)) (a:List ByteArray) (b:Int),a.length+ps.length<=5->uO a ps b=dY a ps b
 | [],_,_,_=>rfl
 | q :: r,a,b,h=>by
  unfold uO dY;simp only[jd]at h;split;·rfl
  ·rw[ju oA];exact zp2 r _ _ oE
theorem zw7 (a b:ByteArray):eqS a b=eqS b a:=by unfold eqS;rw[Bool.eq_iff_iff];simp only[beq_iff_eq];exact eq_comm
theorem zu0 (b:ByteArray) (is:List ByteArray) (a:ByteArray):kJ (b :: is) a=(kJ is a||eqS a b):=by
 show(eqS b a||kJ is a)=_;rw[zw7 b a,Bool.or_comm]
theorem zb7 (d:ByteArray):∀(e:List Kid) (is c:List ByteArray) (a:Int),zW e (d :: is) c a=kV d e is c a
 | [],_,_,_=>rfl
 | .imp x :: r,is,c,a=>by
  unfold zW kV;rw[zu0];split;·rfl
  ·simp only[jd];by_cases f:5<=is.length;·rw[jv oA,jv f]
   ·rw[ju oA,ju f]
    exact zb7 d r (is++[x]) c (a+1)
 | .var x p l n :: r,is,c,a=>by
  unfold zW kV;split;·rfl
  ·split;·rfl
   ·cases gC n a with
    | some h=>rfl
    | none=>exact zb7 d r is _ _
 | .proc x p l g ps b :: r,is,c,a=>by
  unfold zW kV;split;·rfl
  ·split;·rfl
   ·split;·rfl
    ·rename_i i;rw[zp2 ps [] (a+1) oE]
     cases dY [] ps (a+1)with
     | some h=>rfl
     | none=>exact zb7 d r is _ _
end face
namespace face
open lexs syn
structure Fine (t:Tok):Prop where
 kinds:t.kind=1\/t.kind=2\/t.kind=3
 ne:t.text≠[]
 word:t.kind=1->t.text.length<=16/\vF (t.text.headD 0)=true/\t.text.all qD=true
 num:t.kind=2->zC t.text=0
 sign:t.kind=3->vF (t.text.headD 0)=false
variable {a:List UInt8} {b c:ByteArray}
theorem take_run (p:UInt8->Bool) (a:List UInt8):a.take (run p a)=a.takeWhile p:=by
 unfold run
 induction a with
 | nil=>rfl
 | cons b c ih =>
  rw[List.takeWhile_cons];cases p b;·rfl
  ·simp[ih]
theorem step_fine {c:UInt8} {i:Int} {g o:Nat} (b:qH (c :: a)=.tok i g):Fine ⟨i,(c :: a).take g,o⟩:=by
 have q:=(zdg b).1;obtain⟨e,rfl⟩:∃e,g=e+1:=⟨g - 1,oA⟩
 have m:((c :: a).take (e+1)).headD 0=c:=oC;have h:(c :: a).take (e+1)≠[]:=oC;rw[qH,List.headD_cons,fW]at b;by_cases j:(c==32||c==10)=true;·rw[jv j]at b;simp at b
 rw[ju j]at b;by_cases k:(c==35)=true;·rw[jv k]at b;simp at b
 rw[ju k]at b;cases f:vF c
 ·rw[f]at b;simp only[jr,if_false]at b;cases l:qU c
  ·rw[l]at b;simp only[jr,if_false]at b;split at b;·simp at b
   ·injection b with hk hm;subst hk;refine⟨.inr (.inr rfl),h,fun d=>by simp at d,fun d=>by simp at d,fun _=>?_⟩;show vF (((c :: a).take (e+1)).headD 0)=false;rw[m];exact f
  ·rw[l]at b;simp only[if_true]at b;split at b;·rename_i n;injection b with hk hm;subst hk;refine⟨.inr (.inl rfl),h,fun d=>by simp at d,fun _=>?_,fun d=>by simp at d⟩;rw[<- hm];simpa using n
   ·simp at b
 ·rw[f]at b;simp only[if_true]at b;split at b;·simp at b
  ·rename_i p;injection b with hk hm;subst hk;refine⟨.inl rfl,h,fun _=>⟨?_,?_,?_⟩,fun d=>by simp at d,fun d=>by simp at d⟩;·show((c :: a).take (e+1)).length<=16;rw[List.length_take];omega
   ·show vF (((c :: a).take (e+1)).headD 0)=true;rw[m];exact f
   ·show((c :: a).take (e+1)).all qD=true;rw[<- hm,take_run];exact List.all_takeWhile
theorem scanL_fine:∀(c:Nat) (g:List UInt8) (f:Nat) (b toks:List Tok),qT c g f b=.ok toks->(∀d∈b,Fine d)->∀d∈toks,Fine d
 | 0,g,f,b,toks,h,ha=>by
  unfold qT at h;injection h with h;subst h
  exact ha
 | c+1,[],f,b,toks,h,ha=>by
  unfold qT at h;injection h with h;subst h
  exact ha
 | c+1,i :: r,f,b,toks,h,ha=>by
  cases e:qH (i :: r)with
  | skip j=>rw[zbu e]at h;exact scanL_fine c _ _ _ _ h ha
  | fault k=>rw[zbp e]at h;simp at h
  | tok l j =>
   rw[zao e]at h;refine scanL_fine c _ _ _ _ h ?_;intro d a;rw[List.mem_append]at a;rcases a with a | a
   ·exact ha d a
   ·simp only[jy]at a;subst a;exact step_fine e
theorem scan_fine {toks:List Tok} (b:scan a=.ok toks):∀c∈toks,Fine c:=by
 unfold scan at b;split at b;·simp at b
 ·exact scanL_fine _ _ _ _ _ b (fun c d=>by simp at d)
def raw (t:Tok):ByteArray:=⟨t.text.toArray⟩
theorem raw_list (a:Tok):(raw a).data.toList=a.text:=rfl
theorem raw_size (a:Tok):(raw a).size=a.text.length:=by rw[<- lexs.len_L,raw_list]
def ownName (t:Tok):Bool:=!(xS.any fun y=>eqS y (raw t))&&t.kind==1
theorem zj6 (a:b.data.toList=c.data.toList):b=c:=WideShapes.bytes_inj a
theorem znv :eqS b c=true ↔ b=c:=by
 unfold eqS;rw[beq_iff_eq,ByteArray.toList_eq,ByteArray.toList_eq];exact⟨zj6,fun a=>by rw[a]⟩
def zrb (x:ByteArray):List Tok->Bool
 | [t]=>ownName t&&eqS (raw t) x
 | _=>false
def zbb (x:ByteArray):Bool:=zrb x (scan x.data.toList).toks
theorem zs8 {a:Tok} (d:Fine a) (b:ownName a=true):kO (raw a)=true:=by
 unfold ownName at b;simp only[jj,beq_iff_eq]at b;obtain⟨f,g,h⟩:=d.word b.2
 have j:1<=(raw a).size:=by
  rw[raw_size];have:=d.ne
  cases c:a.text with
  | nil=>exact absurd c this
  | cons k l=>simp
 unfold kO;rw[raw_list];have c:qV ((a.text.headD 0).toNat:Int)=true:=g;have i:a.text.all (fun e=>uZ (e.toNat:Int))=true:=h;rw[c,i,decide_eq_true ⟨j,by rw[raw_size];exact f⟩,b.1];rfl
theorem yan (b:a.all qD=true):run qD a=a.length:=by
 apply zq6;·intro d c _;exact List.all_eq_true.1 b _ (jH c)
 ·exact .inl rfl
theorem zwm (e:kO b=true):scan b.data.toList=.ok [⟨1,b.data.toList,0⟩]:=by
 unfold kO at e;simp only[jj,jl]at e;obtain⟨⟨⟨⟨o,p⟩,i⟩,h⟩,_⟩:=e;have g:b.data.toList.length=b.size:=lexs.len_L b;unfold scan;rw[ju oA]
 cases k:b.data.toList with
 | nil=>rw[k]at g;simp at g;omega
 | cons a d =>
  rw[k]at i h g;have f:vF a=true:=i;have n:run qD (a :: d)=(a :: d).length:=yan h
  have l:(a==32||a==10)=false:=by
   cases c:(a==32||a==10)with
   | false=>rfl
   | true =>
    simp only[Bool.or_eq_true,beq_iff_eq]at c;rcases c with rfl | rfl<;>simp[vF,qV]at f
  have m:(a==35)=false:=by
   cases c:(a==35)with
   | false=>rfl
   | true =>
    simp only[beq_iff_eq]at c;subst c;simp[vF,qV]at f
  have j:qH (a :: d)=.tok 1 (a :: d).length:=by
   rw[qH,List.headD_cons,fW,l,m,f,n];simp only[jr,if_false,if_true];rw[ju oA]
  rw[jd]at j |-;rw[zao j];rw[List.drop_eq_nil_of_le oC,zky,jG oC];rfl
theorem zyv (a:ByteArray):zbb a=kO a:=by
 unfold zbb
 cases b:kO a with
 | true =>
  rw[zwm b];show(ownName _&&eqS _ a)=true;have d:raw ⟨1,a.data.toList,0⟩=a:=zj6 rfl;rw[d];unfold ownName;rw[d];unfold kO at b;simp only[jj]at b;rw[b.2,znv.2 rfl]
  rfl
 | false =>
  cases c:scan a.data.toList with
  | err i p=>rfl
  | ok f =>
   show zrb a f=false
   match f,c with
   | [],_=>rfl
   | [t],c =>
    show(ownName t&&eqS (raw t) a)=false
    cases h:ownName t with
    | false=>rfl
    | true =>
     cases g:eqS (raw t) a with
     | false=>rfl
     | true =>
      have e:=zs8 (scan_fine c t oC) h;rw[znv.1 g,b]at e
      cases e
   | _ :: _ :: _,_=>rfl
end face
namespace pr
open syn face chk
theorem zg4 {α:Type} {a c b d:Int} (e:(chk.Res.bad a c:chk.Res α)=.bad b d):a=b:=by injection e
theorem zl5 {E:Env} {L:List chk.Loc} {ctx:Int} {d:Bool} {f:Int} {h:ByteArray} {g:List Int} {c b e:Int} (a:yV E L ctx d f h g c=.bad b e):b≠0:=by
 unfold yV at a
 repeat' split at a
 all_goals first | (have:=zg4 a;omega) | cases a
section
variable (E:Env) (L:List chk.Loc) (ctx:Int)
mutual
theorem zg7:∀(f:Tree) (d:Bool) (c a e:Int),exF E L ctx d f c=.bad a e->a≠0
 | .node k x m ks,d,c,a,e,h=>by
  unfold exF at h;split at h;·rename_i b;cases h;exact zdl ks _ _ _ b
  ·split at h;·rename_i b;cases h;exact zl5 b
   ·cases h
theorem zdl:∀(e:List Tree) (b a c:Int),exL E L ctx e b=.bad a c->a≠0
 | [],b,a,c,h=>by unfold exL at h;cases h
 | t :: r,b,a,c,h=>by
  unfold exL at h;split at h;·rename_i d;cases h;exact zg7 t _ _ _ _ d
  ·split at h;·rename_i d;cases h;exact zdl r _ _ _ d
   ·cases h
end
theorem yac (d:Tree) (e c f:Int) (a:plF E L ctx d e=.bad c f):c≠0:=by
 obtain⟨h,j,i,g⟩:=d;unfold plF at a;dsimp only at a;split at a;·rename_i b;cases a;exact zdl E L ctx g _ _ _ b
 ·split at a;·rename_i b;cases a;exact zl5 b
  ·cases a
end
theorem zyo {E:Env} {p:Pr} {L:List chk.Loc} {ctx f:Int} {i:Bool} {g:Int} {k:ByteArray} {j:Int} {h:List Tree} {d c e:Int} (a:xL E p L ctx f i g k j h d=.bad c e):c≠0:=by
 unfold xL at a
 repeat' split at a
 all_goals first
  | (cases a;done)
  | (have:=zg4 a;omega)
  | (rename_i b;cases a;first | exact zdl _ _ _ _ _ _ _ b | exact zg7 _ _ _ _ _ _ _ _ b | exact yac _ _ _ _ _ _ _ b)
section
variable (E:Env) (p:Pr)
mutual
theorem yas:∀(i:Tree) (ctx d:Int) (e:Bool) (L:List chk.Loc) (b a c:Int),stF E p ctx d e i L b=.bad a c->a≠0
 | .node k x m ks,ctx,d,e,L,b,a,c,h=>by
  unfold stF at h;split at h
  ·cases ks with
   | nil=>cases h
   | cons j g =>
    dsimp only at h;split at h;·rename_i f;cases h;exact zg7 _ _ _ _ _ _ _ _ f
    ·exact zlb g _ _ _ _ _ _ h
  ·exact zyo h
theorem zlb:∀(f:List Tree) (ctx d:Int) (L:List chk.Loc) (b a c:Int),yG E p ctx d f L b=.bad a c->a≠0
 | [],ctx,d,L,b,a,c,h=>by unfold yG at h;cases h
 | t :: r,ctx,d,L,b,a,c,h=>by
  unfold yG at h;split at h;·rename_i e;cases h;exact znq t _ _ _ _ _ _ e
  ·exact zlb r _ _ _ _ _ _ h
theorem znq:∀(f:Tree) (ctx d:Int) (L:List chk.Loc) (b a c:Int),blF E p ctx d f L b=.bad a c->a≠0
 | .node k x m ks,ctx,d,L,b,a,c,h=>by
  unfold blF at h;split at h;·rename_i e;cases h;exact znj ks _ _ _ _ _ _ e
  ·cases h
theorem znj:∀(f:List Tree) (ctx d:Int) (L:List chk.Loc) (b a c:Int),zM E p ctx d f L b=.bad a c->a≠0
 | [],ctx,d,L,b,a,c,h=>by unfold zM at h;cases h
 | t :: r,ctx,d,L,b,a,c,h=>by
  unfold zM at h;split at h;·rename_i e;cases h;exact yas t _ _ _ _ _ _ _ e
  ·exact znj r _ _ _ _ _ _ h
end
end
theorem yaf {E:Env} {q:ProcD} {ps:List (ByteArray × Bool)} {d:Tree} {f:Bool} {c b e:Int} (a:prF E q ps d f c=.bad b e):b≠0:=by
 unfold prF at a;split at a;·rename_i g;cases a;exact znq _ _ _ _ _ _ _ _ _ g
 ·split at a;·have:=zg4 a;omega
  ·cases a
theorem mo_code (own:FaceD) (d:List FaceD):∀(e:List Kid) (c:List FaceD) (a:Int) (q:Int × Int),moF own d e c a=some q->q.1≠0
 | [],c,a,q,h=>by unfold moF at h;cases h
 | .imp x :: r,c,a,q,h=>by
  unfold moF at h;split at h;·cases h;show(4:Int)≠0;decide
  ·exact mo_code own d r _ _ _ h
 | .var x p l n :: r,c,a,q,h=>by
  unfold moF at h
  exact mo_code own d r _ _ _ h
 | .proc x p l g ps b :: r,c,a,q,h=>by
  unfold moF at h;split at h;·rename_i f;cases h;exact yaf f
  ·exact mo_code own d r _ _ _ h
end pr
end Go.Proofs.YtbjppepjmcfkaaaGreatDoor
