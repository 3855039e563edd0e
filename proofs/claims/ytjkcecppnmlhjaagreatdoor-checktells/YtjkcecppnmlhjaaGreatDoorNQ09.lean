/- A map of one's own from names to faces: what it holds, by a plain function. -/
import Derived.Test.YtjkcecppnmlhjaaGreatDoorNQr
import Derived.Test.YtjkcecppnmlhjaaGreatDoorNQ08
set_option linter.unusedVariables false
set_option linter.unusedSimpArgs false
set_option maxRecDepth 100000
namespace Go.Proofs.YtjkcecppnmlhjaaGreatDoor
namespace face
open Go.RowKit Go.Maps Go.WideMaps
open syn (kE eqS)
/-! how many names are known: plain facts -/
def zJ (x:ByteArray):Lit:=.string x.data.toList
def yO (l:List ByteArray):List Lit:=l.map zJ
theorem zfx (a b:ByteArray):(zJ a).sameKey (zJ b)=eqS a b:=by
 show(a.data.toList==b.data.toList)=eqS a b;unfold eqS;rw[ByteArray.toList_eq,ByteArray.toList_eq]
theorem zio (c:List ByteArray) (a:ByteArray):((yO c).any fun b=>b.sameKey (zJ a))=kH c a:=by
 unfold yO kH;rw[List.any_map]
 congr 1
 funext b
 exact zfx b a
theorem zm2:∀(b a:List Lit),(b.foldl addKey a).length<=a.length+b.length
 | [],a=>oB
 | x :: r,a=>by
  rw[List.foldl_cons];have c:=zm2 r (addKey a x);have d:(addKey a x).length<=a.length+1:=by unfold addKey;split<;>simp
  simp only[jd];omega
theorem zie:∀(c a:List ByteArray),(((yO c).foldl addKey (yO a)).length==a.length+c.length)=apartB a c
 | [],a=>by simp[yO,apartB]
 | b :: r,a=>by
  show(((zJ b :: yO r).foldl addKey (yO a)).length==a.length+(r.length+1))=(!kH a b&&apartB (a++[b]) r)
  rw[List.foldl_cons];unfold addKey;rw[zio];cases g:kH a b
  ·simp only[jr,if_false,Bool.not_false,Bool.true_and];have d:yO a++[zJ b]=yO (a++[b]):=by simp[yO]
   have:=zie r (a++[b]);rw[d,<- this];simp only[jb,jd,je]
   congr 1
   omega
  ·simp only[if_true,Bool.not_true,Bool.false_and];have:=zm2 (yO r) (yO a);have e:(yO a).length=a.length:=by simp[yO]
   have f:(yO r).length=r.length:=by simp[yO]
   rw[beq_eq_false_iff_ne];show(List.foldl addKey (yO a) (yO r)).length≠_;omega
def setD (l:List ByteArray):DataW Unit:=setOf (.agg []) (yO l)
theorem zjb (a:List ByteArray):(Maps.size (setD a)==a.length)=apartB [] a:=by
 unfold setD;rw[size_setOf _ _ (fun c b=>by obtain⟨d,_,rfl⟩:=List.mem_map.1 b;trivial)];have:=zie a [];simpa[yO] using this
theorem zjc (a:List ByteArray) (b:ByteArray):setD (a++[b])=(setD a).put (zJ b) (.agg []):=by
 unfold setD yO;rw[List.map_append,List.map_singleton,setOf_snoc]
/-! the map while it is filled -/
theorem gY:Keyed Tryz.prog 9:=string_keyed Tryz.underlying9
theorem zrr {b:ByteArray} (a:kE b=true):b.size<=maxLen:=by
 unfold kE at a;simp only[jj,jl]at a;have:=a.1.1.1.2;unfold maxLen;omega
theorem zj2 {a:ByteArray} (b:kE a=true):keyOf Tryz.prog 9 (.string a)=some (zJ a):=keyOf_string_mk Tryz.underlying9 (zrr b)
theorem zb0 {w w':World} (a:Below w.heap.size w w'):w.grownBy w' none:=⟨a.os,a.tape,a.output,a.size,fun c b _=>a.block c b⟩
theorem zeh {w w':World} {row:Option Nat} (c:w.grownBy w' row) {a:Addr} {v:Value} (b:w.cell? a=some v) (d:some a.block≠row):w'.cell? a=some v:=by
 have:=c.block a.block (jR w a b) d;unfold World.cell? at b |-;rw[this];exact b
end face
namespace chk
open Go.RowKit Go.Maps Go.WideMaps
open syn face
def zab (v:Value):Option (DataW Value × List MemPlace):=some (.held v,[])
def kZ (w:World) (b n:Nat) (f:ByteArray->Option Value):Prop :=
 ∃D:DataW Value,w.ownsMap Tryz.prog 9 zab b n D/\∀x:ByteArray,Maps.has D (zJ x)=(f x).isSome/\∀v,f x=some v->∀a,D.atKey (zJ x) a=.held v
def vH:Value:=.agg #[.string ⟨#[]⟩,.slice none 0 0,.slice none 0 0]
theorem zqr (w:World):(zeroValue 38).run Tryz.prog w=.ok vH w:=oD
theorem zjz {v b:Value} {ps:List MemPlace} (a:zab v=some (.held b,ps)):v=b:=by
 unfold zab at a;simp only[jh,Prod.mk.injEq,DataW.held.injEq]at a;exact a.1
section
variable {w w':World} {b n:Nat} {f:ByteArray->Option Value}
variable {a c:ByteArray}
theorem kZ.made (w:World):kZ (w.alloc (.map #[] 0)) w.heap.size 0 (fun _=>none) :=
 ⟨.map [],World.ownsMap_made _ _ _ _,fun b=>⟨rfl,fun v a=>by cases a⟩⟩
theorem kZ.lt (a:kZ w b n f):b<w.heap.size:=by
 obtain⟨c,a,_⟩:=a;exact a.lt
theorem kZ.kept {row:Option Nat} (a:kZ w b n f) (e:w.grownBy w' row) (g:some b≠row):kZ w' b n f:=by
 obtain⟨c,a,d⟩:=a;exact⟨c,a.kept e g,d⟩
theorem kZ.below (a:kZ w b n f) (c:Below w.heap.size w w'):kZ w' b n f:=a.kept (zb0 c) oB
theorem kZ.setCell (a:kZ w b n f) {c:Addr} (h:b≠c.block) (d:Value):kZ (w.setCell c d) b n f:=by
 obtain⟨e,a,g⟩:=a;exact⟨e,a.setCell h d,g⟩
theorem zpl (d:eqS a c=false):zJ a≠zJ c:=fun b=>by
 have:=zfx a c;rw[b,zfx,d]at this;have e:eqS c c=true:=by unfold eqS;simp
 rw[e]at this;cases this
theorem zzo (b:eqS a c=true):zJ a=zJ c:=by
 unfold eqS at b;unfold zJ;rw[<- ByteArray.toList_eq,<- ByteArray.toList_eq];rw[beq_iff_eq]at b;rw[b]
theorem zi2 (a:ByteArray):WideAt.IsKeyLit (zJ a):=trivial
theorem kZ.look (c:kZ w b n f) (a:ByteArray) (o:a.size<=maxLen):(Instr.lookup 34 (.map (some b)) (.string a) false).run Tryz.prog w=.ok ((f a).getD vH) w:=by
 obtain⟨d,c,j⟩:=c;obtain⟨v,ps,l,m⟩:=c.lookup gY Tryz.underlying34 (zqr w) (zd:=.held vH) (zp:=[]) rfl (keyOf_string_mk Tryz.underlying9 o);rw[l];obtain⟨e,k⟩:=j a
 have i:d.atKey (zJ a) (.held vH)=.held ((f a).getD vH):=by
  cases g:f a with
  | none=>rw[g]at e;exact atKey_of_not_has e _
  | some p=>exact k p g _
 have h:zab v=some (d.atKey (zJ a) (.held vH),ps):=m;rw[i]at h;rw[zjz h]
theorem kZ.put {d:DataW Value} {v:Value} (i:∀b:ByteArray,Maps.has d (zJ b)=(f b).isSome/\∀v,f b=some v->∀c,d.atKey (zJ b) c=.held v) (j:IsMap d):∀b:ByteArray,Maps.has (d.put (zJ a) (.held v)) (zJ b)=((if eqS b a then some v else f b):Option Value).isSome/\∀e,(if eqS b a then some v else f b)=some e->∀c,(d.put (zJ a) (.held v)).atKey (zJ b) c=.held e:=by
 intro b
 cases g:eqS b a with
 | true =>
  rw[zzo g,jv rfl];refine⟨has_put_same j (zi2 a) _,fun e h c=>?_⟩;cases h
  exact atKey_put_same j (zi2 a) _ _
 | false =>
  rw[ju oC];refine⟨(has_put_other (zpl g) _).trans (i b).1,fun e h c=>?_⟩;rw[atKey_put_other (zpl g)];exact(i b).2 e h c
theorem kZ.store (a:kZ w b n f) (k:n<maxLen) (c:ByteArray) (l:c.size<=maxLen) (v:Value):∃w',(Instr.mapUpdate 34 (.map (some b)) (.string c) v).run Tryz.prog w=.ok () w'/\kZ w' b (n+1) (fun e=>if eqS e c then some v else f e)/\w.grownBy w' (some b):=by
 obtain⟨m,a,g⟩:=a;obtain⟨w',h,i,j⟩:=a.update gY Tryz.underlying34 k (keyOf_string_mk Tryz.underlying9 l) (d:=.held v) (ps:=[]) rfl;exact⟨w',h,⟨_,i,kZ.put g a.isMap⟩,j⟩
end
theorem zao {w:World} {b n:Nat} {f:ByteArray->Option Value} {o:Array Oper} {rest:List Oper} {d:Oper} {c:Act} {k:Exit->Act->World->Prop} (t:d.guard=none) (h i:Operand) (x:d.op=Op.lookup 34 h i true) (u:c.eval h=.map (some b)) (e:kZ w b n f) (a:ByteArray) (z:a.size<=maxLen) (y:c.eval i=.string a) (s:wpList Tryz.prog o k rest (c.put d.dst (.tuple #[(f a).getD vH,.bool (f a).isSome])) w):wpList Tryz.prog o k (d :: rest) c w:=by
 obtain⟨j,e,q⟩:=e;refine wpList_lookup_own_ok w t h i 34 x 9 38 gY Tryz.underlying34 zab (zqr w) (.held vH) [] rfl b n j u e (.string a) (zJ a) y (keyOf_string_mk Tryz.underlying9 z) ?_;intro v ps m;obtain⟨g,r⟩:=q a
 have p:j.atKey (zJ a) (.held vH)=.held ((f a).getD vH):=by
  cases l:f a with
  | none=>rw[l]at g;exact atKey_of_not_has g _
  | some B=>exact r B l _
 rw[p]at m;rw[zjz m,g];exact s
theorem ztc {w:World} {b n:Nat} {f:ByteArray->Option Value} {k:Array Oper} {rest:List Oper} {e:Oper} {a:Act} {j:Exit->Act->World->Prop} (r:e.guard=none) (h i v:Operand) (x:e.op=Op.mapUpdate 34 h i v) (t:a.eval h=.map (some b)) (d:kZ w b n f) (u:n<maxLen) (c:ByteArray) (B:c.size<=maxLen) (z:a.eval i=.string c) (g:Value) (y:a.eval v=g) (q:∀w',kZ w' b (n+1) (fun l=>if eqS l c then some g else f l)->w.grownBy w' (some b)->wpList Tryz.prog k j rest (a.put e.dst undef) w'):wpList Tryz.prog k j (e :: rest) a w:=by
 obtain⟨m,d,o⟩:=d;refine wpList_mapUpdate_own w r h i v 34 x 9 38 gY Tryz.underlying34 zab b n m t d u (.string c) g (zJ c) z y (keyOf_string_mk Tryz.underlying9 B) (.held g) [] rfl ?_;intro w' p s;exact q w' ⟨_,p,kZ.put o d.isMap⟩ s
end chk
end Go.Proofs.YtjkcecppnmlhjaaGreatDoor
