/- What the reference's Scan answers: a contract. -/
import Derived.Test.YtjkcecppnmlhjaaGreatDoorNQr
import Derived.Test.YtjkcecppnmlhjaaGreatDoorNQ11
import Derived.Deep.CutBlock
import Derived.Deep.DeepCutAuto
open Go.Proofs.Tryz
open Go.Value renaming int → U, string → I, slice → J, bool → Y, agg → Za, pointer → Zp
open Go.IntKind renaming i64 → O
open Go.Obj renaming cells → Zc
open Go.Addr renaming mk → A
open Option renaming none → F, some → Z
open Bool renaming false → X, true → H
open Go renaming World → Zw, Value → Zv
set_option maxHeartbeats 4000000
set_option linter.unusedVariables false
set_option linter.unusedSimpArgs false
set_option maxRecDepth 100000
namespace Go.Proofs.YtjkcecppnmlhjaaGreatDoor
theorem oz12x107 {B:Prop} (t:B:=by
 go_wp2_with (fail);refine(rU ag K.out).mono ?_;rintro l g5 ⟨rfl,a9,s,k,j,aO,d,i⟩;have p:Hid (s=X->a.length=ls.length):=fun t=>ae.out (aO t).1
 replace e:=e.grown a9 a2;replace o:=o.kept a9 a5;replace m:=m.trans a9;clear a9 ag K ae aO M N P Q R S;go_wp2
 go_meet
 case rel=>exact⟨s,k,j,p,d,m,e,o,i⟩):B:=t
theorem oz12x108 {B:Prop} (t:B:=by
 go_wp2_with (fail);refine(rU d g.out).mono ?_;rintro l fm ⟨rfl,T,ar,aB,az,fY,ah,ad⟩;have aR:Hid (ar=X->a.length=ls.length):=fun _=>aw.out
 clear d g b0 aZ M N P Q R S;go_wp2;go_roundw
 case rel=>exact⟨f+1,ar,aB,az,oA,oJ,aR,ah,W.trans T,u.grown T a2,ac.kept T a5,ad⟩
 case measure=>simp[intOf];omega):B:=t
theorem oz12x113 {B:Prop} (t:B:=by
 go_wp2_with (fail);refine(rU d g.out).mono ?_;rintro l fm ⟨rfl,T,ar,aB,az,_,ah,ad⟩;replace u:=u.grown T a2;obtain⟨M,N,P,Q,R,S,_,_,_,_,_,_⟩:=u;clear d g;go_wp2
 exact aT.out _ _ _ rfl (XR.ofKU ad.out rfl ah) (W.trans T)):B:=t
theorem oz12y119 {a8:Prop} (K:a8:=by
 have:=(a6.lt _ b).1;omega):a8:=K
theorem oz12x102 {a:Prop} (e:a:=by
 have az:=zbc 9 underlying9 b a n oA;have ay:0<n:=zmw h T j.out;have a9:(b.extract a (a+n)).size=n:=by rw[<- len_L,Lib.extract_data,List.length_take,List.length_drop,len_L];omega
 obtain⟨C,a3⟩:∃C,C=numE ((b.data.toList.drop a).take n):=⟨_,rfl⟩
 have ao:∀w,Calls prog 57 #[I (b.extract a (a+n))] w fun f w'=>f=.returned (U O C)/\w'=w:=by
  have e:=zwq (b.extract a (a+n)) (by rw[a9];unfold maxLen;omega) (by rw[a9];exact ay);rw[Lib.extract_data,Nat.add_sub_cancel_left,<- a3]at e;exact e
 have af:Hid (C=numE ((b.data.toList.drop a).take n)):=a3;clear a9 a3;cases an:(C==0)
 ·have t:Hid (kU (b.data.toList.drop a)=.fault (C)):=by
   show _=_;have e:=an;rw[af.out]at e |-;exact zp6 h x u E N T j.out e
  have G:=zcp h t.out HS.out;subst G
  go_wp2_with (first
   | (go_at_call 54;refine(vS _ _).mono ?_;rintro f w' ⟨rfl,c⟩;obtain rfl:=c.symm)
   | (go_at_call 53;refine(uT _ _).mono ?_;rintro f w' ⟨rfl,c⟩;obtain rfl:=c.symm)
   | (go_at_call 56;refine(zbv _ _).mono ?_;rintro f w' ⟨rfl,c⟩;obtain rfl:=c.symm)
   | (go_at_call 57;refine(ao _).mono ?_;rintro f w' ⟨rfl,c⟩;obtain rfl:=c.symm))
  refine jT (v:=.tuple #[J F 0 0,Za #[U O (C),U O a]]) (by simp[results,results27,go_sem,a7,a8,ah]) rfl ⟨_,rfl,World.ownsRow_nil _ _ _ _,?_⟩;exact(((dT r).setCell (jE _) _).setCell (jE _) _).alloc oH _
 ·have t:Hid (kU (b.data.toList.drop a)=.tok 2 n):=by
   show _=_;have e:=an;rw[af.out]at e;exact zp7 h x u E N T j.out e
  go_wp2_with (first
   | (go_at_call 54;refine(vS _ _).mono ?_;rintro f w' ⟨rfl,c⟩;obtain rfl:=c.symm)
   | (go_at_call 53;refine(uT _ _).mono ?_;rintro f w' ⟨rfl,c⟩;obtain rfl:=c.symm)
   | (go_at_call 56;refine(zbv _ _).mono ?_;rintro f w' ⟨rfl,c⟩;obtain rfl:=c.symm)
   | (go_at_call 57;refine(ao _).mono ?_;rintro f w' ⟨rfl,c⟩;obtain rfl:=c.symm)
   | (at_builtin;refine wpList_append_own _ rfl (.tmp 101) (.tmp 103) 60 rfl (w.heap.size+1) 76 ad (Za #[U O 0,I ⟨#[]⟩,U O 0]) 3 32 underlying60 hi aa ab ac rfl oC _ _ _ rfl ((o.alloc _).alloc _) (A (wr.heap.size+1) 0 F) 1 1 [U O 2,I (b.extract a (a+n)),U O (a:Int)] rfl rfl (zbz _ _ _ _ _ _ oB) (zcg _ _ _) (by unfold maxLen;omega) oA oH ?_;intro W B z y V;have a2:Hid (B.ownsRow (w.heap.size+1) 76 3 W (i.length+1) (cellsOf i++[U O 2,I (b.extract a (a+n)),U O (a:Int)])/\Below (w.heap.size+1) (w.alloc (Zc #[U O 0,U O 0] 28)) B):=⟨z,zdm ((r.alloc oA _).alloc oH _) oH ((o.alloc _).alloc _) y⟩;clear z y V))
  exact oz12x114):a:=e
theorem oz12x103 {a:Prop} (e:a:=by
 go_wp2_with (first
   | (go_at_call 54;refine(vS _ _).mono ?_;rintro f w' ⟨rfl,c⟩;obtain rfl:=c.symm)
   | (go_at_call 53;refine(uT _ _).mono ?_;rintro f w' ⟨rfl,c⟩;obtain rfl:=c.symm)
   | (go_at_call 56;refine(zbv _ _).mono ?_;rintro f w' ⟨rfl,c⟩;obtain rfl:=c.symm)
   | (go_at_call 58;refine(ybj b a oA h _).mono ?_;rintro f aA ⟨s,rfl,ak,aj⟩;obtain⟨aC,aF,aN,ae,aB,aL,Q⟩:=zs5 h o r ag ak aj;clear ak aj)
   | (at_builtin;refine wpList_append_own _ rfl (.tmp 101) (.tmp 103) 60 rfl (w.heap.size+1) 76 ad (Za #[U O 0,I ⟨#[]⟩,U O 0]) 3 32 underlying60 hi aa ab ac rfl oC _ _ _ rfl ((jU Q.out.1 (own_ne o) _).alloc _) (A aA.heap.size 0 F) 1 1 [U O 3,I (b.extract a (a+s.size)),U O (a:Int)] rfl rfl (zbz _ _ _ _ _ _ oB) (zcg _ _ _) (by unfold maxLen;omega) oA oH ?_;intro W B z y V;have a2:Hid (B.ownsRow (w.heap.size+1) 76 3 W (i.length+1) (cellsOf i++[U O 3,I (b.extract a (a+s.size)),U O (a:Int)])/\Below (w.heap.size+1) (w.alloc (Zc #[U O 0,U O 0] 28)) B):=⟨z,zdm ((Q.out.2.setCell oH _).alloc oH _) oH ((jU Q.out.1 (own_ne o) _).alloc _) y⟩;clear z y V))
 ·have a6:((s.size:Int)==0)=H:=by assumption
  have t:Hid (kU (b.data.toList.drop a)=.fault 2):=zo2 h x u E N T (by have e:=ae.out;rw[beq_iff_eq]at a6;omega);have G:=zcp h t.out HS.out;subst G;have am:=boxes Q.out.2;refine jT (v:=.tuple #[J F 0 0,Za #[U O 2,U O a]]) (by simp[results,results27,go_sem,am.1,am.2.1]) rfl ⟨_,rfl,World.ownsRow_nil _ _ _ _,?_⟩;exact((dT Q.out.2).setCell (jE _) _).setCell (jE _) _
 ·have a6:((s.size:Int)==0)=X:=by assumption
  have t:Hid (kU (b.data.toList.drop a)=.tok 3 s.size):=zo4 h x u E N T ae.out (by rw[beq_eq_false_iff_ne]at a6;omega)
  exact oz12x114):a:=e
theorem oz12x104 {a:Prop} (e:a:=by
 have az:=zbc 9 underlying9 b a n oA;by_cases av:n<=16
 ·have t:Hid (kU (b.data.toList.drop a)=.tok 1 n):=zo5 h x u E N j.out av
  go_wp2_with (first
   | (go_at_call 54;refine(vS _ _).mono ?_;rintro f w' ⟨rfl,c⟩;obtain rfl:=c.symm)
   | (go_at_call 53;refine(uT _ _).mono ?_;rintro f w' ⟨rfl,c⟩;obtain rfl:=c.symm)
   | (at_builtin;refine wpList_append_own _ rfl (.tmp 101) (.tmp 103) 60 rfl (w.heap.size+1) 76 ad (Za #[U O 0,I ⟨#[]⟩,U O 0]) 3 32 underlying60 hi aa ab ac rfl oC _ _ _ rfl ((o.alloc _).alloc _) (A (wr.heap.size+1) 0 F) 1 1 [U O 1,I (b.extract a (a+n)),U O (a:Int)] rfl rfl (zbz _ _ _ _ _ _ oB) (zcg _ _ _) (by unfold maxLen;omega) oA oH ?_;intro W B z y V;have a2:Hid (B.ownsRow (w.heap.size+1) 76 3 W (i.length+1) (cellsOf i++[U O 1,I (b.extract a (a+n)),U O (a:Int)])/\Below (w.heap.size+1) (w.alloc (Zc #[U O 0,U O 0] 28)) B):=⟨z,zdm ((r.alloc oA _).alloc oH _) oH ((o.alloc _).alloc _) y⟩;clear z y V))
  exact oz12x114
 ·have t:Hid (kU (b.data.toList.drop a)=.fault 1):=zo1 h x u E N j.out oA;have G:=zcp h t.out HS.out;subst G;go_wp2_with (first | (go_at_call 54;refine(vS _ _).mono ?_;rintro f w' ⟨rfl,c⟩;obtain rfl:=c.symm) | (go_at_call 53;refine(uT _ _).mono ?_;rintro f w' ⟨rfl,c⟩;obtain rfl:=c.symm));refine jT (v:=.tuple #[J F 0 0,Za #[U O 1,U O a]]) (by simp[results,results27,go_sem,a7,a8,ah]) rfl ⟨_,rfl,World.ownsRow_nil _ _ _ _,?_⟩
  exact(((dT r).setCell (jE _) _).setCell (jE _) _).alloc oH _):a:=e
theorem oz12x106 {a:Prop} (e:a:=by
 go_round
 case rel=>exact⟨n+1,oA,oJ,fun d e m D=>by
  rcases jL d (a+n)with S | S
  ·exact k.out d e m S
  ·have:d=a+n:=oA;subst this
   exact M⟩
 case measure=>simp[intOf];omega):a:=e
theorem oz12x110 {a:Prop} (e:a:=by
 have L:=go_skip h (zo3 h x u E j) HS.out
 have ap:Hid (qH q (b.data.toList.drop g) g i=R):=by
  have f:a+(g - a)=g:=oA;rw[<- f];exact L.1
 have aH:a<g:=oA;clear L j;go_wp2;go_roundw
 case rel=>exact⟨g,q,i,oA,rfl,oA,ap.out,o,oA,r⟩
 case measure=>simp[intOf];omega):a:=e
theorem oz12x114 {a:Prop} (e:a:=by
 have ai:=ych h aw ax t.out HS.out a2.out.1 a2.out.2;go_roundw
 case rel=>exact ai.2
 case measure=>have:=ai.1;simp[intOf];omega):a:=e
theorem oz12x105 {b:Prop} (e:b:=by
 simp only[Bool.true_or,Bool.or_true,Bool.false_or,Bool.not_true,Bool.false_and];go_enter func37,ntmps37;go_wp2;go_ret
 exact⟨rfl,bal _⟩):b:=e
theorem oz12x112 {u:Prop} (P:u:=by
 have l:Hid (c=X):=by show _=_;rw[D.out];unfold zai;rw[B.out,f.out];rfl
 go_enter func15,ntmps15;go_wp2_with (go_at_call 19;refine b.mono ?_;rintro g y ⟨v,rfl,d,h⟩;obtain⟨E,G,rfl,_,_⟩:=own_shape d);go_ret
 exact⟨by rw[l.out];rfl,h.alloc h.size _⟩):u:=P
theorem oz12x109 {e:Prop} (h:e:=by
 go_ret
 exact⟨vL f.out.symm,u.trans (a.mono oB)⟩):e:=h
theorem oz12x116 {e:Prop} (h:e:=by
 go_wp2_with (go_at_call 15;refine o.mono ?_;rw[g];rintro d b ⟨rfl,a⟩;have E:b.cell? (A w.heap.size 1 F)=Z (Y X):=yL a 1)
 exact oz12x109):e:=h
theorem oz12x117 {e:Prop} (h:e:=by
 go_wp2_with (go_at_call 15;refine o.mono ?_;rw[g];rintro d b ⟨rfl,a⟩)
 exact oz12x109):e:=h
theorem oz12y118 {e:Prop} (h:e:=by
 show _=_;rw[V.out,B,a2];rfl):e:=h
theorem oz12x111 {e:Prop} (h:e:=by
 go_wp2_with (go_at_call 38;refine(cH _ _).mono ?_;(first | rw[B] | rw[a2]);rintro d z ⟨rfl,j⟩;obtain rfl:=j.symm);go_ret
 exact⟨vL f.out.symm,K⟩):e:=h
theorem oz12x115 {ar:Prop} (e:ar:=by
 go_enter func7,ntmps7;go_wp2_with (go_at_call 15;refine ag.mono ?_;rw[B];rintro f l ⟨rfl,n⟩);go_ret
 exact⟨vL p.out.symm,af.trans (n.mono oB)⟩):ar:=e
namespace face
open Go.RowKit Go.Maps
open syn
section
variable {w w':Zw}
theorem DC.new (w:Zw) (a b c d e f g h:Zv) (T:TypeId):DC (w.alloc (Zc #[a,b,c,d,e,f,g,h] T)) w.heap.size a b c d e f g h:=by
 constructor<;>simp
theorem DI.new (w:Zw) (T:TypeId):DI (((w.alloc (.map #[] 0)).alloc (.map #[] 0)).alloc (Zc #[I ⟨#[]⟩,J F 0 0,J F 0 0,J F 0 0,.map (Z w.heap.size),.map (Z (w.heap.size+1)),.map F,U O 0] T)) (w.heap.size+1+1) w.heap.size (w.heap.size+1) F (J F 0 0) (J F 0 0) (J F 0 0) ⟨#[]⟩ [] [] [] [] [] [] 0:=by
 have d:uX (w.alloc (.map #[] 0)) w.heap.size []:=World.ownsMap_made _ _ _ _
 have e:uX ((w.alloc (.map #[] 0)).alloc (.map #[] 0)) (w.heap.size+1) []:=by
  have:=World.ownsMap_made (w.alloc (.map #[] 0)) prog 9 (unitElem (H:=Unit));rw[jO]at this;exact this
 have c:=DC.new ((w.alloc (.map #[] 0)).alloc (.map #[] 0)) (I ⟨#[]⟩) (J F 0 0) (J F 0 0) (J F 0 0) (.map (Z w.heap.size)) (.map (Z (w.heap.size+1))) (.map F) (U O 0) T;rw[jO,jO]at c;exact⟨c,oA,oA,fun b a=>(by cases a),FR.nil _ _ _,World.ownsRow_nil _ _ _ _,fun b a=>(by cases a),(d.alloc _).alloc _,rfl,e.alloc _,rfl,fun b a=>(by cases a),rfl⟩
theorem zrk (e:Addr) (w:Zw) : CallsD prog 39 #[Zp (Z e)] .returning w fun a f w'=>a=.returned (.tuple #[])/\f=.returning/\w'=w:=by
 have i:∀w:Zw,(binOp BinOp.eql 20 .nilIface .nilIface).run prog w=.ok (Y H) w:=fun _=>oD
 refine callsD_of_wpS func39 rfl fun h g c=>?_
 refine zd9 (by simp[recoverD,c]) ?_;simp only[ntmps39,List.size_toArray,jd,je,Nat.reduceAdd,Nat.reduceSub,Array.replicate_succ,Array.replicate_zero,List.push_toArray,List.append_toArray,js,jK,Act.put,List.setIfInBounds_toArray,List.set_cons_succ,List.set_cons_zero];refine wpS_of_wp (wp_mono (Q:=fun a b w'=>a=.normal/\b.defers=[]/\w'=w) ?_ ?_);·go_wp2
 ·rintro a b w' ⟨rfl,d,rfl⟩;exact⟨d,_,rfl,.tuple #[],by simp[results,results39],rfl,c,rfl⟩
theorem zzh (a:Nat) (c b:Int) (w:Zw) (q:w.cell? (A a 0 F)=Z (U O 0)) (e:w.cell? (A a 1 F)=Z (U O 0)) (o:w.frozen? (A a 0 F)=X) (p:w.frozen? (A a 1 F)=X) (r:a<w.heap.size) : CallsD prog 39 #[Zp (Z (A a 0 F))] (.panicking (qI c b)) w fun d m w'=>d=.returned (.tuple #[])/\m=.panicking [{ v:=.iface 28 (Za #[U O c,U O b]),recovered:=H }]/\w'.cell? (A a 0 F)=Z (U O c)/\w'.cell? (A a 1 F)=Z (U O b)/\Fr a w w':=by
 have n:=kc28;have s:∀w:Zw,(binOp BinOp.eql 20 (.iface 28 (Za #[U O c,U O b])) .nilIface).run prog w=.ok (Y X) w:=fun _=>oD
 have t:∀w:Zw,(Instr.typeAssert (.iface 28 (Za #[U O c,U O b])) 20 28 H).run prog w=.ok (.tuple #[Za #[U O c,U O b],Y H]) w:=fun _=>oD
 unfold qI;refine callsD_of_wpS func39 rfl fun h g l=>?_
 refine zb3 (v:=.iface 28 (Za #[U O c,U O b])) (cs':={ h with mode:=.panicking [{ v:=.iface 28 (Za #[U O c,U O b]),recovered:=H }] } :: g) (by simp[recoverD,l]) ?_;simp only[ntmps39,List.size_toArray,jd,je,Nat.reduceAdd,Nat.reduceSub,Array.replicate_succ,Array.replicate_zero,List.push_toArray,List.append_toArray,js,jK,Act.put,List.setIfInBounds_toArray,List.set_cons_succ,List.set_cons_zero];refine wpS_of_wp (wp_mono (Q:=fun d f w'=>d=.normal/\f.defers=[]/\w'.cell? (A a 0 F)=Z (U O c)/\w'.cell? (A a 1 F)=Z (U O b)/\Fr a w w') ?_ ?_);·go_wp2;exact(((Fr.refl _ _).set _ _).set _ _).alloc _
 ·rintro d f w' ⟨rfl,e,i,j,k⟩;exact⟨e,_,rfl,.tuple #[],by simp[results,results39],rfl,rfl,i,j,k⟩
theorem zvi {N D u t:Nat} {p:Option Nat} {s r i:Zv} {y:ByteArray} {a:List Kid} {k:List (ProcD × Zv)} {z B C:List ByteArray} {b:Int} {w0:Zw} (c:DI w D u t p s r i y (kI X a) k (qF a) z B C b) (L:k.map (·.1)=kL X a) (P:(qG a).length<=20) (K:N+1<D) (j:Nat) (h:j<=N) (v:Below j w0 w) (x f g d e:Zv) : FR (fun n=>i.ownBlock=Z n\/p=Z n) (D+1) (((((w.setCell (A N 0 F) x).setCell (A N 1 F) f).setCell (A N 2 F) g).setCell (A (N+1) 0 F) d).setCell (A (N+1) 1 F) e).drew s r (kI X a) k /\ (((((w.setCell (A N 0 F) x).setCell (A N 1 F) f).setCell (A N 2 F) g).setCell (A (N+1) 0 F) d).setCell (A (N+1) 1 F) e).drew.ownsRow (D+1) 9 1 i (qF a).length (yU (qF a)) /\ Below j w0 (((((w.setCell (A N 0 F) x).setCell (A N 1 F) f).setCell (A N 2 F) g).setCell (A (N+1) 0 F) d).setCell (A (N+1) 1 F) e).drew:=by
 refine⟨?_,?_,?_⟩;·have c:=(((((c.fr.set (M:=N) (o:=0) oA x).set (M:=N) (o:=1) oA f).set (M:=N) (o:=2) oA g).set (M:=N+1) (o:=0) oA d).set (M:=N+1) (o:=1) oA e).drew;exact c
 ·have m:i.ownBlock≠Z N:=fun l=>by have:=(c.oi.lt _ l).1;omega
  have q:i.ownBlock≠Z (N+1):=fun l=>by have:=(c.oi.lt _ l).1;omega
  have E:=jU (a:=(A (N+1) 1 F)) (jU (a:=(A (N+1) 0 F)) (jU (a:=(A N 2 F)) (jU (a:=(A N 1 F)) (jU (a:=(A N 0 F)) c.oi m x) m f) m g) q d) q e;generalize ((((w.setCell (A N 0 F) x).setCell (A N 1 F) f).setCell (A N 2 F) g).setCell (A (N+1) 0 F) d).setCell (A (N+1) 1 F) e=G at *;exact E.drew
 ·exact(((((v.setCell h _).setCell h _).setCell h _).setCell (Nat.le_succ_of_le h) _).setCell (Nat.le_succ_of_le h) _).drew
def vE (w:Zw) (m:ByteArray) (K:List Kid) (e:Ending) (w':Zw):Prop :=
 match zW K [m] [] 1 with
 | some q=>e=.returned (.tuple #[Za #[I ⟨#[]⟩,J F 0 0,J F 0 0],J F 0 0,Za #[U O q.1,U O q.2]])/\Below w.heap.size w w'
 | none=>∃(d:Nat->Prop) (B:Nat) (c b a:Zv) (P:List (ProcD × Zv)),w.heap.size<=B/\e=.returned (.tuple #[Za #[I m,c,b],a,Za #[U O 0,U O 0]])/\FR d B w' c b (kI X K) P/\P.map (·.1)=kL X K/\(qG K).length<=20/\w'.ownsRow B 9 1 a (qF K).length (yU (qF K))/\Below w.heap.size w w'
theorem zwf (d:ByteArray) (b:List Kid) (v:Zv) (w:Zw) (P:Lies (·<w.heap.size) w (.node 1 d 0 (b.map Kid.tree)) v) (aA:d.size<=16) (ay:∀k∈b,k.good) (ax:kA (b.map Kid.tree)<=1000) (aB:∀k∈b,k.kids.length<=1000) : Calls prog 18 #[v] w (vE w d b):=by
 have aJ:=kc25;have aK:=kc28;have aL:prog.cellsOf 38=3:=xG;have aM:=kc87;have aP:=@run_makeMap prog;have aO:∀(aa:Fn) (first a6:Array Zv) (w:Zw),(Instr.makeFunc aa first a6).run prog w=.ok (.func aa first a6) w:=fun _ _ _ _=>rfl
 obtain⟨D,G,r,u,E,x,rfl⟩:=zb7 P;obtain⟨a,l⟩:∃a,a=((w.alloc (Zc #[U O D,I G,U O r,J u E x] 25)).alloc (Zc #[I ⟨#[]⟩,J F 0 0,J F 0 0] 38)).alloc (Zc #[U O 0,U O 0] 28):=⟨_,rfl⟩
 have C:a.heap.size=w.heap.size+1+1+1:=by rw[l];simp
 have m:Below w.heap.size w a:=by rw[l];exact((bal _).alloc oB _).alloc oE _
 have a3:Box3 a (w.heap.size+1) (I ⟨#[]⟩) (J F 0 0) (J F 0 0):=by
  have:=(Box3.new (w.alloc (Zc #[U O D,I G,U O r,J u E x] 25)) (I ⟨#[]⟩) (J F 0 0) (J F 0 0) 38).alloc (Zc #[U O 0,U O 0] 28);rw[jO]at this;rw[l];exact this
 have a5:Box2 a (w.heap.size+1+1) (U O 0) (U O 0):=by
  have:=Box2.new ((w.alloc (Zc #[U O D,I G,U O r,J u E x] 25)).alloc (Zc #[I ⟨#[]⟩,J F 0 0,J F 0 0] 38)) (U O 0) (U O 0) 28;rw[jO,jO]at this;rw[l];exact this
 have ab:=DI.new a 87
 have af:Lies (·<a.heap.size) (((a.alloc (.map #[] 0)).alloc (.map #[] 0)).alloc (Zc #[I ⟨#[]⟩,J F 0 0,J F 0 0,J F 0 0,.map (Z a.heap.size),.map (Z (a.heap.size+1)),.map F,U O 0] 87)) (.node 1 d 0 (b.map Kid.tree)) (Za #[U O D,I G,U O r,J u E x]) :=
  P.to (fun g z=>by show g<a.heap.size;have:g<w.heap.size:=z;omega) (fun g z ai=>by
   have av:=m.cell (p:=(A g ai F)) z;have aw:=((((Below.refl a.heap.size a).alloc (jE _) (.map #[] 0)).alloc oB (.map #[] 0)).alloc oE (Zc #[I ⟨#[]⟩,J F 0 0,J F 0 0,J F 0 0,.map (Z a.heap.size),.map (Z (a.heap.size+1)),.map F,U O 0] 87)).cell (p:=(A g ai F)) (by show g<a.heap.size;have:g<w.heap.size:=z;omega)
   exact aw.trans av)
 have y:=yca d b _ _ af ab aA ay ax aB;have n:=((((Below.refl a.heap.size a).alloc (jE _) (.map #[] 0)).alloc oB (.map #[] 0)).alloc oE (Zc #[I ⟨#[]⟩,J F 0 0,J F 0 0,J F 0 0,.map (Z a.heap.size),.map (Z (a.heap.size+1)),.map F,U O 0] 87))
 have aC:(((a.alloc (.map #[] 0)).alloc (.map #[] 0)).alloc (Zc #[I ⟨#[]⟩,J F 0 0,J F 0 0,J F 0 0,.map (Z a.heap.size),.map (Z (a.heap.size+1)),.map F,U O 0] 87)).heap.size=a.heap.size+3:=oB;obtain⟨aj,q⟩:∃aj,aj=(((a.alloc (.map #[] 0)).alloc (.map #[] 0)).alloc (Zc #[I ⟨#[]⟩,J F 0 0,J F 0 0,J F 0 0,.map (Z a.heap.size),.map (Z (a.heap.size+1)),.map F,U O 0] 87)):=⟨_,rfl⟩
 rw[<- q]at y n aC;clear ab af P;rw[C]at q;rw[l]at q;rw[C]at y;go_enter_defers func18,ntmps18;go_wp2_with (fail);rw[<- q];refine y.mono ?_;clear q l y;rintro a9 t ⟨B,(⟨s,o,rfl⟩|⟨o,rfl,aU,b7,aX,aQ,L,aV,aW,aY,aI,j,ac,ae,ad⟩)⟩
 ·have c:Below a.heap.size a t:=n.trans (by rw[C];exact B);have e:=a5.below c;have M:=a3.below c;have ag:=e.lt;have aE:=zzh (w.heap.size+1+1) s.1 s.2 t e.c0 e.c1 e.f0 e.f1 ag;have h:Hid (Below w.heap.size w t):=m.trans (c.mono m.size);have K:Hid (zW b [d] [] 1=Z s):=o;clear o B c n;go_wp2;refine leaves_cons (f:=39) (args:=#[Zp (Z (A (w.heap.size+1+1) 0 F))]) oB oY ?_;refine aE.mono ?_;rintro a9 aH T ⟨rfl,rfl,ap,ar,i⟩;have ao:=M.block (w':=T) (i.block _ oA oB);obtain⟨Q,R,S,_,_,_⟩:=id ao;have am:Below w.heap.size w T:=⟨i.os.trans h.out.os,i.tape.trans h.out.tape,i.output.trans h.out.output,jp h.out.size i.size,fun ah az=>(i.block ah (by have:=h.out.size;omega) oE).trans (h.out.block ah az)⟩
  refine⟨.tuple #[Za #[I ⟨#[]⟩,J F 0 0,J F 0 0],J F 0 0,Za #[U O s.1,U O s.2]],?_,?_⟩;·simp[results,results18,go_sem,Q,R,S,ap,ar]
  ·unfold vE;rw[K.out];exact⟨rfl,am⟩
 have c:Below a.heap.size a t:=n.trans (by rw[C];exact B);have e:=a5.below c;have M:=a3.below c;have ag:=e.lt;have ak:Hid (Below w.heap.size w t):=m.trans (c.mono m.size);have K:Hid (zW b [d] [] 1=F):=o;have HP:Hid (L.map (·.1)=kL X b/\(qG b).length<=20/\(qF b).length<=6):=⟨ac,ae,ad⟩
 clear o B c n ac ae ad;obtain⟨a2,a8,rfl⟩:=j.fr.shapeV;obtain⟨W,a7,rfl⟩:=j.fr.shapeP;obtain⟨an,au,rfl,_,_⟩:=lexs.own_shape j.oi;obtain⟨aR,r,aS,aT,_,_,_,_,_⟩:=id j.dc;obtain⟨Q,R,S,b1,b2,b6⟩:=id M;obtain⟨aF,aG,aZ,b0⟩:=id e;have aN:=j.dc.lt;have V:Hid _:=zvi (N:=w.heap.size+1) j HP.out.1 HP.out.2.1 oA _ (Nat.le_succ _) ak.out (I d) (J a2 (kI X b).length a8) (J W L.length a7) (U O 0) (U O 0);go_wp2;go_region
 all_goals
  go_wp2;refine leaves_cons (f:=39) (args:=#[Zp (Z (A (w.heap.size+1+1) 0 F))]) oB oY ?_;refine(zrk _ _).mono ?_;rintro a9 aH T ⟨rfl,rfl,aD⟩;subst aD;refine⟨.tuple #[Za #[I d,J a2 (kI X b).length a8,J W L.length a7],J an (qF b).length au,Za #[U O 0,U O 0]],?_,?_⟩;·simp[results,results18,go_sem,Q,R,S,aF,aG]
  ·unfold vE;rw[K.out];exact⟨_,_,_,_,_,_,oA,rfl,V.out.1,HP.out.1,HP.out.2.1,V.out.2⟩
end
theorem zd3 {w w':Zw} (a:dA w) (b:Below w.heap.size w w'):dA w':=⟨lexs.hasErr_below a.1 b,zb2 a.2 b⟩
theorem zx9 (x:ByteArray) (w:Zw) (t:dA w) (m:(parse x).code≠0) : Calls prog 8 #[I x] w (yar w uJ [] (parse x).code (parse x).place):=by
 have G:=kc25;have K:=kc28;have L:prog.cellsOf 38=3:=xG;have a:=Joins.below_alloc2 w (Zc #[I ⟨#[]⟩,J F 0 0,J F 0 0] 38) (Zc #[U O 0,U O 0] 28);have b:=zg3 x ((w.alloc (Zc #[I ⟨#[]⟩,J F 0 0,J F 0 0] 38)).alloc (Zc #[U O 0,U O 0] 28)) (zd3 t a);unfold vJ at b;have n:((parse x).code==0)=X:=beq_false_of_ne m;have u:((parse x).code != 0)=H:=by simp[bne,n]
 generalize (parse x).code=d at b m n u;generalize (parse x).place=e at b;generalize (parse x).tree=V at b;have p:=(Box3.new w (I ⟨#[]⟩) (J F 0 0) (J F 0 0) 38).alloc (Zc #[U O 0,U O 0] 28);have g:=Box2.new (w.alloc (Zc #[I ⟨#[]⟩,J F 0 0,J F 0 0] 38)) (U O 0) (U O 0) 28;rw[jO]at g;go_enter func8,ntmps8;go_wp2_with (go_at_call 9;refine b.mono ?_;rintro M o ⟨v,rfl,y,c⟩;obtain⟨i,l,j,f,k,h,rfl⟩:=zb7 y;have q:=((p.below c).alloc (Zc #[U O i,I l,U O j,J f k h] 25)).alloc (Zc #[U O d,U O e] 28);have r:=((g.below c).alloc (Zc #[U O i,I l,U O j,J f k h] 25)).alloc (Zc #[U O d,U O e] 28);have s:=(a.trans (c.mono a.size)).trans ((Joins.below_alloc2 o (Zc #[U O i,I l,U O j,J f k h] 25) (Zc #[U O d,U O e] 28)).mono (a.trans (c.mono a.size)).size);obtain⟨C,D,E,R,S,T⟩:=id q;obtain⟨z,B,P,Q⟩:=id r);have N:w.heap.size+1<o.heap.size:=(g.below c).lt;go_region
 all_goals
  go_wp2;refine jT (v:=.tuple #[Za #[I ⟨#[]⟩,J F 0 0,J F 0 0],J F 0 0,Za #[U O d,U O e]]) (by simp[results,results8,go_sem,C,D,E,z,B]) rfl ⟨_,_,rfl,zt4 _,zt5 _,?_⟩;exact(((((s.setCell (jE _) _).setCell (jE _) _).setCell (jE _) _).setCell (Nat.le_succ _) _).setCell (Nat.le_succ _) _).drew
theorem zzx {w b:Zw} {m:Nat->Prop} {c:Nat} {q p h:Zv} {l:List VarD} {k:List (ProcD × Zv)} {L:List ByteArray} (t:w.heap.size+2<=c) (r:FR m c b q p l k) (hi:b.ownsRow c 9 1 h L.length (yU L)) (s:Below w.heap.size w b) (x f g d e:Zv) : FR m c (((((b.setCell (A w.heap.size 0 F) x).setCell (A w.heap.size 1 F) f).setCell (A w.heap.size 2 F) g).setCell (A (w.heap.size+1) 0 F) d).setCell (A (w.heap.size+1) 1 F) e) q p l k /\ (((((b.setCell (A w.heap.size 0 F) x).setCell (A w.heap.size 1 F) f).setCell (A w.heap.size 2 F) g).setCell (A (w.heap.size+1) 0 F) d).setCell (A (w.heap.size+1) 1 F) e).ownsRow c 9 1 h L.length (yU L) /\ Below w.heap.size w (((((b.setCell (A w.heap.size 0 F) x).setCell (A w.heap.size 1 F) f).setCell (A w.heap.size 2 F) g).setCell (A (w.heap.size+1) 0 F) d).setCell (A (w.heap.size+1) 1 F) e):=by
 refine⟨?_,?_,?_⟩;·exact((((r.set (M:=w.heap.size) (o:=0) oA x).set (M:=w.heap.size) (o:=1) oA f).set (M:=w.heap.size) (o:=2) oA g).set (M:=w.heap.size+1) (o:=0) oA d).set (M:=w.heap.size+1) (o:=1) oA e
 ·have j:h.ownBlock≠Z w.heap.size:=fun i=>by have:=(hi.lt _ i).1;omega
  have n:h.ownBlock≠Z (w.heap.size+1):=fun i=>by have:=(hi.lt _ i).1;omega
  exact jU (a:=(A (w.heap.size+1) 1 F)) (jU (a:=(A (w.heap.size+1) 0 F)) (jU (a:=(A w.heap.size 2 F)) (jU (a:=(A w.heap.size 1 F)) (jU (a:=(A w.heap.size 0 F)) hi j x) j f) j g) n d) n e
 ·exact((((s.setCell (jE _) _).setCell (jE _) _).setCell (jE _) _).setCell (Nat.le_succ _) _).setCell (Nat.le_succ _) _
theorem vE.bad {w:Zw} {d:ByteArray} {b:List Kid} {a:Int × Int} {c:Ending} {w':Zw} (e:zW b [d] [] 1=Z a):vE w d b c w' ↔ (c=.returned (.tuple #[Za #[I ⟨#[]⟩,J F 0 0,J F 0 0],J F 0 0,Za #[U O a.1,U O a.2]])/\Below w.heap.size w w'):=by
 unfold vE;rw[e]
theorem vE.ok {w:Zw} {c:ByteArray} {a:List Kid} {e:Ending} {w':Zw} (j:zW a [c] [] 1=F):vE w c a e w' ↔ ∃(i:Nat->Prop) (b:Nat) (h g f:Zv) (d:List (ProcD × Zv)),w.heap.size<=b/\e=.returned (.tuple #[Za #[I c,h,g],f,Za #[U O 0,U O 0]])/\FR i b w' h g (kI X a) d/\d.map (·.1)=kL X a/\(qG a).length<=20/\w'.ownsRow b 9 1 f (qF a).length (yU (qF a))/\Below w.heap.size w w':=by
 unfold vE;rw[j]
theorem zzv (x:ByteArray) (b:ByteArray) (a:List Kid) (w:Zw) (a9:dA w) (S:(parse x).code=0) (V:(parse x).tree=.node 1 b 0 (a.map Kid.tree)) (af:b.size<=16) (ab:∀k∈a,k.good) (aa:kA (a.map Kid.tree)<=1000) (ag:∀k∈a,k.kids.length<=1000) : Calls prog 8 #[I x] w (vE w b a):=by
 have ao:=kc25;have ap:=kc28;have ar:prog.cellsOf 38=3:=xG;have j:=Joins.below_alloc2 w (Zc #[I ⟨#[]⟩,J F 0 0,J F 0 0] 38) (Zc #[U O 0,U O 0] 28);have e:=zg3 x ((w.alloc (Zc #[I ⟨#[]⟩,J F 0 0,J F 0 0] 38)).alloc (Zc #[U O 0,U O 0] 28)) (zd3 a9 j);unfold vJ at e;rw[S,V]at e;generalize (parse x).place=ah at e;clear S V;have u:=(Box3.new w (I ⟨#[]⟩) (J F 0 0) (J F 0 0) 38).alloc (Zc #[U O 0,U O 0] 28);have h:=Box2.new (w.alloc (Zc #[I ⟨#[]⟩,J F 0 0,J F 0 0] 38)) (U O 0) (U O 0) 28;rw[jO]at h;go_enter func8,ntmps8
 go_wp2_with first
  | (go_at_call 9;refine e.mono ?_;rintro Q G ⟨v,rfl,ac,r⟩;obtain⟨a5,a8,rfl,ad⟩:=ztz ac;have q:=j.trans (r.mono j.size);have d:=Joins.below_alloc2 G (Zc #[U O 1,I b,U O 0,J a5 a.length a8] 25) (Zc #[U O 0,U O ah] 28);have f:=q.trans (d.mono q.size);have ae:=ad.below d;have m:=(u.below r).below d;have n:=(h.below r).below d;have aw:w.heap.size+1<G.heap.size:=(h.below r).lt;have o:=zwf b a _ _ ae af ab aa ag)
  | fail
 cases g:zW a [b] [] 1 with
 | some y =>
  refine o.mono ?_;intro Q W i;rw[vE.bad g]at i;obtain⟨rfl,c⟩:=i;obtain⟨C,D,E,ak,am,an⟩:=m.below c;obtain⟨z,B,ai,aj⟩:=n.below c;have a2:Hid (Below w.heap.size w W):=f.trans (c.mono f.size);have t:Hid (zW a [b] [] 1=Z y):=g;clear g u h m n e o c f q d j;go_wp2;refine jT (v:=.tuple #[Za #[I ⟨#[]⟩,J F 0 0,J F 0 0],J F 0 0,Za #[U O y.1,U O y.2]]) (by simp[results,results8,go_sem,C,D,E,z,B]) rfl ?_;rw[vE.bad t.out]
  exact⟨rfl,((((a2.out.setCell (jE _) _).setCell (jE _) _).setCell (jE _) _).setCell (Nat.le_succ _) _).setCell (Nat.le_succ _) _⟩
 | none =>
  refine o.mono ?_;intro Q W i;rw[vE.ok g]at i;obtain⟨a3,s,az,ay,ax,l,au,rfl,p,R,T,hi,c⟩:=i;obtain⟨M,P,rfl⟩:=p.shapeV;obtain⟨L,N,rfl⟩:=p.shapeP;obtain⟨a6,a7,rfl,_,_⟩:=lexs.own_shape hi;obtain⟨C,D,E,ak,am,an⟩:=m.below c;obtain⟨z,B,ai,aj⟩:=n.below c;have av:G.heap.size<=s:=by have:=d.size;omega
  have K:Hid _:=zzx (w:=w) oA p hi (f.trans (c.mono f.size)) (I b) (J M (kI X a).length P) (J L l.length N) (U O 0) (U O 0);have HP:Hid (l.map (·.1)=kL X a/\(qG a).length<=20/\w.heap.size<=s):=⟨R,T,oA⟩
  have t:Hid (zW a [b] [] 1=F):=g;clear g u h m n e o c f q d j p hi R T;go_wp2;refine jT (v:=.tuple #[Za #[I b,J M (kI X a).length P,J L l.length N],J a6 (qF a).length a7,Za #[U O 0,U O 0]]) (by simp[results,results8,go_sem,C,D,E,z,B]) rfl ?_;rw[vE.ok t.out];exact⟨a3,s,_,_,_,l,HP.out.2.2,rfl,K.out.1,HP.out.1,HP.out.2.1,K.out.2⟩
end face
namespace face
open Go.RowKit
open lexs (Tok scan cellsOf tok_cells own_shape scan_own qV zqb)
open syn (kE zK eqS empty)
theorem eqS_lit (b:ByteArray) (a:List UInt8):eqS b ⟨a.toArray⟩=(b.toList==a):=by unfold eqS;rw[ByteArray.toList_eq ⟨a.toArray⟩]
theorem eqS_comm (x a:ByteArray):eqS x a=eqS a x:=by unfold eqS;rw[Bool.eq_iff_iff];simp only[beq_iff_eq];exact eq_comm
theorem reserved_any (x:ByteArray):(zK.any fun a=>eqS a x)=((x.toList==[100,111])||(x.toList==[101,108,115,101])||(x.toList==[103,105,118,101,115])||(x.toList==[104,105,103,104])||(x.toList==[105,102])||(x.toList==[105,109,112,111,114,116])||(x.toList==[105,110])||(x.toList==[108,111,119])||(x.toList==[109,111,100,117,108,101])||(x.toList==[111,117,116])||(x.toList==[112,114,111,99])||(x.toList==[112,117,98])||(x.toList==[114,101,116,117,114,110])||(x.toList==[119,104,105,108,101])):=by
 have d:(zK.any fun a=>eqS a x)=(zK.any fun a=>eqS x a):=by
  rw[Bool.eq_iff_iff,List.any_eq_true,List.any_eq_true];constructor;·rintro⟨a,b,c⟩;exact⟨a,b,by rw[eqS_comm];exact c⟩
  ·rintro⟨a,b,c⟩;exact⟨a,b,by rw[eqS_comm];exact c⟩
 rw[d];unfold zK;simp only[List.any_cons,List.any_nil,Bool.or_false];rw[show eqS x ⟨#[100,111]⟩=(x.toList==[100,111])from eqS_lit x [100,111],show eqS x ⟨#[101,108,115,101]⟩=(x.toList==[101,108,115,101])from eqS_lit x [101,108,115,101],show eqS x ⟨#[103,105,118,101,115]⟩=(x.toList==[103,105,118,101,115])from eqS_lit x [103,105,118,101,115],show eqS x ⟨#[104,105,103,104]⟩=(x.toList==[104,105,103,104])from eqS_lit x [104,105,103,104],show eqS x ⟨#[105,102]⟩=(x.toList==[105,102])from eqS_lit x [105,102],show eqS x ⟨#[105,109,112,111,114,116]⟩=(x.toList==[105,109,112,111,114,116])from eqS_lit x [105,109,112,111,114,116],show eqS x ⟨#[105,110]⟩=(x.toList==[105,110])from eqS_lit x [105,110],show eqS x ⟨#[108,111,119]⟩=(x.toList==[108,111,119])from eqS_lit x [108,111,119],show eqS x ⟨#[109,111,100,117,108,101]⟩=(x.toList==[109,111,100,117,108,101])from eqS_lit x [109,111,100,117,108,101],show eqS x ⟨#[111,117,116]⟩=(x.toList==[111,117,116])from eqS_lit x [111,117,116],show eqS x ⟨#[112,114,111,99]⟩=(x.toList==[112,114,111,99])from eqS_lit x [112,114,111,99],show eqS x ⟨#[112,117,98]⟩=(x.toList==[112,117,98])from eqS_lit x [112,117,98],show eqS x ⟨#[114,101,116,117,114,110]⟩=(x.toList==[114,101,116,117,114,110])from eqS_lit x [114,101,116,117,114,110],show eqS x ⟨#[119,104,105,108,101]⟩=(x.toList==[119,104,105,108,101])from eqS_lit x [119,104,105,108,101]];simp only[Bool.or_assoc]
theorem oisName (a c:Int) (x:ByteArray) (w:Zw) : Calls prog 37 #[Za #[U O a,I x,U O c]] w fun d w'=>d=.returned (Y (!(zK.any fun f=>eqS f x)&&a==1))/\Below w.heap.size w w':=by
 have g:=kc76;rw[reserved_any];cases h:(x.toList==[100,111])
 case true =>
  exact oz12x105
 cases i:(x.toList==[101,108,115,101])
 case true =>
  exact oz12x105
 cases n:(x.toList==[103,105,118,101,115])
 case true =>
  exact oz12x105
 cases o:(x.toList==[104,105,103,104])
 case true =>
  exact oz12x105
 cases p:(x.toList==[105,102])
 case true =>
  exact oz12x105
 cases q:(x.toList==[105,109,112,111,114,116])
 case true =>
  exact oz12x105
 cases r:(x.toList==[105,110])
 case true =>
  exact oz12x105
 cases s:(x.toList==[108,111,119])
 case true =>
  exact oz12x105
 cases t:(x.toList==[109,111,100,117,108,101])
 case true =>
  exact oz12x105
 cases u:(x.toList==[111,117,116])
 case true =>
  exact oz12x105
 cases j:(x.toList==[112,114,111,99])
 case true =>
  exact oz12x105
 cases k:(x.toList==[112,117,98])
 case true =>
  exact oz12x105
 cases l:(x.toList==[114,101,116,117,114,110])
 case true =>
  exact oz12x105
 cases m:(x.toList==[119,104,105,108,101])
 case true =>
  exact oz12x105
 simp only[Bool.or_false,Bool.not_false,Bool.true_and];go_enter func37,ntmps37;go_wp2;go_ret;exact⟨rfl,bal _⟩
theorem cR {w:Zw} {a:Addr} {v:Zv} (b:w.cell? a=Z v) (c:Obj):(w.alloc c).cell? a=Z v:=by
 rw[(bal c).cell (jR w a b)];exact b
theorem zhc (x:ByteArray) (w:Zw) (T:qV w) : Calls prog 15 #[I x] w fun g w'=>g=.returned (Y (kE x))/\Below w.heap.size w w':=by
 have a6:=kc76;rw[<- zw4];have b:=scan_own x w T;obtain⟨c,q⟩:∃c,c=zai x:=⟨_,rfl⟩
 rw[<- q];have D:Hid (c=zai x):=q;clear q;generalize M:(scan x.data.toList)=R at b;have B:Hid (scan x.data.toList=R):=M;clear M;generalize K:R.toks=L at b;have f:Hid (R.toks=L):=K;clear K;generalize R.code=C,R.place=a5 at b
 match L,f,b with
 | [],f,b =>
  exact oz12x112
 | [t],f,b =>
  have l:Hid (c=(ownName t&&eqS (raw t) x)):=by show _=_;rw[D.out];unfold zai;rw[B.out,f.out];rfl
  cases p:(!(zK.any fun z=>eqS z (raw t))&&t.kind==1)
  ·have m:Hid (c=X):=by show _=_;rw[l.out];unfold ownName;rw[p];rfl
   go_enter func15,ntmps15
   go_wp2_with first
    | (go_at_call 19;refine b.mono ?_;rintro g y ⟨v,rfl,d,h⟩;obtain⟨E,G,rfl,_,s⟩:=own_shape d;obtain⟨n,rfl⟩:=s oB;obtain⟨i,e,j⟩:=tok_cells d (k:=0) oB;simp only[Nat.zero_mul,Nat.zero_add,jI]at i e j;have W:=fun (a:Obj)=>cR i a;have N:=fun (a:Obj)=>cR e a;have a2:=fun (a:Obj)=>cR j a)
    | (go_at_call 37;refine(oisName _ _ _ _).mono ?_;rw[show(⟨t.text.toArray⟩:ByteArray)=raw t from rfl,p];rintro g a3 ⟨rfl,o⟩)
   go_ret;exact⟨by rw[m.out];rfl,lexs.below_next h o⟩
  ·cases Q:((raw t).toList==x.toList)
   all_goals
    have m:Hid (c=((raw t).toList==x.toList)):=by show _=_;rw[l.out];show((!(zK.any fun z=>eqS z (raw t))&&t.kind==1)&&eqS (raw t) x)=_;rw[p];rfl
    rw[Q]at m;go_enter func15,ntmps15
    go_wp2_with first
     | (go_at_call 19;refine b.mono ?_;rintro g y ⟨v,rfl,d,h⟩;obtain⟨E,G,rfl,_,s⟩:=own_shape d;obtain⟨n,rfl⟩:=s oB;obtain⟨i,e,j⟩:=tok_cells d (k:=0) oB;simp only[Nat.zero_mul,Nat.zero_add,jI]at i e j;rw[show(⟨t.text.toArray⟩:ByteArray)=raw t from rfl]at e;have S:=jR _ _ e;have W:=fun (a:Obj)=>cR i a;have N:=fun (a:Obj)=>cR e a;have a2:=fun (a:Obj)=>cR j a)
     | (go_at_call 37;refine(oisName _ _ _ _).mono ?_;rw[p];rintro g a3 ⟨rfl,o⟩;have V:=(o.cell (p:=(A n 1 F)) (by rw[jO];show n<_;have:n<y.heap.size:=S;omega));rw[N]at V)
    go_ret
    exact⟨by rw[m.out];rfl,lexs.below_next h o⟩
 | t :: t' :: r,f,b =>
  exact oz12x112
end face
namespace face
open Go.RowKit
open lexs (qV)
open syn (kE eqS)
theorem cH (n:Int) (w:Zw):Calls prog 38 #[U O n] w fun a w'=>a=.returned (Y (qM n))/\w'=w:=by
 unfold qM;cases b:(n==0)
 ·cases c:(n==1)
  all_goals
   go_enter func38,ntmps38;go_wp2;go_ret;exact⟨rfl,rfl⟩
 ·go_enter func38,ntmps38;go_wp2;go_ret;exact⟨rfl,rfl⟩
theorem qV.below {w w':Zw} (a:qV w) (b:Below w.heap.size w w'):qV w':=by
 obtain⟨v,c,d⟩:=a;exact⟨v,keep c b,d⟩
theorem yL {w d:Zw} {a:Array Zv} {c:TypeId} (e:Below (w.alloc (Zc a c)).heap.size (w.alloc (Zc a c)) d) (b:Nat):d.cell? (A w.heap.size b F)=a[b]?:=by
 rw[e.cell (p:=(A w.heap.size b F)) oB];simp
theorem zx7 (v:VarD) (w:Zw) (S:qV w) : Calls prog 16 #[qC v] w fun d w'=>d=.returned (Y (uR v))/\Below w.heap.size w w':=by
 have af:prog.cellsOf 52=4:=cell4;obtain⟨x,e,s,n⟩:=v;unfold qC;have u:=(Below.refl w.heap.size w).alloc (jE _) (Zc #[I x,Y e,U O s,U O n] 52);have o:=zhc x _ (qV.below S u);obtain⟨c,r⟩:∃c,c=uR ⟨x,e,s,n⟩:=⟨_,rfl⟩
 rw[<- r];have k:Hid (c=(kE x&&(e&&(qM s&&(decide (0<=n)&&decide (n<=64)))))):=r;clear r;cases g:kE x
 case false =>
  have f:Hid (c=X):=by show _=_;rw[k.out,g];rfl
  go_enter func16,ntmps16;exact oz12x117
 cases D:e
 case false =>
  subst D;have f:Hid (c=X):=by show _=_;rw[k.out,g];rfl
  go_enter func16,ntmps16;exact oz12x116
 subst D;cases p:qM s
 case false =>
  have f:Hid (c=X):=by show _=_;rw[k.out,g,p];rfl
  go_enter func16,ntmps16
  go_wp2_with first
   | (go_at_call 15;refine o.mono ?_;rw[g];rintro d b ⟨rfl,a⟩;have E:b.cell? (A w.heap.size 1 F)=Z (Y H):=yL a 1;have M:b.cell? (A w.heap.size 2 F)=Z (U O s):=yL a 2)
   | (go_at_call 38;refine(cH _ _).mono ?_;rw[p];rintro d z ⟨rfl,j⟩;obtain rfl:=j.symm)
  exact oz12x109
 by_cases W:0<=n
 ·by_cases aa:n<=64
  all_goals
   have f:Hid (c=decide (n<=64)):=by show _=_;rw[k.out,g,p,decide_eq_true W];rfl
   go_enter func16,ntmps16
   go_wp2_with first
    | (go_at_call 15;refine o.mono ?_;rw[g];rintro d b ⟨rfl,a⟩;have E:b.cell? (A w.heap.size 1 F)=Z (Y H):=yL a 1;have M:b.cell? (A w.heap.size 2 F)=Z (U O s):=yL a 2;have a7:b.cell? (A w.heap.size 3 F)=Z (U O n):=yL a 3)
    | (go_at_call 38;refine(cH _ _).mono ?_;rw[p];rintro d z ⟨rfl,j⟩;obtain rfl:=j.symm)
   go_ret;exact⟨vL (by rw[f.out]<;>simp[aa]),u.trans (a.mono oB)⟩
 ·have f:Hid (c=X):=by show _=_;rw[k.out,g,p,decide_eq_false W];rfl
  go_enter func16,ntmps16
  go_wp2_with first
   | (go_at_call 15;refine o.mono ?_;rw[g];rintro d b ⟨rfl,a⟩;have E:b.cell? (A w.heap.size 1 F)=Z (Y H):=yL a 1;have M:b.cell? (A w.heap.size 2 F)=Z (U O s):=yL a 2;have a7:b.cell? (A w.heap.size 3 F)=Z (U O n):=yL a 3)
   | (go_at_call 38;refine(cH _ _).mono ?_;rw[p];rintro d z ⟨rfl,j⟩;obtain rfl:=j.symm)
  exact oz12x109
/-! slices.Equal of numbers -/
theorem zwg (v:ProcD) (a8:Zv) (w:Zw) (S:qV w) (ac:IntsIn w a8 v.params) : Calls prog 17 #[qR v a8] w fun d w'=>d=.returned (Y (vO v))/\Below w.heap.size w w':=by
 have ag:prog.cellsOf 57=6:=vA;obtain⟨x,G,ps,t,q,l⟩:=v;unfold qR;obtain⟨Q,R,rfl,p,a5⟩:=ac;simp only at p a5 |-;have u:=(Below.refl w.heap.size w).alloc (jE _) (Zc #[I x,Y G,J Q ps.length R,U O t,Y q,U O l] 57);have o:=zhc x _ (qV.below S u);obtain⟨c,r⟩:∃c,c=vO ⟨x,G,ps,t,q,l⟩:=⟨_,rfl⟩
 rw[<- r];have k:Hid (c=(kE x&&(G&&(decide (ps.length<=5)&&(ps.all qM&&(qM t&&(qM l&&(q||l==0)))))))):=r;clear r;cases g:kE x
 case false =>
  have f:Hid (c=X):=by show _=_;rw[k.out,g];rfl
  go_enter func17,ntmps17;exact oz12x117
 cases D:G
 case false =>
  subst D;have f:Hid (c=X):=by show _=_;rw[k.out,g];rfl
  go_enter func17,ntmps17;exact oz12x116
 subst D;by_cases a3:ps.length<=5
 case neg =>
  have f:Hid (c=X):=by show _=_;rw[k.out,g,decide_eq_false a3];rfl
  go_enter func17,ntmps17;go_wp2_with (go_at_call 15;refine o.mono ?_;rw[g];rintro d b ⟨rfl,a⟩;have E:b.cell? (A w.heap.size 1 F)=Z (Y H):=yL a 1;have M:b.cell? (A w.heap.size 2 F)=Z (J Q ps.length R):=yL a 2);exact oz12x109
 have P:Hid (c=(ps.all qM&&(qM t&&(qM l&&(q||l==0))))):=by show _=_;rw[k.out,g,decide_eq_true a3];rfl
 clear k;go_enter func17,ntmps17;go_wp2_with (go_at_call 15;refine o.mono ?_;rw[g];rintro d b ⟨rfl,a⟩;have E:b.cell? (A w.heap.size 1 F)=Z (Y H):=yL a 1;have M:b.cell? (A w.heap.size 2 F)=Z (J Q ps.length R):=yL a 2);have a7:b.cell? (A w.heap.size 3 F)=Z (U O t):=yL a 3;have q4:b.cell? (A w.heap.size 4 F)=Z (Y q):=yL a 4;have ak:b.cell? (A w.heap.size 5 F)=Z (U O l):=yL a 5;have K:Below w.heap.size w b:=u.trans (a.mono oB);go_loopw [23] (fun T ad=>∃i:Nat,i<=ps.length/\T=U O i/\ad=b/\Hid (∀m (h:m<ps.length),m<i->qM ps[m]=H)) (fun T _=>ps.length - (intOf T).toNat)
 case atStart=>exact⟨0,jz _,rfl,rfl,fun m _ h=>oA⟩
 case round =>
  obtain⟨i,ai,rfl,rfl,N⟩:=hrel;by_cases L:i<ps.length
  ·obtain⟨ah,aj,rfl,ab⟩:=a5 (by intro d;rw[d]at L;simp at L);have a6:=keep (ab i L) K;cases y:qM ps[i]
   ·have f:Hid (c=X):=by show _=_;rw[P.out,bU i L y];rfl
    generalize ps[i]=ae at y a6;go_wp2_with (go_at_call 38;refine(cH _ _).mono ?_;rw[y];rintro d z ⟨rfl,j⟩;obtain rfl:=j.symm);go_ret;exact⟨vL f.out.symm,K⟩
   ·have a9:Hid (qM ps[i]=H):=y;generalize ps[i]=ae at y a6;go_wp2_with (go_at_call 38;refine(cH _ _).mono ?_;rw[y];rintro d z ⟨rfl,j⟩;obtain rfl:=j.symm);go_roundw
    case rel=>exact⟨i+1,oA,oJ,trivial,fun m h B=>by
     rcases jL m i with C | C
     ·exact N.out m h C
     ·have:m=i:=oA;subst this
      exact a9.out⟩
    case measure=>simp[intOf];omega
  ·have V:Hid (c=(qM t&&(qM l&&(q||l==0)))):=by show _=_;rw[P.out,bL (fun m h=>N.out m h oA)];rfl
   clear P N;cases B:qM t
   ·have f:Hid (c=X):=by show _=_;rw[V.out,B];rfl
    go_wp2_with (go_at_call 38;refine(cH _ _).mono ?_;rw[B];rintro d z ⟨rfl,j⟩;obtain rfl:=j.symm);go_ret;exact⟨vL f.out.symm,K⟩
   cases a2:qM l;·have f:Hid (c=X):=oz12y118;exact oz12x111
   cases C:q;·subst C;have f:Hid (c=(l==0)):=oz12y118;exact oz12x111
   ·subst C;have f:Hid (c=H):=oz12y118;exact oz12x111
end face
namespace face
open Go.RowKit Go.Maps Go.WideMaps
open lexs (qV)
open syn (kE eqS)
structure Inv (w wr:Zw) (B:Nat) (x:ByteArray) (vv pv:Zv) (l:List ByteArray):Prop where
 below:Below w.heap.size w wr
 c0:wr.cell? (A w.heap.size 0 F)=Z (I x)
 c1:wr.cell? (A w.heap.size 1 F)=Z vv
 c2:wr.cell? (A w.heap.size 2 F)=Z pv
 lt:w.heap.size<B
 own:wr.ownsMap prog 9 (unitElem (H:=Unit)) B l.length (setD l)
theorem Inv.next {w wr g:Zw} {c:Nat} {x:ByteArray} {f e:Zv} {d:List ByteArray} (a:Inv w wr c x f e d) (b:Below wr.heap.size wr g):Inv w g c x f e d :=
 ⟨a.below.trans (b.mono a.below.size),keep a.c0 b,keep a.c1 b,keep a.c2 b,a.lt,a.own.kept (zb0 b) oB⟩
theorem Inv.put {w wr f:Zw} {b:Nat} {x i:ByteArray} {h g:Zv} {d:List ByteArray} (a:Inv w wr b x h g d) (c:wr.grownBy f (Z b)) (k:f.ownsMap prog 9 (unitElem (H:=Unit)) b (d.length+1) ((setD d).put (zJ i) (.agg []))) : Inv w f b x h g (d++[i]):=by
 have e:Z w.heap.size≠Z b:=by have:=a.lt;simp;omega
 refine⟨a.below.grown c a.below.size (fun l j=>?_),zeh c a.c0 e,zeh c a.c1 e,zeh c a.c2 e,a.lt,?_⟩;·cases j;exact ji a.lt
 ·rw[zjc,jb];exact k
theorem zat {w b:Zw} {a:Obj} (c:Below (w.alloc a).heap.size (w.alloc a) b):Below w.heap.size w b :=
 (bal a).trans (c.mono oB)
theorem zrs {v:VarD} (a:uR v=H):kE v.name=H:=by
 unfold uR at a;simp only[jj]at a;exact a.1
theorem zq8 {v:ProcD} (a:vO v=H):kE v.name=H:=by
 unfold vO at a;simp only[jj]at a;exact a.1
theorem zjf {α β:Type} (c:α->β) (b:List α) (a:Nat) (d:a<b.length):(b.take (a+1)).map c=(b.take a).map c++[c b[a]]:=by
 rw[List.take_add_one,List.map_append,List.getElem?_eq_getElem d];rfl
theorem ybx (V:FaceD) (au:Zv) (w:Zw) (ac:qV w) (aC:qX w au V) : Calls prog 7 #[au] w fun f w'=>f=.returned (Y (vB V))/\Below w.heap.size w w':=by
 have aL:prog.cellsOf 38=3:=xG;have aM:prog.cellsOf 52=4:=cell4;have aN:prog.cellsOf 57=6:=vA;have aQ:=@run_makeMap prog;obtain⟨aT,aR,rfl,am,ak⟩:=aC;obtain⟨x,b,ps⟩:=V;simp only at am ak |-;obtain⟨s,u,rfl,aO,ah⟩:=am;obtain⟨t,v,rfl,aP,ai⟩:=ak;have af:=(Below.refl w.heap.size w).alloc (jE _) (Zc #[I x,J s b.length u,J t ps.length v] 38);have ag:=zhc x _ (qV.below ac af);obtain⟨j,a3⟩:∃j,j=vB ⟨x,b,ps⟩:=⟨_,rfl⟩
 rw[<- a3];have Q:Hid (j=(kE x&&(decide (b.length+ps.length<=20)&&(b.all uR&&(ps.all vO&&apartB [] (zf8 ⟨x,b,ps⟩)))))):=a3;clear a3;cases B:kE x
 case false =>
  have p:Hid (j=X):=by show _=_;rw[Q.out,B];rfl
  exact oz12x115
 by_cases ae:b.length+ps.length<=20
 case neg =>
  have p:Hid (j=X):=by show _=_;rw[Q.out,B,decide_eq_false ae];rfl
  have az:20<(b.length:Int)+(ps.length:Int):=oA;have aD:wrap64 ((b.length:Int)+(ps.length:Int))=(b.length:Int)+(ps.length:Int):=by unfold wrap64;omega
  exact oz12x115
 have T:Hid (j=(b.all uR&&(ps.all vO&&apartB [] (b.map (·.name)++ps.map (·.name))))):=by show _=_;rw[Q.out,B,decide_eq_true ae];rfl
 clear Q;have az:(b.length:Int)+(ps.length:Int)<=20:=oA;have aD:wrap64 ((b.length:Int)+(ps.length:Int))=(b.length:Int)+(ps.length:Int):=by unfold wrap64;omega
 go_enter func7,ntmps7;go_wp2_with (go_at_call 15;refine ag.mono ?_;rw[B];rintro f l ⟨rfl,n⟩;have M:l.cell? (A w.heap.size 0 F)=Z (I x):=yL n 0;have N:l.cell? (A w.heap.size 1 F)=Z (J s b.length u):=yL n 1;have q:l.cell? (A w.heap.size 2 F)=Z (J t ps.length v):=yL n 2;have aJ:=fun aG=>kK N aG);have a5:Below w.heap.size w l:=zat n;have aj:w.heap.size<l.heap.size:=jR _ _ M
 have a2:Inv w (l.alloc (.map #[] 0)) l.heap.size x (J s b.length u) (J t ps.length v) ((b.take 0).map (·.name)) :=
  ⟨a5.alloc a5.size _,kK M _,kK N _,kK q _,aj,World.ownsMap_made _ _ _ _⟩
 generalize l.heap.size=r at a2 aj |-;go_loopw [28] (fun o wr=>∃a:Nat,a<=b.length/\o=U O a/\Inv w wr r x (J s b.length u) (J t ps.length v) ((b.take a).map (·.name))/\Hid (∀d (e:d<b.length),d<a->uR b[d]=H)) (fun o _=>b.length - (intOf o).toNat)
 case atStart=>exact⟨0,jz _,rfl,a2,fun d _ e=>oA⟩
 case round =>
  obtain⟨a,aB,rfl,c,m⟩:=hrel;clear a2 M N q aJ n a5;by_cases i:a<b.length
  ·obtain⟨ax,aF,rfl,a6⟩:=ah (by intro f;rw[f]at i;simp at i);obtain⟨C,E,G,K⟩:=a6 a i;have M:=keep C c.below;have N:=keep E c.below;have q:=keep G c.below;have aH:=keep K c.below;clear C E G K;have g:=zx7 b[a] (wr.alloc (Zc #[I b[a].name,Y b[a].pub,U O b[a].label,U O b[a].size] 52)) (qV.below (qV.below ac c.below) (bal _));unfold qC at g;cases h:uR b[a]
   ·have p:Hid (j=X):=by show _=_;rw[T.out,bU a i h];rfl
    rw[h]at g;go_wp2_with (go_at_call 16;refine g.mono ?_;rintro f P ⟨rfl,k⟩);go_ret;exact⟨vL p.out.symm,(c.next (zat k)).below⟩
   ·have S:Hid (uR b[a]=H):=h;rw[h]at g;have a8:=zj2 (zrs h);have a9:((b.take a).map (·.name)).length<maxLen:=by unfold maxLen;simp;omega
    go_wp2_with first
     | (go_at_call 16;refine g.mono ?_;rintro f P ⟨rfl,k⟩;have z:=c.next (zat k);have aI:P.cell? (A wr.heap.size 0 F)=Z (I b[a].name):=yL k 0)
     | (at_mapUpdate;refine wpList_mapUpdate_own _ rfl _ _ _ 50 rfl 9 54 gY underlying50 (unitElem (H:=Unit)) r _ _ rfl z.own a9 _ _ _ rfl rfl a8 _ [] unitElem_mk ?_;intro aK ab a7)
     | go_in
    go_roundw
    case rel=>exact⟨a+1,oA,oJ,by rw[zjf _ _ _ i];exact z.put a7 ab,fun d e ay=>by
     rcases jL d a with y | y
     ·exact m.out d e y
     ·have:d=a:=oA;subst this
      exact S.out⟩
    case measure=>simp[intOf];omega
  ·have R:Hid (j=(ps.all vO&&apartB [] (b.map (·.name)++ps.map (·.name)))):=by show _=_;rw[T.out,bL (fun d e=>m.out d e oA)];rfl
   clear T m ah;rw[jG oA]at c;have q:=c.c2;go_wp2;go_loopw [43] (fun o wr=>∃a:Nat,a<=ps.length/\o=U O a/\Inv w wr r x (J s b.length u) (J t ps.length v) (b.map (·.name)++(ps.take a).map (·.name))/\Hid (∀d (e:d<ps.length),d<a->vO ps[d]=H)) (fun o _=>ps.length - (intOf o).toNat)
   case atStart=>exact⟨0,jz _,rfl,by simpa using c,fun d _ e=>oA⟩
   case round =>
    clear c q;obtain⟨a,aB,rfl,c,m⟩:=hrel;by_cases i:a<ps.length
    ·obtain⟨ax,aF,rfl,a6⟩:=ai (by intro f;rw[f]at i;simp at i);obtain⟨C,E,⟨aU,G,an⟩,K,ao,ap⟩:=a6 a i;have aE:=an;obtain⟨av,aw,rfl,_,_⟩:=aE;have M:=keep C c.below;have N:=keep E c.below;have q:=keep G c.below;have aH:=keep K c.below;have q4:=keep ao c.below;have aS:=keep ap c.below;clear C E G K ao ap;have W:=(Below.refl wr.heap.size wr).alloc (jE _) (Zc #[I ps[a].name,Y ps[a].pub,J av ps[a].params.length aw,U O ps[a].writes,Y ps[a].gives,U O ps[a].given] 57);have g:=zwg ps[a] _ _ (qV.below (qV.below ac c.below) W) ((an.below c.below).below W);clear W;unfold qR at g;cases h:vO ps[a]
     ·have p:Hid (j=X):=by show _=_;rw[R.out,bU a i h];rfl
      rw[h]at g;go_wp2_with (go_at_call 17;refine g.mono ?_;rintro f P ⟨rfl,k⟩);go_ret;exact⟨vL p.out.symm,(c.next (zat k)).below⟩
     ·have S:Hid (vO ps[a]=H):=h;rw[h]at g;have a8:=zj2 (zq8 h);have a9:(b.map (·.name)++(ps.take a).map (·.name)).length<maxLen:=by unfold maxLen;simp;omega
      go_wp2_with first
       | (go_at_call 17;refine g.mono ?_;rintro f P ⟨rfl,k⟩;have z:=c.next (zat k);have aI:P.cell? (A wr.heap.size 0 F)=Z (I ps[a].name):=yL k 0)
       | (at_mapUpdate;refine wpList_mapUpdate_own _ rfl _ _ _ 50 rfl 9 54 gY underlying50 (unitElem (H:=Unit)) r _ _ rfl z.own a9 _ _ _ rfl rfl a8 _ [] unitElem_mk ?_;intro aK ab a7)
       | go_in
      go_roundw
      case rel=>exact⟨a+1,oA,oJ,by rw[zjf _ _ _ i,<- jt];exact z.put a7 ab,fun d e ay=>by
       rcases jL d a with y | y
       ·exact m.out d e y
       ·have:d=a:=oA;subst this
        exact S.out⟩
      case measure=>simp[intOf];omega
    ·rw[jG oA]at c
     have ad:Hid (j=((Maps.size (setD (b.map (·.name)++ps.map (·.name))):Int)==(b.length:Int)+(ps.length:Int))):=by
      show _=_;rw[R.out,bL (fun d e=>m.out d e oA),<- zjb];simp only[jb,List.length_map,Bool.true_and];rw[Bool.eq_iff_iff];simp only[beq_iff_eq];omega
     have aa:=c.own;have aA:=c.below;clear m R c ai;generalize (b.map (·.name)++ps.map (·.name)).length=L at aa
     generalize setD (b.map (·.name)++ps.map (·.name))=D at aa ad
     go_wp2_with first
      | (at_len;refine wpList_len_own _ rfl _ 50 rfl 9 54 underlying50 (unitElem (H:=Unit)) r _ _ rfl aa ?_)
      | go_in
     go_ret;exact⟨vL ad.out.symm,aA⟩
end face
namespace cut
open Go.RowKit
def zqg (n:Nat):Code->Bool
 | .region k _ _=>k==n
 | .seq a _=>zqg n a
 | _=>X
def from_ (p:Code->Bool):Code->Option Code
 | .seq a b=>if p a then Z (.seq a b)else match from_ p a with
  | some c=>Z c
  | none=>from_ p b
 | .block _ c=>from_ p c
 | .loop c=>from_ p c
 | .scope c=>from_ p c
 | .cond _ a b=>match from_ p a with
  | some c=>Z c
  | none=>from_ p b
 | _=>F
def xH (n:Nat) (a:Func):Code:=((a.body.bind (from_ (zqg n))).getD .skip)
end cut
namespace ord
theorem tkd {h:Program} {b:Array Oper} {c:Exit->Act->Zw->Prop} {f:Region.Mode} {S:Zw->Prop} {d j:Nat} {g:Oper} {v:Zv} {k:Nat} {e:Array Bool} {a:Act} {w:Zw} (hi:b[d]?=Z g) (o:g.dst=Z j) (r:Region.noSelect b=H) (p:Region.free f b e d=H) (q:(Region.ready f b e).contains d=H) (m:∀i a w,c (.panic i) (a.put g.dst v) w->c (.panic i) a w) (s:YieldsIf h b S g v a) (n:S w) (l:wpAnyH h f b c S k (e.setIfInBounds d H) { tmps:=a.tmps.setIfInBounds j v,defers:=a.defers } w):wpAnyH h f b c S (k+1) e a w:=by
 refine wpAnyH_take hi r p q m s n ?_;rw[o];exact l
theorem uP {c:Oper} {a:Act} {v:Zv} {b:Nat} (d:c.dst=Z b):a.put c.dst v={ tmps:=a.tmps.setIfInBounds b v,defers:=a.defers }:=by
 rw[d];rfl
end ord
namespace chk
open Go.RowKit
open syn face
def KU {α:Type} (fc fa c b:Int) (R rest:Res α):Bool->Prop
 | true=>R=.bad c b
 | false=>c=fc/\b=fa/\R=rest
theorem KU.or1 {fc fa d c:Int} {α:Type} {R a b:Res α} {st x g:Bool} (f:x=H) (e:KU fc fa d c R (if(x||g)=X then a else b) st):KU fc fa d c R (if H=X then a else b) st:=by subst f;exact e
theorem KU.to {fc fa d c:Int} {α:Type} {R a b:Res α} {st:Bool} (e:a=b) (f:KU fc fa d c R a st):KU fc fa d c R b st:=by rw[<- e];exact f
theorem KU.any {fc fa b a:Int} {α:Type} {R c d:Res α} (e:KU fc fa b a R c H):KU fc fa b a R d H:=e
section
variable {w0 w w':Zw} {D:Nat} {own:FV} {fs:List FV} {fv lv:Zv} {L:List Loc} {at_:Int} {p0 p1 p2 p3 p4 p5:Zv} {fc fa:Int} {st:Bool}
theorem rU {α:Type} {is:Bool} {code b d c:Int} {R rest:Res α} (a:LK w0 w D own fs fv lv L at_ p0 p1 p2 p3 p4 p5 d c st) (j:KU fc fa d c R (if is=X then .bad code b else rest) st) : Calls prog 35 #[Zp (Z (A D 0 F)),Y is,U O code,U O b] w fun h w'=>h=.returned (.tuple #[])/\Fr D w w'/\∃(e:Bool) (g f:Int),(e=X->st=X/\is=H)/\LK w0 w' D own fs fv lv L at_ p0 p1 p2 p3 p4 p5 g f e/\Hid (KU fc fa g f R rest e):=by
 refine(uS is code b w a).mono ?_;rintro h w' ⟨rfl,rfl⟩;refine⟨rfl,ULw.fr _ _ _ _,?_⟩
 cases st with
 | true=>exact⟨H,d,c,nofun,(by rw[a.stay];exact a),j⟩
 | false =>
  obtain⟨rfl,rfl,i⟩:=j
  cases is with
  | true=>exact⟨X,_,_,fun _=>⟨rfl,rfl⟩,a,rfl,rfl,i⟩
  | false=>exact⟨H,_,_,nofun,a.wrong _ _,i⟩
end
def clV (a:Option ProcD) (d:List Int) (e:Int) (c:Bool) (b:Int) (ok:Bool):Prop:=match a with
 | none=>ok=X
 | some p=>ok=H/\p.params=d/\p.writes=e/\p.gives=c/\p.given=b
variable {a:Nat}
theorem zxf {w0:Zw} {d:Option ProcD} {e:Ending} (b:clR w0 d e):∃(m:ByteArray) (n:Bool) (c:List Int) (ua:Option Addr) (uc:Nat) (j:Int) (i:Bool) (h:Int) (ok:Bool),e=.returned (.tuple #[Za #[I m,Y n,J ua c.length uc,U O j,Y i,U O h],Y ok])/\IntsIn w0 (J ua c.length uc) c/\clV d c j i h ok:=by
 cases d with
 | none =>
  have f:e=.returned (.tuple #[bV,Y X]):=b
  exact⟨⟨#[]⟩,X,[],F,0,0,X,0,X,f,⟨F,0,rfl,oB,fun b=>absurd rfl b⟩,rfl⟩
 | some a =>
  obtain⟨q,f,g⟩:=b;obtain⟨k,l,rfl,p,o⟩:=id g;exact⟨a.name,a.pub,a.params,k,l,a.writes,a.gives,a.given,H,f,g,rfl,rfl,rfl,rfl,rfl⟩
def chA (b ls:List Int) (c ctx a at_ an:Int) (i:Nat):Res (Int × Int):=if uV (b.drop i) (ls.drop i)=X then .bad 7 at_ else if(c==1||ctx==0)=X then .bad 7 at_ else .ok (a,an)
def chC (c ls:List Int) (b alone:Bool) (d ctx a at_ an:Int):Res (Int × Int):=if(b||alone)=X then .bad 3 at_ else chA c ls d ctx a at_ an 0
def chB (a:Bool) (d ls:List Int) (c alone:Bool) (e ctx b at_ an:Int):Res (Int × Int):=if a=X then .bad 6 at_ else chC d ls c alone e ctx b at_ an
def chV (a:Option ProcD) (ls:List Int) (alone:Bool) (ctx at_ an:Int):Res (Int × Int):=match a with
 | none=>.bad 4 at_
 | some p=>if p.params.length≠ls.length then .bad 6 at_ else if p.gives=X/\alone=X then .bad 3 at_ else if uV p.params ls=X then .bad 7 at_ else if p.writes≠1/\ctx≠0 then .bad 7 at_ else .ok (p.given,an)
theorem zxd (a:Env) (L:List Loc) (ctx:Int) (alone:Bool) (x:ByteArray) (ls:List Int) (d an:Int):(match zS a L ctx alone 18 x ls d with
  | .bad c b=>Res.bad c b
  | .ok l=>.ok (l,an))=chV (procF a x) ls alone ctx d an:=by
 refine(zqm a L ctx alone x ls d an).trans ?_;unfold chV;cases procF a x<;>rfl
theorem zvd {b:Option ProcD} {d ls:List Int} {g alone ok c:Bool} {h ctx f at_ an:Int} (e:clV b d h g f ok) (l:c=H ↔ d.length=ls.length):chV b ls alone ctx at_ an=if ok=X then .bad 4 at_ else chB c d ls g alone h ctx f at_ an:=by
 unfold chV
 cases b with
 | none =>
  obtain rfl:ok=X:=e
  rfl
 | some a =>
  obtain⟨rfl,rfl,rfl,rfl,rfl⟩:=e;rw[ju (by decide:¬(H=X))];unfold chB chC chA;dsimp only;rw[List.drop_zero,List.drop_zero]
  have i:(a.params.length≠ls.length)=(c=X):=by
   rw[ne_eq,<- l];simp
  have j:(a.gives=X/\alone=X)=((a.gives||alone)=X):=oB;have k:(a.writes≠1/\ctx≠0)=((a.writes==1||ctx==0)=X):=oB;simp only[i,j,k]
theorem zvc {b ls:List Int} {d ctx c at_ an:Int} (e:a<b.length) (f:a<ls.length):chA b ls d ctx c at_ an a=if(b[a]==1||ls[a]==0)=X then .bad 7 at_ else chA b ls d ctx c at_ an (a+1):=by
 unfold chA;rw[List.drop_eq_getElem_cons e,List.drop_eq_getElem_cons f];rw[show uV (b[a] :: b.drop (a+1)) (ls[a] :: ls.drop (a+1))=((b[a]==1||ls[a]==0)&&uV (b.drop (a+1)) (ls.drop (a+1)))from rfl];cases(b[a]==1||ls[a]==0);·rfl
 ·rfl
theorem zxc {b ls:List Int} {d ctx c at_ an:Int} (e:ls.length<=a):chA b ls d ctx c at_ an a=if(d==1||ctx==0)=X then .bad 7 at_ else .ok (c,an):=by
 unfold chA;rw[List.drop_eq_nil_of_le e];have:uV (b.drop a) []=H:=by cases b.drop a<;>rfl
 rw[this];rfl
theorem dO {b a:Int} (c:b=a):(b==a)=H:=by rw[c];exact beq_self_eq_true a
theorem zpm (a b:Nat):(((a:Int)==(b:Int))=H) ↔ a=b:=by rw[beq_iff_eq];omega
theorem zxt {w:Zw} {c b d n:Nat} {ls:List Int} (e:w.ownsRow c 3 1 (J (Z (A b 0 F)) n d) n (yG ls)) (f:n=ls.length) (hi:a<ls.length):w.cell? (A b a F)=Z (U O ls[a]):=by
 subst f;refine(e.cellAt a oA).trans ?_;unfold yG;rw[List.getElem?_map,List.getElem?_eq_getElem hi];rfl
section
variable {w0 w w':Zw} {D:Nat} {own:FV} {fs:List FV} {fv lv:Zv} {L:List Loc} {at_:Int} {p0 p1 p2 p3 p4 p5:Zv} {fc fa:Int} {st:Bool}
theorem LK.grown (b:LK w0 w D own fs fv lv L at_ p0 p1 p2 p3 p4 p5 fc fa st) {row:Option Nat} (e:w.grownBy w' row) (f:∀a,row=Z a->a≠D/\fv.ownBlock≠Z a/\lv.ownBlock≠Z a/\w0.heap.size<=a):LK w0 w' D own fs fv lv L at_ p0 p1 p2 p3 p4 p5 fc fa st:=by
 have g:∀d:Zv,(∀a,row=Z a->d.ownBlock≠Z a)->d.ownBlock=F\/d.ownBlock≠row:=fun d i=>by
  cases c:d.ownBlock with
  | none=>exact .inl rfl
  | some a=>exact .inr (fun h=>i a h.symm c)
 refine⟨b.lc.block (e.block D b.lc.lt (fun c=>(f D c.symm).1 rfl)),b.bs.grown e b.bs.size (fun j c=>(f j c).2.2.2),b.hD,b.ow,b.fi,b.rf.kept e (g _ (fun a c=>(f a c).2.1)),b.rl.kept e (g _ (fun a c=>(f a c).2.2.1)),b.ne⟩
end
theorem zjx {f:Nat} {w g h:Zw} {row:Option Nat} (a:Fr f w g) (b:g.grownBy h row) (k:∀e,row=Z e->w.heap.size<=e):Fr f w h :=
 ⟨b.os.trans a.os,b.tape.trans a.tape,b.output.trans a.output,jp a.size b.size,fun c d j=>(b.block c (jo d a.size) (fun i=>by have:=k c i.symm;omega)).trans (a.block c d j)⟩
def XR (w0:Zw) (D:Nat) (own:FV) (fs:List FV) (fv lv:Zv) (L:List Loc) (p0 p1 p2 p3 p4 p5:Zv) (fc fa:Int) (r:Res (Int × Int)) (e:Ending) (w':Zw):Prop:=match r with
 | .bad c b=>∃l a,e=.returned (U O l)/\LK w0 w' D own fs fv lv L a p0 p1 p2 p3 p4 p5 c b H
 | .ok q=>e=.returned (U O q.1)/\LK w0 w' D own fs fv lv L q.2 p0 p1 p2 p3 p4 p5 fc fa X
section
variable {w0 w w':Zw} {D:Nat} {own:FV} {fs:List FV} {fv lv:Zv} {L:List Loc} {at_:Int} {p0 p1 p2 p3 p4 p5:Zv} {fc fa:Int} {st:Bool}
variable {a b c d:Int} {e:Ending}
theorem XR.mkBad {f:Res (Int × Int)} (i:f=.bad a b) (h:e=.returned (U O c)) (g:LK w0 w' D own fs fv lv L d p0 p1 p2 p3 p4 p5 a b H):XR w0 D own fs fv lv L p0 p1 p2 p3 p4 p5 fc fa f e w':=by
 rw[i];exact⟨c,d,h,g⟩
theorem XR.ofKU {R:Res (Int × Int)} (h:KU fc fa a b R (.ok (c,d)) st) (g:e=.returned (U O c)) (f:LK w0 w' D own fs fv lv L d p0 p1 p2 p3 p4 p5 a b st):XR w0 D own fs fv lv L p0 p1 p2 p3 p4 p5 fc fa R e w':=by
 cases st with
 | true=>rw[show R=_ from h];exact⟨c,d,g,f⟩
 | false=>obtain⟨rfl,rfl,i⟩:=h;rw[i];exact⟨g,f⟩
theorem XR.mkOk {c:Res (Int × Int)} (g:c=.ok (a,b)) (f:e=.returned (U O a)) (d:LK w0 w' D own fs fv lv L b p0 p1 p2 p3 p4 p5 fc fa X):XR w0 D own fs fv lv L p0 p1 p2 p3 p4 p5 fc fa c e w':=by
 rw[g];exact⟨f,d⟩
end
def KI (E:Env) (L:List Loc) (ctx:Int) (ks:List Tree) (R:Res (List Int × Int)) (d fc fa:Int) (j:Nat) (l:Int) (ls:List Int) (a c b:Int):Bool->Prop
 | true=>R=.bad c b
 | false=>c=fc/\b=fa/\l=joinL ls 0/\a=d+kA (ks.take j)/\R=yS ls (exL E L ctx (ks.drop j) a)
theorem zag (a b d:Int) (w:Zw):Calls prog 117 #[U O a,U O b,U O d] w fun f w'=>f=.returned (Y (hi a b d))/\w'=w:=by
 unfold hi;by_cases c:a=1;·go_enter func117,ntmps117;go_wp2;go_ret;exact⟨by simp[c],rfl⟩
 ·by_cases e:b=1;·go_enter func117,ntmps117;go_wp2;go_ret;exact⟨by simp[c,e],rfl⟩
  ·go_enter func117,ntmps117;go_wp2;go_ret;exact⟨by simp[c,e],rfl⟩
theorem zwp (a:Tree) (v:Zv) (w:Zw) (d:Lies (·<w.heap.size) w a v) (i:kC a<=1000000) : Calls prog 116 #[v] w fun c w'=>c=.returned (U O (kC a))/\Below w.heap.size w w':=by
 obtain⟨j,x,k,sl,rfl,e,n,f,rfl⟩:=d.shape;have l:=kc25;have b:Below w.heap.size w (w.alloc (Zc #[U O j,I x,U O k,J e n f] 25)):=bal _;have g:=cD a _ _ (d.below b) i;go_enter func116,ntmps116;go_wp2_with (fail);refine g.mono ?_;rintro c m ⟨rfl,h⟩;go_wp2;go_ret;exact⟨rfl,b.trans (h.mono b.size)⟩
section
variable {w0 w w':Zw} {D:Nat} {own:FV} {fs:List FV} {fv lv:Zv} {L:List Loc} {at_:Int} {p0 p1 p2 p3 p4 p5:Zv} {fc fa:Int} {st:Bool}
theorem rPlace (a:Int) (x:ByteArray) (e:Int) (b:Option Addr) (d c:Nat) (h:Int) (w:Zw) (s:kT x) (n:LK w0 w D own fs fv lv L at_ p0 p1 p2 p3 p4 p5 fc fa st) (r:fs.length<=1000) (o:L.length<=1000) : Calls prog 118 #[Zp (Z (A D 0 F)),Za #[U O a,I x,U O e,J b d c],U O h] w fun f w'=>f=.returned (.tuple #[U O (((zP ⟨own.1,fs.map (·.1)⟩ L x).map (·.1)).getD 0),U O h])/\Below w.heap.size w w':=by
 have u:=kc25;have k:=za0 x (w.alloc (Zc #[U O a,I x,U O e,J b d c] 25)) s (n.alloc _) r o;have j:Below w.heap.size w (w.alloc (Zc #[U O a,I x,U O e,J b d c] 25)):=bal _;generalize zP ⟨own.1,fs.map (·.1)⟩ L x=g at *
 have l:Calls prog 132 #[Zp (Z (A D 0 F)),I x] (w.alloc (Zc #[U O a,I x,U O e,J b d c] 25)) fun f w'=>(∃(m:Int) (i:Bool),f=.returned (.tuple #[U O ((g.map (·.1)).getD 0),U O m,Y i]))/\Below (w.alloc (Zc #[U O a,I x,U O e,J b d c] 25)).heap.size (w.alloc (Zc #[U O a,I x,U O e,J b d c] 25)) w':=by
  refine k.mono ?_;rintro f w' ⟨rfl,p⟩;refine⟨?_,p⟩
  cases g with
  | none=>exact⟨0,X,rfl⟩
  | some t=>exact⟨t.2,H,rfl⟩
 clear k;generalize ((g.map (·.1)).getD 0)=v at *
 go_enter func118,ntmps118;go_wp2_with (fail);refine l.mono ?_;rintro f y ⟨⟨m,i,rfl⟩,q⟩;clear l;go_wp2;refine jT (v:=.tuple #[U O v,U O h]) (by simp[results,results118,go_sem]) rfl ?_;exact⟨rfl,j.trans (q.mono j.size)⟩
end
end chk
namespace chk
open Go.RowKit
open syn face cut
section
variable {w0 w:Zw} {D n:Nat} {own:FV} {fs:List FV} {fv lv:Zv} {L:List Loc} {p0 p1 p2 p3 p4 p5:Zv} {fc fa ctx at_ an:Int} {alone:Bool} {ls:List Int} {x:ByteArray} {ua:Option Addr} {uc:Nat} {RR:Res (Int × Int)}
theorem zy8 (aJ:fs.length<=1000) (aL:kT x) (aa:LK w0 w D own fs fv lv L an p0 p1 p2 p3 p4 p5 fc fa X) (ai:w.ownsRow (n+1) 3 1 (J ua ls.length uc) ls.length (yG ls)) (fX:D<=n) (am:0<ls.length->∃aQ,ua=Z (A aQ 0 F)) (g1:w.cell? (A n 1 F)=Z (I x)) (aW:ls.length<=1000000) (aS:RR=chV (procF ⟨own.1,fs.map (·.1)⟩ x) ls alone ctx at_ an) {b1 eb eA eL eW b2 bv bS cd cp cB dd dp dq dr ds dt du dw dx dy dz dZ e0 e1 e2 e3 e4 e5 e6 e7 e8 e9 ea ec ed ee ef eg eh ei ej ek em en eo ep eq er eu ev ew ey ez eB eC eD eE eF eG eH eI eJ eK eM eN eO eP eQ eR eS eT eU eV eX eY eZ f0 f3 f4 f5 f6 f7 f8 f9 fb fe ff fg fh fi fj fk fl b6 b7 b8 b9 ba bb bc be bf bg bh bi bj bm bn bo bp bq br bu bw bz bD bE bF bG bH bN bP bR bX bY bZ c6 c7 c8 c9 ca cb cc ce cf cg ch ci cj ck cm cn co cq cr ct cu cv cw cx cy cz cA d0 d1 d2 d3 d4 d5 d6 da db dc de df dh di dj dk dl dm dn:Zv} {ax:Exit->Act->Zw->Prop} (aG:∀(V:Array Zv) (aP:Int) (w':Zw),V[8]?=Z (U O aP)->XR w0 D own fs fv lv L p0 p1 p2 p3 p4 p5 fc fa RR (.returned (U O aP)) w'->Fr D w w'->ax .ret ⟨V,[]⟩ w') : Code.wp prog (xH 24 f113) ax ⟨#[Zp (Z (A D 0 F)),b1,U O ctx,Y alone,eb,Zp (Z (A n 0 F)),eA,eL,eW,U O at_,b2,J ua ls.length uc,bv,bS,cd,cp,cB,dd,dp,dq,dr,ds,dt,du,dw,dx,dy,dz,dZ,e0,e1,e2,e3,e4,e5,e6,e7,e8,e9,ea,ec,ed,ee,ef,eg,eh,ei,ej,ek,em,en,eo,ep,eq,er,eu,ev,ew,ey,ez,eB,eC,eD,eE,eF,eG,eH,eI,eJ,eK,eM,eN,eO,eP,eQ,eR,eS,eT,eU,eV,eX,eY,eZ,f0,f3,f4,f5,f6,f7,f8,f9,fb,fe,ff,fg,fh,fi,fj,fk,fl,b6,b7,b8,b9,ba,bb,bc,be,bf,bg,bh,bi,bj,bm,bn,bo,bp,bq,br,bu,bw,bz,bD,bE,bF,bG,bH,bN,bP,bR,bX,bY,bZ,c6,c7,c8,c9,ca,cb,cc,ce,cf,cg,ch,ci,cj,ck,cm,cn,co,cq,cr,ct,cu,cv,cw,cx,cy,cz,cA,d0,d1,d2,d3,d4,d5,d6,da,db,dc,de,df,dh,di,dj,dk,dl,dm,dn],[]⟩ w:=by
 have fw:prog.cellsOf 57=6:=vA;have aD:=zyp x w aL aa aJ;generalize procF ⟨own.1,fs.map (·.1)⟩ x=fn at *
 have aT:Hid _:=aG;clear aG
 conv=>arg 2;whnf
 go_wp2_with (fail);refine aD.mono ?_;rintro l a6 ⟨aI,a3⟩;obtain⟨z,C,a,E,G,c,q,b,ok,rfl,ak,aH⟩:=zxf aI;have au:Hid (KU fc fa fc fa RR (if ok=X then .bad 4 at_ else chB ((a.length:Int)==(ls.length:Int)) a ls q alone c ctx b at_ an) X):=⟨rfl,rfl,aS.trans (zvd aH (zpm _ _))⟩
 obtain⟨_,_,ao,_,aj⟩:=id ak;have aE:=(aa.below a3).alloc (Zc #[I z,Y C,J E a.length G,U O c,Y q,U O b] 57);have e:=Box6.new a6 (I z) (Y C) (J E a.length G) (U O c) (Y q) (U O b) 57;have m:Fr D w (a6.alloc (Zc #[I z,Y C,J E a.length G,U O c,Y q,U O b] 57)):=(Fr.below a3).alloc _;have o:=(dY ai a3).alloc (Zc #[I z,Y C,J E a.length G,U O c,Y q,U O b] 57);have a2:Z D≠Z a6.heap.size:=fun l=>by injection l with l;have:=aa.lc.lt;have:=a3.size;omega
 have a5:(Value.slice ua ls.length uc).ownBlock=F\/(Value.slice ua ls.length uc).ownBlock≠Z D:=by
  cases l:(Value.slice ua ls.length uc).ownBlock with
  | none=>exact .inl rfl
  | some fq=>exact .inr (fun aC=>by have:=(ai.lt _ l).1;injection aC with aC;omega)
 injection ao with ao _ hve2;obtain rfl:=ao;obtain rfl:=hve2;clear aI aH aD aa ai;clear aL aJ aW;go_wp2_with (fail);generalize a6.heap.size=af at *;generalize a6.alloc (Zc #[I z,Y C,J E a.length G,U O c,Y q,U O b] 57)=fo at *;refine(rU aE au.out).mono ?_;rintro l g3 ⟨rfl,a7,g2,fu,ft,aX,aF,av⟩;replace e:=e.grown a7 a2;replace o:=o.kept a7 a5;replace m:=m.trans a7;clear a7 aE au a3 aX;obtain⟨M,N,P,Q,R,S,_,_,_,_,_,_⟩:=id e;go_wp2_with (fail);refine(rU aF av.out).mono ?_;rintro l g4 ⟨rfl,a8,ap,aA,ay,aN,ag,K⟩;have ae:Hid (ap=X->a.length=ls.length):=fun t=>(zpm _ _).1 (aN t).2
 clear M N P Q R S;replace e:=e.grown a8 a2;replace o:=o.kept a8 a5;replace m:=m.trans a8;clear a8 aF av aN
 go_upto_region 27 with fail
 go_cut [] from 129 to 136 (fun h=>∃(r:Bool) (y v:Int),Hid (r=X->a.length=ls.length)/\LK w0 h D own fs fv lv L an p0 p1 p2 p3 p4 p5 y v r/\Fr D w h/\Box6 h af (I z) (Y C) (J E a.length G) (U O c) (Y q) (U O b)/\h.ownsRow (n+1) 3 1 (J ua ls.length uc) ls.length (yG ls)/\Hid (KU fc fa y v RR (chA a ls c ctx b at_ an 0) r))
 case first =>
  obtain⟨M,N,P,Q,R,S,_,_,_,_,_,_⟩:=id e
  cases q with
  | true =>
   replace K:Hid (KU fc fa aA ay RR (if H=X then .bad 3 at_ else chA a ls c ctx b at_ an 0) ap):=K.out
   exact oz12x107
  | false =>
   replace K:Hid (KU fc fa aA ay RR (if alone=X then .bad 3 at_ else chA a ls c ctx b at_ an 0) ap):=K.out;exact oz12x107
 case rest =>
  clear ae ag m e o K;obtain⟨s,k,j,p,d,m,e,o,i⟩:=hcut
  go_upto_block 3 with fail
  go_cut [22] from 137 to 165 (fun _ h=>∃(r:Bool) (y v:Int),LK w0 h D own fs fv lv L an p0 p1 p2 p3 p4 p5 y v r/\Fr D w h/\Box6 h af (I z) (Y C) (J E a.length G) (U O c) (Y q) (U O b)/\Hid (KU fc fa y v RR (if(c==1||ctx==0)=X then .bad 7 at_ else .ok (b,an)) r))
  case first =>
   go_wp2;go_loopw [22] (fun V h=>∃(f:Nat) (r:Bool) (y v:Int),f<=ls.length/\V=U O f/\Hid (r=X->a.length=ls.length)/\LK w0 h D own fs fv lv L an p0 p1 p2 p3 p4 p5 y v r/\Fr D w h/\Box6 h af (I z) (Y C) (J E a.length G) (U O c) (Y q) (U O b)/\h.ownsRow (n+1) 3 1 (J ua ls.length uc) ls.length (yG ls)/\Hid (KU fc fa y v RR (chA a ls c ctx b at_ an f) r)) (fun V _=>ls.length - (intOf V).toNat)
   case atStart=>exact⟨0,s,k,j,jz _,rfl,p,d,m,e,o,i⟩
   case round =>
    clear p d m e o i;obtain⟨f,s,k,j,fy,rfl,p,d,W,u,ac,i⟩:=hrel;have g6:=d.lc.c14;by_cases aK:f<ls.length
    ·cases s with
     | true =>
      have g:Hid (KU fc fa k j RR (if(c==1||ctx==0)=X then .bad 7 at_ else .ok (b,an)) H):=KU.any i.out;clear i p ac;go_wp2
      go_meet
      case rel=>exact⟨H,k,j,d,W,u,g⟩
     | false =>
      obtain⟨M,N,P,Q,R,S,_,_,_,_,_,_⟩:=id u;have aw:Hid (a.length=ls.length):=p.out rfl;clear p;have ab:f<a.length:=by have:=aw.out;omega
      obtain⟨fx,g0,rfl,aM⟩:=aj (by intro l;rw[l]at ab;simp at ab);have b0:=keep (aM f ab) d.bs;obtain⟨aQ,rfl⟩:=am oA;have aZ:=zxt ac rfl aK;have g:Hid (KU fc fa k j RR (if(a[f]==1||ls[f]==0)=X then .bad 7 at_ else chA a ls c ctx b at_ an (f+1)) X):=KU.to (zvc ab aK) i.out;clear i aM aj am ak;generalize a[f]=aU at *;generalize ls[f]=fp at *;by_cases aV:aU=1;·replace g:Hid (KU fc fa k j RR (if H=X then .bad 7 at_ else chA a ls c ctx b at_ an (f+1)) X):=KU.or1 (dO aV) g.out;exact oz12x108
      ·skip;exact oz12x108
    ·have g:Hid (KU fc fa k j RR (if(c==1||ctx==0)=X then .bad 7 at_ else .ok (b,an)) s):=KU.to (zxc oA) i.out;clear i p ac;go_wp2
     go_meet
     case rel=>exact⟨s,k,j,d,W,u,g⟩
  case rest =>
   clear p d m e o i ak aj am a5;obtain⟨s,k,j,d,W,u,g⟩:=hcut;obtain⟨M,N,P,Q,R,S,_,_,_,_,_,_⟩:=id u;by_cases aY:c=1;·replace g:Hid (KU fc fa k j RR (if H=X then .bad 7 at_ else .ok (b,an)) s):=KU.or1 (dO aY) g.out;exact oz12x113
   ·skip;exact oz12x113
end
end chk
namespace chk
open Go.RowKit
open syn face
section
variable {w0:Zw} {D:Nat} {own:FV} {fs:List FV} {fv lv:Zv} {L:List Loc} {p0 p1 p2 p3 p4 p5:Zv} {fc fa:Int}
theorem zaf (ad:fs.length<=1000) (ab:L.length<=1000) (q:Tree) (v:Zv) (w:Zw) (ctx at_:Int) (alone:Bool) (bc:ExT q) (bj:Lies (·<w0.heap.size) w0 q v) (K:LK w0 w D own fs fv lv L at_ p0 p1 p2 p3 p4 p5 fc fa X) (bD:0<=at_) (bh:at_+kC q<=1000000) : Calls prog 113 #[Zp (Z (A D 0 F)),v,U O ctx,Y alone] w fun b w'=>XR w0 D own fs fv lv L p0 p1 p2 p3 p4 p5 fc fa (exF ⟨own.1,fs.map (·.1)⟩ L ctx alone q at_) b w'/\Fr D w w':=by
 have ct:=kc25;have bz:prog.cellsOf 3=1:=cF;obtain⟨bm,hi,aN,aO,aP⟩:=info_parts zdz
 match q with
 | .node h x m ks =>
  have ih:∀a (aG:a<ks.length) (v:Zv) (w:Zw) (at_:Int),ExT ks[a]->Lies (·<w0.heap.size) w0 ks[a] v->LK w0 w D own fs fv lv L at_ p0 p1 p2 p3 p4 p5 fc fa X->0<=at_->at_+kC ks[a]<=1000000 ->
    Calls prog 113 #[Zp (Z (A D 0 F)),v,U O ctx,Y X] w fun b w'=>XR w0 D own fs fv lv L p0 p1 p2 p3 p4 p5 fc fa (exF ⟨own.1,fs.map (·.1)⟩ L ctx X ks[a] at_) b w'/\Fr D w w':=fun a aG v w at_ bE bF bG bH bN=>zaf ad ab ks[a] v w ctx at_ X bE bF bG bH bN
  obtain⟨be,aK,cv⟩:=bc.kids;unfold Lies at bj;obtain⟨a3,r,rfl,c6,aH⟩:=bj;have ba:kC (.node h x m ks)=1+kA ks:=by unfold kC;omega
  rw[ba]at bh;have bY:=kR ks;have bb:=K.lc.lt;have cw:=vQ ks;obtain⟨c,a5⟩:∃c:Env,c=⟨own.1,fs.map (·.1)⟩:=⟨_,rfl⟩
  rw[<- a5]at ih |-;obtain⟨R,b7⟩:∃R,exL c L ctx ks (at_+1)=R:=⟨_,rfl⟩
  have ae:Hid (exL c L ctx ks (at_+1)=R):=b7;clear b7;have aj:=K.alloc (Zc #[U O h,I x,U O m,J a3 ks.length r] 25);have cj:=aj.lc.c5;have ck:=aj.lc.fz 5;have d:=aj.setAt (at_+1);have z:Q4 w.heap.size (U O h) (I x) (U O m) (J a3 ks.length r) ((w.alloc (Zc #[U O h,I x,U O m,J a3 ks.length r] 25)).setCell (A D 5 F) (U O (at_+1))):=Q4.other oA ⟨oB,oB,oB,oB⟩ _ _;have aB:Fr D w ((w.alloc (Zc #[U O h,I x,U O m,J a3 ks.length r] 25)).setCell (A D 5 F) (U O (at_+1))):=((Fr.refl _ _).alloc _).set _ _;rw[World.setCell_alloc_past (hn:=bb)]at d z aB;have aF:∀e,fv.ownBlock=Z e->e<w.heap.size:=fun e b=>(K.rf.lt _ b).2
  have aI:∀e,lv.ownBlock=Z e->e<w.heap.size:=fun e b=>(K.rl.lt _ b).2
  have ch:=K.bs.size;clear aj K;go_enter func113,ntmps113;go_wp2;clear cj ck;go_loopw [10,11,12] (fun ci co q wr=>∃(a:Nat) (W:Int) (ls:List Int) (az ah ag:Int) (ar:Bool),a<=ks.length/\q=U O a/\ci=U O W/\ls.length=a/\wr.ownsRow (w.heap.size+1) 3 1 co ls.length (yG ls)/\Fr D w wr/\w.heap.size+1<=wr.heap.size/\Q4 w.heap.size (U O h) (I x) (U O m) (J a3 ks.length r) wr/\LK w0 wr D own fs fv lv L az p0 p1 p2 p3 p4 p5 ah ag ar/\Hid (KI c L ctx ks R (at_+1) fc fa a W ls az ah ag ar)) (fun _ _ q _=>ks.length - (intOf q).toNat)
  case atStart =>
   refine⟨0,0,[],at_+1,fc,fa,X,jz _,rfl,rfl,rfl,World.ownsRow_nil _ _ _ _,aB,oB,z,d,?_⟩;refine⟨rfl,rfl,rfl,by simp[kA],?_⟩;rw[<- ae.out,List.drop_zero]
   cases exL c L ctx ks (at_+1)with
   | bad r e=>rfl
   | ok f=>rfl
  case round =>
   clear d z aB;obtain⟨a,W,ls,az,ah,ag,ar,aG,rfl,rfl,bg,P,o,cd,ac,g,ax⟩:=hrel;obtain⟨cm,bn,bo,cn⟩:=id ac;have G:Hid (ls.length=a):=bg;clear bg;have d1:=g.lc.c14
   cases ar with
   | true =>
    have aa:Hid (exF c L ctx alone (.node h x m ks) at_=.bad ah ag):=zc7 (ae.out.trans ax.out);by_cases N:a<ks.length;·go_wp2;go_ret;exact⟨XR.mkBad aa.out rfl g,o⟩
    ·go_wp2;go_ret
     exact⟨XR.mkBad aa.out rfl g,o⟩
   | false =>
    obtain⟨rfl,rfl,rfl,rfl,b8⟩:=ax.out;have af:Hid (R=yS ls (exL c L ctx (ks.drop a) (at_+1+kA (ks.take a)))):=b8;clear ax b8;by_cases N:a<ks.length
    ·obtain⟨ai,ap,rfl,am,b9⟩:=aH (by intro b;rw[b]at N;simp at N);obtain⟨a9,⟨d4,d5,d6,da,rfl,aW,aX,aY,aZ⟩,aJ⟩:=b9.get a N;obtain⟨d0,db,d2,_,ak,cr,d3,cu,rfl⟩:=aJ.shape;injection ak with ak;simp only[Array.mk.injEq,jq,and_true]at ak;obtain⟨rfl,rfl,rfl,rfl⟩:=ak;have cy:=(g.bs.cell (p:=(A ai (ap+a*4) F)) am).trans aW;have cz:=(g.bs.cell (p:=(A ai (ap+a*4+1) F)) am).trans aX;have cA:=(g.bs.cell (p:=(A ai (ap+a*4+2) F)) am).trans aY;have cB:=(g.bs.cell (p:=(A ai (ap+a*4+3) F)) am).trans aZ;have ca:=xE ks a N;have bi:=xY ks (a+1);have cb:=qU ks[a];have cc:=kR (ks.take a);have aA:=ih a N _ wr _ (be _ (jH N)) aJ g oA oA
     have HP:Hid (R=match exF c L ctx X ks[a] (at_+1+kA (ks.take a))with
       | .bad r e=>.bad r e
       | .ok f=>yS (ls++[f.1]) (exL c L ctx (ks.drop (a+1)) f.2)):=af.out.trans (zch c L ctx ks a N ls _)
     have aQ:Hid (∀f,exF c L ctx X ks[a] (at_+1+kA (ks.take a))=.ok f->f.2=at_+1+kA (ks.take (a+1))):=fun f p=>by
      have:=uI c L ctx _ _ _ _ p;omega
     have cx:ls.length<=1000000:=by have:=G.out;omega
     have bf:=G.out;obtain⟨ua,uc,rfl,_,_⟩:=lexs.own_shape P;rw[bf]at P |-;clear bf aW aX aY aZ b9 aJ aH af ca bi cb cc ih;generalize bS:exF c L ctx X ks[a] (at_+1+kA (ks.take a))=aT at *;have bq:Hid (∀f,aT=.ok f->f.2=at_+1+kA (ks.take (a+1))):=fun f p=>aQ.out f p
     clear bS aQ
     cases aT with
     | bad b0 aV =>
      have bu:Hid (R=.bad b0 aV):=HP.out;go_wp2_with (fail);refine aA.mono ?_;rintro b l ⟨⟨a7,aU,rfl,d⟩,B⟩;have aL:Z D≠(Value.slice ua a uc).ownBlock:=fun b=>by have:=(P.lt _ b.symm).1;omega
      have a6:=P.kept B (by
       cases b:(Value.slice ua a uc).ownBlock with
       | none=>exact .inl rfl
       | some e=>exact .inr (fun s=>aL (by rw[b,s])))
      have z:=Q4.grown ac B oE;have aC:=o.trans B;have ce:=B.size
      go_wp2_with first
       | (at_builtin;refine wpList_append_own _ rfl (.tmp 56) (.tmp 58) 55 rfl (w.heap.size+1) 3 bm (U O 0) 1 8 underlying55 hi aN aO aP rfl oC _ _ _ rfl (a6.alloc _) (A l.heap.size 0 F) 1 1 [U O a7] rfl rfl (xZ _ _ _ oB) (zbj _) (by unfold maxLen;omega) oA oE ?_;intro cp cq aM C c9)
       | (go_at_call 114;refine(zah _ _ _).mono ?_;rintro b au ⟨rfl,E⟩;obtain rfl:=E.symm)
       | go_in
      go_roundw
      case rel =>
       refine⟨a+1,_,ls++[a7],aU,b0,aV,H,oA,oJ,rfl,by simp[G.out],?_,?_,?_,?_,?_,bu.out⟩;·rw[jb,zay,G.out];exact aM
       ·exact zjx (aC.alloc _) C (fun h b=>oz12y119)
       ·have:=C.size;simp at this;omega
       ·exact Q4.grown (Q4.alloc z _) C (fun b=>oz12y119)
       ·exact(d.alloc _).grown C (fun e b=>by
         have:=(a6.lt _ b).1
         exact⟨oA,fun s=>by have:=aF e s;omega,fun s=>by have:=aI e s;omega,oA⟩)
      case measure=>simp[intOf];omega
     | ok f =>
      have bv:Hid (R=yS (ls++[f.1]) (exL c L ctx (ks.drop (a+1)) f.2)):=HP.out;have aR:=bq.out f rfl;obtain⟨a7,aU⟩:=f;dsimp only at aR aA;subst aR;go_wp2_with (fail);refine aA.mono ?_;rintro b l ⟨⟨rfl,d⟩,B⟩;have aL:Z D≠(Value.slice ua a uc).ownBlock:=fun b=>by have:=(P.lt _ b.symm).1;omega
      have a6:=P.kept B (by
       cases b:(Value.slice ua a uc).ownBlock with
       | none=>exact .inl rfl
       | some e=>exact .inr (fun s=>aL (by rw[b,s])))
      have z:=Q4.grown ac B oE;have aC:=o.trans B;have ce:=B.size
      go_wp2_with first
       | (at_builtin;refine wpList_append_own _ rfl (.tmp 56) (.tmp 58) 55 rfl (w.heap.size+1) 3 bm (U O 0) 1 8 underlying55 hi aN aO aP rfl oC _ _ _ rfl (a6.alloc _) (A l.heap.size 0 F) 1 1 [U O a7] rfl rfl (xZ _ _ _ oB) (zbj _) (by unfold maxLen;omega) oA oE ?_;intro cp cq aM C c9)
       | (go_at_call 114;refine(zah _ _ _).mono ?_;rintro b au ⟨rfl,E⟩;obtain rfl:=E.symm)
       | go_in
      go_roundw
      case rel =>
       refine⟨a+1,_,ls++[a7],_,_,_,X,oA,oJ,rfl,by simp[G.out],?_,?_,?_,?_,?_,⟨rfl,rfl,(zei ls a7 0).symm,rfl,bv.out⟩⟩;·rw[jb,zay,G.out];exact aM
       ·exact zjx (aC.alloc _) C (fun h b=>oz12y119)
       ·have:=C.size;simp at this;omega
       ·exact Q4.grown (Q4.alloc z _) C (fun b=>oz12y119)
       ·exact(d.alloc _).grown C (fun e b=>by
         have:=(a6.lt _ b).1
         exact⟨oA,fun s=>by have:=aF e s;omega,fun s=>by have:=aI e s;omega,oA⟩)
      case measure=>simp[intOf];omega
    ·have bZ:a=ks.length:=oA
     have aa:Hid (exL c L ctx ks (at_+1)=.ok (ls,at_+1+kA (ks.take a))):=by
      show _=_;rw[ae.out,af.out,List.drop_eq_nil_of_le oA];simp[exL,yS]
     have aS:=zbp (alone:=alone) (k:=h) (x:=x) (m:=m) aa.out
     have n:Hid (exF c L ctx alone (.node h x m ks) at_=match zS c L ctx alone h x ls at_ with
       | .bad r e=>.bad r e
       | .ok W=>.ok (W,at_+1+kA (ks.take a))):=aS
     clear aS aa af ih aH be bc;generalize at_+1+kA (ks.take a)=an at *;by_cases b6:h=18
     ·obtain rfl:=b6;have ao:=aK (.inr (.inr rfl));obtain⟨ua,uc,rfl,_,cg⟩:=lexs.own_shape P
      have j:Hid (exF c L ctx alone (.node 18 x m ks) at_=chV (procF c x) ls alone ctx at_ an):=by
       show _=_;rw[n.out];exact zxd c L ctx alone x ls at_ an
      clear n;have c7:ls.length<=1000000:=by have:=G.out;omega
      have br:Hid (exF c L ctx alone (.node 18 x m ks) at_=chV (procF ⟨own.1,fs.map (·.1)⟩ x) ls alone ctx at_ an):=j.out.trans (by rw[a5])
      have c8:D<=w.heap.size:=oA;clear bo ac j ba bh c6 bY aF aI ch bZ ae G ab hi aN aO aP bz bD cd bb a5
      go_upto_if 107 with fail
      go_step
      refine zy8 (RR:=exF c L ctx alone (.node 18 x m ks) at_) (alone:=alone) ad ao g P c8 cg bn c7 br.out ?_;intro q W w' cf bR bP;go_ret;rw[show q.getD 8 undef=U O W by simp[cf]];exact⟨bR,o.trans bP⟩
     by_cases b1:h=16
     ·obtain rfl:=b1;have k:=za0 x wr (aK (.inl rfl)) g ad ab;rw[<- a5]at k
      cases p:zP c L x with
      | none =>
       rw[p]at k;have j:Hid (exF c L ctx alone (.node 16 x m ks) at_=.bad 4 at_):=by show _=_;rw[n.out];simp[zS,p]
       clear n p;go_wp2_with (fail);refine k.mono ?_;rintro b l ⟨rfl,i⟩;have d:=g.below i;have S:=uS X 4 at_ l d;have y:=d.wrong 4 at_;have T:=uS H 3 at_ _ y;rw[y.stay]at T;unfold vrV;clear k;go_wp2_with (fail);refine S.mono ?_;rintro b a2 ⟨rfl,rfl⟩;go_wp2_with (fail);refine T.mono ?_;rintro b bp ⟨rfl,rfl⟩;go_wp2;go_ret
       exact⟨XR.mkBad j.out rfl y,(o.trans (Fr.below i)).trans (ULw.fr _ _ _ _)⟩
      | some f =>
       obtain⟨a9,Q⟩:=f;rw[p]at k;by_cases t:Q=0
       ·have j:Hid (exF c L ctx alone (.node 16 x m ks) at_=.ok (a9,an)):=by show _=_;rw[n.out];simp[zS,p,t]
        clear n p;go_wp2_with (fail);refine k.mono ?_;rintro b l ⟨rfl,i⟩;have d:=g.below i;have S:=uS H 4 at_ l d;have T:=uS H 3 at_ l d;rw[ULw.ok]at S T;unfold vrV;dsimp only;clear k;go_wp2_with (fail);refine S.mono ?_;rintro b a2 ⟨rfl,rfl⟩;go_wp2_with (fail);refine T.mono ?_;rintro b bp ⟨rfl,rfl⟩;go_wp2;go_ret;exact⟨XR.mkOk j.out rfl d,o.trans (Fr.below i)⟩
       ·have j:Hid (exF c L ctx alone (.node 16 x m ks) at_=.bad 3 at_):=by show _=_;rw[n.out];simp[zS,p,t]
        clear n p;have bi:(Q==0)=X:=beq_false_of_ne t;go_wp2_with (fail);refine k.mono ?_;rintro b l ⟨rfl,i⟩;have d:=g.below i;have S:=uS H 4 at_ l d;have T:=uS X 3 at_ l d;rw[ULw.ok]at S;unfold vrV;dsimp only;clear k;go_wp2_with (fail);refine S.mono ?_;rintro b a2 ⟨rfl,V⟩;obtain rfl:=V.symm;go_wp2_with (fail);refine T.mono ?_;rintro b bp ⟨rfl,rfl⟩;go_wp2;go_ret;exact⟨XR.mkBad j.out rfl (d.wrong 3 at_),(o.trans (Fr.below i)).trans (ULw.fr _ _ _ _)⟩
     by_cases b2:h=17
     ·obtain rfl:=b2;have ao:=aK (.inr (.inl rfl));have k:=za0 x wr ao g ad ab;rw[<- a5]at k;have aD:=fun u (bX:Below wr.heap.size wr u)=>ya7 17 x m a3 ks.length r at_ u ao (g.below bX) ad ab
      rw[<- a5]at aD
      have j:Hid (exF c L ctx alone (.node 17 x m ks) at_=match zP c L x with
        | none=>.bad 4 at_
        | some v=>if 0<v.2 then .ok (jn (joinL ls 0) v.1,an)else .bad 3 at_):=by
       show _=_;rw[n.out];simp only[zS]
       cases zP c L x with
       | none=>rfl
       | some v =>
        dsimp only;by_cases t:0<v.2;·simp[t]
        ·simp[t]
      clear n;generalize zP c L x=bw at *;go_wp2_with (fail);refine k.mono ?_;rintro b l ⟨rfl,i⟩;have z:=Q4.below ac i;obtain⟨dc,dd,de,df⟩:=id z;have d:=g.below i;have aE:=aD l i;clear k aD cm bn bo cn
      cases bw with
      | none =>
       unfold vrV;go_wp2_with (fail);refine aE.mono ?_;rintro b a2 ⟨rfl,u,M,rfl⟩;have y:=(d.below M).wrong 4 at_;have av:Hid (Fr D w (ULw D u X X 4 at_)):=((o.trans (Fr.below i)).trans (Fr.below M)).trans (ULw.fr _ _ _ _);show _;simp only[itR,itW];go_wp2_with (go_at_call 114;refine(zah _ _ _).mono ?_;rintro b au ⟨rfl,E⟩;obtain rfl:=E.symm);go_ret
       exact⟨XR.mkBad j.out rfl y,av.out⟩
      | some v =>
       obtain⟨a9,Q⟩:=v;unfold vrV;dsimp only;by_cases t:0<Q
       ·have ay:Hid (exF c L ctx alone (.node 17 x m ks) at_=.ok (jn (joinL ls 0) a9,an)):=by show _=_;rw[j.out];simp[t]
        have aw:Hid (itR (Z (a9,Q))=F):=by show(if 0<Q then F else Z 3)=F;rw[jv t]
        go_wp2_with (fail);refine aE.mono ?_;rintro b a2 ⟨rfl,u,M,V⟩;rw[aw.out]at V;obtain rfl:a2=u:=V;have y:=d.below M;go_wp2_with (go_at_call 114;refine(zah _ _ _).mono ?_;rintro b au ⟨rfl,E⟩;obtain rfl:=E.symm);go_ret;exact⟨XR.mkOk ay.out rfl y,(o.trans (Fr.below i)).trans (Fr.below M)⟩
       ·have ay:Hid (exF c L ctx alone (.node 17 x m ks) at_=.bad 3 at_):=by show _=_;rw[j.out];simp[t]
        have aw:Hid (itR (Z (a9,Q))=Z 3):=by show(if 0<Q then F else Z 3)=Z 3;rw[ju t]
        go_wp2_with (fail);refine aE.mono ?_;rintro b a2 ⟨rfl,u,M,V⟩;rw[aw.out]at V;obtain rfl:a2=ULw D u X X 3 at_:=V;have y:=(d.below M).wrong 3 at_;have av:Hid (Fr D w (ULw D u X X 3 at_)):=((o.trans (Fr.below i)).trans (Fr.below M)).trans (ULw.fr _ _ _ _);go_wp2_with (go_at_call 114;refine(zah _ _ _).mono ?_;rintro b au ⟨rfl,E⟩;obtain rfl:=E.symm);go_ret;exact⟨XR.mkBad ay.out rfl y,av.out⟩
     have j:Hid (exF c L ctx alone (.node h x m ks) at_=.ok (joinL ls 0,an)):=by
      show _=_;rw[n.out];unfold zS;rw[ju b1,ju b2,ju b6]
     clear n;go_wp2;go_ret;exact⟨XR.mkOk j.out rfl g,o⟩
termination_by SizeOf.sizeOf q
decreasing_by exact dI aG
end
end chk
namespace face
open Go.RowKit
open syn
theorem zz6 (i:ByteArray) (a:List Kid) (v:Zv) (w:Zw) (ap:Lies (·<w.heap.size) w (.node 1 i 0 (a.map Kid.tree)) v) (bn:a.length<=1000) (aQ:∀k∈a,k.kids.length<=1000) : Calls prog 34 #[v,Y H] w fun g w'=>∃a3 a2 h,g=.returned (Za #[I i,a3,a2])/\FR (fun _=>False) (w.heap.size+3) w' a3 a2 (kI H a) h/\h.map (·.1)=kL H a/\Below w.heap.size w w':=by
 have bg:=kc25;have bh:prog.cellsOf 38=3:=xG;have bi:prog.cellsOf 52=4:=cell4;have bj:prog.cellsOf 57=6:=vA;obtain⟨aZ,hi,aT,aV,aX⟩:=info_parts zbw;obtain⟨b0,aK,aU,aW,aY⟩:=info_parts zha;unfold Lies at ap;obtain⟨B,C,rfl,aN,aM⟩:=ap;rw[List.length_map]at aN |-;have ab:=(Box3.new (w.alloc (Zc #[U O 1,I i,U O 0,J B a.length C] 25)) (I ⟨#[]⟩) (J F 0 0) (J F 0 0) 38).alloc (Zc #[I i,J F 0 0,J F 0 0] 38);have ac:=Box3.new ((w.alloc (Zc #[U O 1,I i,U O 0,J B a.length C] 25)).alloc (Zc #[I ⟨#[]⟩,J F 0 0,J F 0 0] 38)) (I i) (J F 0 0) (J F 0 0) 38;rw[jO]at ab;rw[jO,jO]at ac;have am:(w.alloc (Zc #[U O 1,I i,U O 0,J B a.length C] 25)).cell? (A w.heap.size 3 F)=Z (J B a.length C):=oB
 have an:GI H w (((w.alloc (Zc #[U O 1,I i,U O 0,J B a.length C] 25)).alloc (Zc #[I ⟨#[]⟩,J F 0 0,J F 0 0] 38)).alloc (Zc #[I i,J F 0 0,J F 0 0] 38)) i a (J B a.length C) (J F 0 0) (J F 0 0) 0 [] :=
  ⟨Joins.below_alloc3 _ _ _ _,kK (kK am _) _,ab,ac,FR.nil _ _ _,rfl⟩
 clear am ab ac;go_enter func34,ntmps34;go_wp2;go_loopw [6] (fun ak wr=>∃(d:Nat) (a3 a2:Zv) (h:List (ProcD × Zv)),d<=a.length/\ak=U O d/\GI H w wr i a (J B a.length C) a3 a2 d h) (fun ak _=>a.length - (intOf ak).toNat)
 case atStart=>exact⟨0,_,_,[],jz _,rfl,an⟩
 case round =>
  clear an;obtain⟨d,a3,a2,h,bp,rfl,e⟩:=hrel;have bs:=e.q3;by_cases D:d<a.length
  ·obtain⟨bm,W,rfl,aJ,a9⟩:=aM (by intro g;have:=congrArg List.length g;simp at this;rw[this]at D;simp at D);obtain⟨ad,af,G,K,y,z,r⟩:=cW aJ a9 e.below D;have aG:=fW H (a.take d);have bo:h.length<=a.length:=by have f:=congrArg List.length e.pq;have j:=fV H (a.take d);rw[List.length_map]at f;rw[List.length_take]at j;omega
   rw[List.length_take]at aG;have ai:=aQ a[d] (jH D);obtain⟨a6,a8,rfl⟩:=e.fr.shapeV;obtain⟨a5,a7,rfl⟩:=e.fr.shapeP
   cases u:a[d] with
   | imp x =>
    obtain⟨f,j⟩:=zxx (all:=H) D u;rw[u]at G K y z;simp only[Kid.kind,Kid.text,Kid.num,Kid.kids,je]at G K y z;clear a9 r;go_wp2;go_roundw
    case rel=>exact⟨d+1,_,_,h,oA,oJ,(e.next (yX _)).skip j f⟩
    case measure=>simp[intOf];omega
   | var x p b n =>
    obtain⟨f,j⟩:=zxy (all:=H) D u;rw[u]at G K y z r;simp only[Kid.kind,Kid.text,Kid.num]at G K y z r;clear a9
    have T:=yab x p b n _ (wr.alloc (Zc #[U O 3,I x,U O (2*bI p+bI b),J ad (Kid.var x p b n).kids.length af] 25)) (r.below (yX _));have L:Hid (kI H (a.take (d+1))=kI H (a.take d)++(if H||p then[zY x p b n] else[])):=f;clear f;unfold qC zY at T;simp only at T;generalize 2*bI p+bI b=num at y T;generalize (Kid.var x p b n).kids.length=ar at z T;clear r u;have aO:=e.b2.lt;have f:kI H (a.take (d+1))=kI H (a.take d)++[⟨x,p,bI b,n.getD 0⟩]:=by rw[L.out];rfl
    clear L
    go_wp2_with first
     | (go_at_call 65;refine T.mono ?_;rintro g t ⟨rfl,aa⟩;have Q:=e.next (zjh aa);have q:=Q.next (yX (Zc #[I x,Y p,U O (bI b),U O (n.getD 0)] 52));obtain⟨ax,ay,az,_,_,_⟩:=id q.b2;have aS:=Q.b2.lt;have b6:t.cell? (A wr.heap.size 0 F)=Z (U O 3):=zj9 aa 0)
     | (at_builtin;refine wpList_append_lies _ rfl (.tmp 36) (.tmp 38) 35 rfl (w.heap.size+3) 52 aZ (Za #[I ⟨#[]⟩,Y X,U O 0,U O 0]) 4 40 underlying35 hi aT aV aX rfl oC _ _ _ rfl (q.fr.ov.alloc _) (A (t.heap.size+1) 0 F) 1 1 [I x,Y p,U O (bI b),U O (n.getD 0)] rfl rfl (xF _ #[I x,Y p,U O (bI b),U O (n.getD 0)] _ _ oB) oF oA (by unfold maxLen;omega) oA oE (t.heap.size+1+1) oB ?_;intro aC aB aA aj E ah aP;have R:=q.next (yX (Zc #[I x,Y p,U O (bI b),U O (n.getD 0)] 52));have ae:=R.b2.grown E (fun g=>by have:=(q.fr.ov.lt _ g).1;omega);obtain⟨au,av,aw,b8,b9,ba⟩:=id ae;have b7:aA.cell? (A wr.heap.size 0 F)=Z (U O 3):=cell_grown E (kK (kK b6 _) _) (fun g=>by have:=(e.fr.ov.lt _ g).2;simp at this);have bu:=fun bf=>cell_far b7 (M:=w.heap.size+1+1) (o:=1) (by show w.heap.size+1+1≠wr.heap.size;omega) bf)
     | go_in
    go_roundw
    case rel=>exact⟨d+1,_,_,h,oA,oJ,R.pushV f j aj E (ah.imp id (fun N=>by rw[N];simp))⟩
    case measure=>simp[intOf];omega
   | proc x p b c ps o =>
    obtain⟨f,j⟩:=zvz (all:=H) D u;rw[u]at G K y z r ai;simp only[Kid.kind,Kid.text,Kid.num]at G K y z r;have aR:ps.length<=1000:=by simp only[Kid.kids,jb,List.length_map,List.length_singleton]at ai;omega
    clear a9
    have S:=zox x p b c ps o _ (wr.alloc (Zc #[U O 4,I x,U O (2*bI p+bI b+gI c),J ad (Kid.proc x p b c ps o).kids.length af] 25)) (r.below (yX _)) aR;have L:Hid (kL H (a.take (d+1))=kL H (a.take d)++(if H||p then[kO x p b c ps] else[])):=f;clear f;unfold qR kO at S;simp only at S;generalize 2*bI p+bI b+gI c=num at y S;generalize (Kid.proc x p b c ps o).kids.length=ar at z S;clear r u ai;have aO:=e.b2.lt;have f:kL H (a.take (d+1))=kL H (a.take d)++[⟨x,p,ps.map fun s=>bI s.2,bI b,c.isSome,bI (c.getD X)⟩]:=by rw[L.out];rfl
    clear L
    go_wp2_with first
     | (go_at_call 66;refine S.mono ?_;rintro g t ⟨bv,rfl,ao,aa⟩;obtain⟨l,m,rfl,_,_⟩:=lexs.own_shape ao;have Q:=e.next (zjh aa);have q:=Q.next (yX (Zc #[I x,Y p,J l ps.length m,U O (bI b),Y c.isSome,U O (bI (c.getD X))] 57));obtain⟨ax,ay,az,_,_,_⟩:=id q.b2;have aS:=Q.b2.lt)
     | (at_builtin;refine wpList_append_lies _ rfl (.tmp 52) (.tmp 54) 36 rfl (w.heap.size+3) 57 b0 (Za #[I ⟨#[]⟩,Y X,J F 0 0,U O 0,Y X,U O 0]) 6 72 underlying36 aK aU aW aY rfl oC _ _ _ rfl (q.fr.op.alloc _) (A (t.heap.size+1) 0 F) 1 1 [I x,Y p,J l ps.length m,U O (bI b),Y c.isSome,U O (bI (c.getD X))] rfl rfl (xF _ #[I x,Y p,J l ps.length m,U O (bI b),Y c.isSome,U O (bI (c.getD X))] _ _ oB) oR oA (by unfold maxLen;omega) oA oE (t.heap.size+1+1) oB ?_;intro aC aB aA aj E ah aP;have R:=q.next (yX (Zc #[I x,Y p,J l ps.length m,U O (bI b),Y c.isSome,U O (bI (c.getD X))] 57));have ae:=R.b2.grown E (fun g=>by have:=(q.fr.op.lt _ g).1;omega);obtain⟨au,av,aw,b8,b9,ba⟩:=id ae)
     | go_in
    have aF:yE (fun o=>w.heap.size+3<=o/\o<((t.alloc (Zc #[I x,Y p,J l ps.length m,U O (bI b),Y c.isSome,U O (bI (c.getD X))] 57)).alloc (Zc #[I x,Y p,J l ps.length m,U O (bI b),Y c.isSome,U O (bI (c.getD X))] 57)).heap.size/\(Value.slice a6 (kI H (a.take d)).length a8).ownBlock≠Z o/\(Value.slice a5 h.length a7).ownBlock≠Z o/\¬False) ((t.alloc (Zc #[I x,Y p,J l ps.length m,U O (bI b),Y c.isSome,U O (bI (c.getD X))] 57)).alloc (Zc #[I x,Y p,J l ps.length m,U O (bI b),Y c.isSome,U O (bI (c.getD X))] 57)) (J l ps.length m) (ps.map fun s=>bI s.2):=by
     have aD:t.ownsRow (wr.alloc (Zc #[U O 4,I x,U O num,J ad ar af] 25)).heap.size 3 1 (J l ps.length m) (ps.map fun s=>bI s.2).length (yG (ps.map fun s=>bI s.2)):=by rw[List.length_map];exact ao
     refine(yE.own aD).to (fun o V=>⟨?_,?_,fun g=>?_,fun g=>?_,fun N=>N⟩) (fun o V W v aH=>kK (kK aH _) _);·have:=V.1;rw[jO]at this;omega
     ·have:=V.2;simp;omega
     ·have f:=(e.fr.ov.lt _ g).2;have j:=V.1;rw[jO]at j;omega
     ·have f:=(e.fr.op.lt _ g).2;have j:=V.1;rw[jO]at j;omega
    go_roundw
    case rel=>exact⟨d+1,_,_,h++[(⟨x,p,ps.map fun s=>bI s.2,bI b,c.isSome,bI (c.getD X)⟩,J l ps.length m)],oA,oJ,R.pushP j f aj E (ah.imp id (fun N=>by rw[N];simp)) aF⟩
    case measure=>simp[intOf];omega
  ·have aL:a.take d=a:=jG oA;have P:=e.fr;have ag:=e.pq;rw[aL]at P ag;obtain⟨a6,a8,rfl⟩:=P.shapeV;obtain⟨a5,a7,rfl⟩:=P.shapeP;obtain⟨bb,bc,be,ax,ay,az⟩:=id e.b1;obtain⟨au,av,aw,_,_,_⟩:=id e.b2;have bq:(kI H a).length<=1000:=by have:=fW H a;omega
   have br:h.length<=1000:=by have f:=congrArg List.length ag;have j:=fV H a;rw[List.length_map]at f;omega
   have aE:=((P.set (M:=w.heap.size+1) (o:=0) oA (I i)).set (M:=w.heap.size+1) (o:=1) oA (J a6 (kI H a).length a8)).set (M:=w.heap.size+1) (o:=2) oA (J a5 h.length a7);have aI:=e.below;clear P e;go_wp2;refine jT (v:=Za #[I i,J a6 (kI H a).length a8,J a5 h.length a7]) (by simp[results,results34,go_sem,bb,bc,be]) rfl ⟨_,_,h,rfl,aE,ag,?_⟩;exact((aI.setCell (Nat.le_succ _) _).setCell (Nat.le_succ _) _).setCell (Nat.le_succ _) _
end face
namespace lexs
open Go.RowKit
set_option maxRecDepth 100000 in
theorem ybi (b:ByteArray) (w:Zw) (aK:b.size<=3000) : Calls prog 27 #[I b] w fun f w'=>∃v,f=.returned (.tuple #[v,Za #[U O (scan b.data.toList).code,U O (scan b.data.toList).place]]) /\ w'.ownsRow w.heap.size 76 3 v (scan b.data.toList).toks.length (cellsOf (scan b.data.toList).toks)/\Below w.heap.size w w':=by
 obtain⟨ad,hi,aa,ab,ac⟩:=info_parts zo7;have aM:¬(3000:Int)<(b.size:Int):=oA;obtain⟨R,a5⟩:∃R,R=scan b.data.toList:=⟨_,rfl⟩
 rw[<- a5]
 have ar:Hid (qH b.size (b.data.toList.drop 0) 0 []=R):=by
  show _=_;rw[a5,scan,ju (by rw[len_L];omega),len_L];rfl
 clear a5;go_enter func27,ntmps27;go_wp2
 go_loopw [4,5] (fun v K wr=>∃(a q:Nat) (i:List Tok),a<=b.size/\K=U O a/\b.size<=a+q/\Hid (qH q (b.data.toList.drop a) a i=R)/\wr.ownsRow (w.heap.size+1) 76 3 v i.length (cellsOf i)/\i.length<=a/\Below (w.heap.size+1) (w.alloc (Zc #[U O 0,U O 0] 28)) wr)
  (fun _ K _=>b.size - (intOf K).toNat)
 case atStart =>
  refine⟨0,b.size,[],oA,rfl,oA,ar.out,World.ownsRow_nil _ _ _ _,oB,Below.refl _ _⟩
 case round =>
  obtain⟨a,q,i,aG,rfl,ax,HS,o,aw,r⟩:=hrel;obtain⟨a7,a8,aD,aE,ag⟩:=boxes r;have ah:w.heap.size<wr.heap.size:=ag;by_cases h:a<b.size
  ·obtain⟨q,rfl⟩:∃au,q=au+1:=⟨q - 1,oA⟩
   cases x:((b[a].toNat:Int)==32)
   ·cases u : ((b[a].toNat:Int)==10)
    ·cases E : ((b[a].toNat:Int)==35)
     ·cases N:qB (b[a].toNat:Int)
      ·cases T:zL (b[a].toNat:Int)
       ·skip;go_wp2;go_loop [6] (fun p=>∃n:Nat,a+n<=b.size/\p=U O n/\Hid (∀d (e:d<b.size),a<=d->d<a+n->kN b[d]=H)) (fun p=>b.size - (intOf p).toNat)
        case atStart=>exact⟨0,oA,rfl,fun d _ m D=>oA⟩
        case round =>
         obtain⟨n,l,rfl,k⟩:=hrel;by_cases P:a+n<b.size
         ·cases M:zF (b[a+n].toNat:Int);·have j:Hid (run kN (b.data.toList.drop a)=n):=fL kN b a n l k.out (.inr ⟨P,M⟩);exact oz12x103
          ·go_wp2_with (go_at_call 54;refine(vS _ _).mono ?_;rintro f w' ⟨rfl,c⟩;obtain rfl:=c.symm);exact oz12x106
         ·have j:Hid (run kN (b.data.toList.drop a)=n):=fL kN b a n l k.out (.inl oA);exact oz12x103
       ·skip;go_wp2;go_loop [6] (fun p=>∃n:Nat,a+n<=b.size/\p=U O n/\Hid (∀d (e:d<b.size),a<=d->d<a+n->kN b[d]=H)) (fun p=>b.size - (intOf p).toNat)
        case atStart=>exact⟨0,oA,rfl,fun d _ m D=>oA⟩
        case round =>
         obtain⟨n,l,rfl,k⟩:=hrel;by_cases P:a+n<b.size
         ·cases M:zF (b[a+n].toNat:Int);·have j:Hid (run kN (b.data.toList.drop a)=n):=fL kN b a n l k.out (.inr ⟨P,M⟩);exact oz12x102
          ·go_wp2_with (go_at_call 54;refine(vS _ _).mono ?_;rintro f w' ⟨rfl,c⟩;obtain rfl:=c.symm);exact oz12x106
         ·have j:Hid (run kN (b.data.toList.drop a)=n):=fL kN b a n l k.out (.inl oA);exact oz12x102
      ·skip;go_wp2;go_loop [6] (fun p=>∃n:Nat,a+n<=b.size/\p=U O n/\Hid (∀d (e:d<b.size),a<=d->d<a+n->kN b[d]=H)) (fun p=>b.size - (intOf p).toNat)
       case atStart=>exact⟨0,oA,rfl,fun d _ m D=>oA⟩
       case round =>
        obtain⟨n,l,rfl,k⟩:=hrel;by_cases P:a+n<b.size
        ·cases M:zF (b[a+n].toNat:Int);·have j:Hid (run kN (b.data.toList.drop a)=n):=fL kN b a n l k.out (.inr ⟨P,M⟩);exact oz12x104
         ·go_wp2_with (go_at_call 54;refine(vS _ _).mono ?_;rintro f w' ⟨rfl,c⟩;obtain rfl:=c.symm);exact oz12x106
        ·have j:Hid (run kN (b.data.toList.drop a)=n):=fL kN b a n l k.out (.inl oA);exact oz12x104
     ·go_wp2;go_loop [5] (fun K=>∃g:Nat,a<=g/\g<=b.size/\K=U O g/\Hid (∀d (e:d<b.size),a<=d->d<g->(b[d] != 10)=H)) (fun K=>b.size - (intOf K).toNat)
      case atStart=>exact⟨a,oA,oA,rfl,fun d _ m D=>oA⟩
      case round =>
       obtain⟨g,aI,aJ,rfl,k⟩:=hrel;by_cases P:g<b.size
       ·cases l:((b[g].toNat:Int)==10)
        ·go_wp2
         go_round
         case rel=>exact⟨g+1,oA,oA,oJ,fun d e m D=>by
          rcases jL d g with S | S
          ·exact k.out d e m S
          ·have:d=g:=oA;subst this;rw[xP _ 10 10 rfl]at l
           simp[bne,l]⟩
         case measure=>simp[intOf];omega
        ·have j:run (fun s=>s != 10) (b.data.toList.drop a)=g - a:=fL _ b a (g - a) oA (fun d e m D=>k.out d e m oA) (.inr ⟨oA,by
          have f:a+(g - a)=g:=oA;simp only[f];rw[xP _ 10 10 rfl]at l
          simp[bne,l]⟩)
         exact oz12x110
       ·have j:run (fun s=>s != 10) (b.data.toList.drop a)=g - a:=fL _ b a (g - a) oA (fun d e m D=>k.out d e m oA) (.inl oA);exact oz12x110
    ·go_wp2;go_roundw
     case rel =>
      have L:=go_skip h (zft h (.inr u)) HS.out;exact⟨a+1,q,i,oA,oJ,oA,L.1,o,oA,r⟩
     case measure=>simp[intOf];omega
   ·go_wp2;go_roundw
    case rel =>
     have L:=go_skip h (zft h (.inl x)) HS.out;exact⟨a+1,q,i,oA,oJ,oA,L.1,o,oA,r⟩
    case measure=>simp[intOf];omega
  ·have G:=zpi oA HS.out;subst G;go_wp2;refine jT (v:=.tuple #[u4,Za #[U O 0,U O 0]]) (by simp[results,results27,go_sem,a7,a8]) rfl ⟨u4,rfl,?_,?_⟩;·exact ownsRow_le (ownsRow_setCell_below (ownsRow_setCell_below o oB _) oB _) oA
   ·exact((dT r).setCell (jE _) _).setCell (jE _) _
theorem zs2 (a:ByteArray) (w:Zw) (d:3000<a.size) : Calls prog 27 #[I a] w fun c w'=>∃v,c=.returned (.tuple #[v,Za #[U O (scan a.data.toList).code,U O (scan a.data.toList).place]]) /\ w'.ownsRow w.heap.size 76 3 v (scan a.data.toList).toks.length (cellsOf (scan a.data.toList).toks)/\Below w.heap.size w w':=by
 have e:(3000:Int)<(a.size:Int):=oA;have b:scan a.data.toList=.err 1 0:=by rw[scan,jv (by rw[len_L];omega)]
 rw[b];clear b;go_enter func27,ntmps27;go_wp2;refine jT (v:=.tuple #[J F 0 0,Za #[U O 1,U O 0]]) (by simp[results,results27,go_sem]) rfl ⟨_,rfl,World.ownsRow_nil _ _ _ _,?_⟩;exact bal _
theorem rscan_any (a:ByteArray) (w:Zw) : Calls prog 27 #[I a] w fun c w'=>∃v,c=.returned (.tuple #[v,Za #[U O (scan a.data.toList).code,U O (scan a.data.toList).place]]) /\ w'.ownsRow w.heap.size 76 3 v (scan a.data.toList).toks.length (cellsOf (scan a.data.toList).toks)/\Below w.heap.size w w':=by
 rcases jL 3000 a.size with b | b
 ·exact zs2 a w b
 ·exact ybi a w b
end lexs
end Go.Proofs.YtjkcecppnmlhjaaGreatDoor
