/- Faces: as plain data, where they lie in memory, and how an argument that reads as one is opened. -/
import Derived.Test.YtjkcecppnmlhjaaGreatDoorNQr
import Derived.Test.YtjkcecppnmlhjaaGreatDoorNQ00
import Derived.WalkLawsBesides
import Derived.Lib.SmallJoins
set_option linter.unusedVariables false
set_option maxRecDepth 100000
namespace Go.Proofs.YtjkcecppnmlhjaaGreatDoor
theorem oz07x75 {x:Prop} (b:x:=by
 exact⟨[],none,0,d,oB,fun b=>absurd rfl b⟩):x:=b
theorem oz07x74 {x:Prop} (b:x:=by
 obtain⟨ad,a5⟩:=Deep.choose_lt a3;refine⟨(List.range len).map ad,some c,y,by simpa using d,by simpa using a7,fun G=>?_⟩
 have a9:0<len:=by
  rcases Nat.eq_zero_or_pos len with b | b
  ·subst b;simp at G
  ·exact b
 have r:=(a5 0 a9).1;rw[Nat.zero_mul,Addr.add,jv rfl]at r;obtain⟨D,N,rfl⟩:=zel r;refine⟨D,N,rfl,fun a hi=>?_⟩;have:=a5 a (by simpa using hi);simp only[add_plain]at this;simp only[List.getElem_map,List.getElem_range]
 exact this):x:=b
namespace face
open Go.RowKit Go.ChangeShapes Go.WideShapes
open syn (kE eqS)
def IntsIn (w:World) (v:Value) (l:List Int):Prop:=∃a c,v=.slice a l.length c/\l.length<=9223372036854775807 /\
 (l≠[]->∃g o,a=some ⟨g,o,none⟩/\∀i (b:i<l.length),w.cell? ⟨g,o+i,none⟩=some (.int .i64 l[i]))
def bT (w:World) (v:Value) (l:List VarD):Prop:=∃a c,v=.slice a l.length c/\l.length<=4611686018427387903 /\
 (l≠[]->∃g o,a=some ⟨g,o,none⟩/\∀i (b:i<l.length),w.cell? ⟨g,o+i*4,none⟩=some (.string l[i].name)/\w.cell? ⟨g,o+i*4+1,none⟩=some (.bool l[i].pub) /\
  w.cell? ⟨g,o+i*4+2,none⟩=some (.int .i64 l[i].label)/\w.cell? ⟨g,o+i*4+3,none⟩=some (.int .i64 l[i].size))
def bK (w:World) (v:Value) (l:List ProcD):Prop:=∃a c,v=.slice a l.length c/\l.length<=4611686018427387903 /\
 (l≠[]->∃g o,a=some ⟨g,o,none⟩/\∀i (b:i<l.length),w.cell? ⟨g,o+i*6,none⟩=some (.string l[i].name)/\w.cell? ⟨g,o+i*6+1,none⟩=some (.bool l[i].pub) /\
  (∃u,w.cell? ⟨g,o+i*6+2,none⟩=some u/\IntsIn w u l[i].params) /\
  w.cell? ⟨g,o+i*6+3,none⟩=some (.int .i64 l[i].writes)/\w.cell? ⟨g,o+i*6+4,none⟩=some (.bool l[i].gives)/\w.cell? ⟨g,o+i*6+5,none⟩=some (.int .i64 l[i].given))
def qX (w:World) (v:Value) (f:FaceD):Prop:=∃b a,v=.agg #[.string f.module,b,a]/\bT w b f.vars/\bK w a f.procs
def qR (p:ProcD) (u:Value):Value:=.agg #[.string p.name,.bool p.pub,u,.int .i64 p.writes,.bool p.gives,.int .i64 p.given]
def qC (v:VarD):Value:=.agg #[.string v.name,.bool v.pub,.int .i64 v.label,.int .i64 v.size]
/-! what was there stays -/
variable {b d:World}
theorem keep {a:Addr} {e:Value} (c:b.cell? a=some e) (f:Below b.heap.size b d):d.cell? a=some e:=by
 rw[f.cell (jR b a c)];exact c
theorem IntsIn.below {v:Value} {a:List Int} (i:IntsIn b v a) (j:Below b.heap.size b d):IntsIn d v a:=by
 obtain⟨c,e,f,m,l⟩:=i;refine⟨c,e,f,m,fun n=>?_⟩;obtain⟨h,p,g,k⟩:=l n;exact⟨h,p,g,fun o hi=>keep (k o hi) j⟩
theorem bT.below {v:Value} {f:List VarD} (l:bT b v f) (a:Below b.heap.size b d):bT d v f:=by
 obtain⟨g,h,i,n,m⟩:=l;refine⟨g,h,i,n,fun o=>?_⟩;obtain⟨k,p,j,c⟩:=m o;exact⟨k,p,j,fun e hi=>⟨keep (c e hi).1 a,keep (c e hi).2.1 a,keep (c e hi).2.2.1 a,keep (c e hi).2.2.2 a⟩⟩
theorem bK.below {v:Value} {c:List ProcD} (j:bK b v c) (a:Below b.heap.size b d):bK d v c:=by
 obtain⟨e,f,g,s,r⟩:=j;refine⟨e,f,g,s,fun t=>?_⟩;obtain⟨i,x,h,q⟩:=r t;refine⟨i,x,h,fun w hi=>?_⟩;obtain⟨k,l,⟨y,m,u⟩,n,o,p⟩:=q w hi;exact⟨keep k a,keep l a,⟨y,keep m a,u.below a⟩,keep n a,keep o a,keep p a⟩
theorem qX.below {v:Value} {a:FaceD} (f:qX b v a) (c:Below b.heap.size b d):qX d v a:=by
 obtain⟨j,i,e,g,h⟩:=f;exact⟨j,i,e,g.below c,h.below c⟩
/-! an argument is opened -/
theorem zel {c:Addr} {v:Value} (a:b.cell? c=some v):∃d e,c=⟨d,e,none⟩:=by
 obtain⟨d,e,f⟩:=c
 cases f with
 | none=>exact⟨d,e,rfl⟩
 | some f =>
  unfold World.cell? at a;simp only at a;split at a;·simp at a
  ·cases a
section
variable {H:Type} {enc:TypeId × Value->H} {W:World} {n:Nat}
theorem cell4:Tryz.prog.cellsOf 52=4:=oD
theorem vA:Tryz.prog.cellsOf 57=6:=oD
theorem zbo:Tryz.prog.cellsOf 9=1:=oD
theorem zpc:Tryz.prog.cellsOf 4=1:=oD
theorem cF:Tryz.prog.cellsOf 3=1:=oD
theorem zzf:Tryz.prog.cellsOf 55=1:=oD
theorem xG:Tryz.prog.cellsOf 38=3:=oD
theorem zty:maxLen<=9223372036854775807:=by unfold maxLen;omega
theorem zmh:reachBytes<=4611686018427387903:=oC
theorem zu9:Tryz.prog.bytesOf 52=40:=oD
theorem ztl:Tryz.prog.bytesOf 57=72:=oD
theorem zst {v:Value} {l:DataW H × List MemPlace} (b:DataW.trod enc Tryz.prog W 0 (fun _=>true) true n 55 [v]=some l):∃w,IntsIn W v w:=by
 rcases open_ints Tryz.underlying55 Tryz.underlying3 cF b with⟨d,_⟩|⟨c,len,y,z,d,_,a6,a8,af,_,m,_⟩
 ·simp only[jq,and_true]at d;exact oz07x75
 ·simp only[jq,and_true]at d;simp only[if_true]at af;have g:(z.take len).length=len:=oQ;refine⟨z.take len,some c,y,by rw[g];exact d,by rw[g];have:=zty;omega,fun G=>?_⟩
  have a9:0<len:=by
   rcases Nat.eq_zero_or_pos len with b | b
   ·subst b;simp at G
   ·exact b
  have r:=m 0 oA;rw[Addr.add,jv rfl]at r;obtain⟨D,N,rfl⟩:=zel r;refine⟨D,N,rfl,fun a hi=>?_⟩;rw[g]at hi;have:=m a oA;rw[add_plain]at this;rw[this,List.getElem_take,List.getD_eq_getElem?_getD,List.getElem?_eq_getElem oA];rfl
theorem zuh {v:Value} {l:DataW H × List MemPlace} (b:DataW.trod enc Tryz.prog W 0 (fun _=>true) true n 35 [v]=some l) (K:∀u∈l.1.weights Tryz.prog 35,u<=reachBytes):∃w,bT W v w:=by
 rcases Deep.open_slice Tryz.underlying35 b with⟨d,_⟩|⟨c,len,y,M,u,ab,ac,d,_,a6,a8,E,rfl,m⟩
 ·simp only[jq,and_true]at d;exact oz07x75
 ·simp only[jq,and_true]at d;simp only[if_true]at E
  have a7:len<=4611686018427387903:=by
   have t:=K ((len+(M - len))*40) (by simp[DataW.weights,Tryz.underlying35,zu9]);have:=zmh;omega
  have a3:∀a,a<len->∃f:VarD,W.cell? (c.add (a*4))=some (.string f.name)/\W.cell? (c.add (a*4+1))=some (.bool f.pub)/\W.cell? (c.add (a*4+2))=some (.int .i64 f.label)/\W.cell? (c.add (a*4+3))=some (.int .i64 f.size):=by
   intro a hi;obtain⟨C,s,t⟩:=m a oA;rw[cell4]at s;obtain⟨_,g,e⟩:=World.cells?_some s;obtain⟨ai,aj,ak,am,ah,_,_,h,i,j,k⟩:=Joins.trod_struct4 Tryz.underlying52 t;simp only[zbo,zpc,cF]at h i j k
   match C,g with
   | [c0,c1,c2,c3],_ =>
    simp only[List.drop,List.take]at h i j k;obtain⟨P,o,_,_⟩:=DataW.trod_string Tryz.underlying9 h;obtain⟨B,p,_⟩:=DataW.trod_bool Tryz.underlying4 i;obtain⟨L,T,_,_⟩:=DataW.trod_int Tryz.underlying3 j;obtain⟨S,q,_,_⟩:=DataW.trod_int Tryz.underlying3 k;simp only[jq,and_true]at o p T q;subst o p T q;refine⟨⟨P,B,L,S⟩,?_,?_,?_,?_⟩;·simpa[Deep.add_add] using e 0 oA
    ·simpa[Deep.add_add] using e 1 oA
    ·simpa[Deep.add_add] using e 2 oA
    ·simpa[Deep.add_add] using e 3 oA
  exact oz07x74
theorem zrg {a:Program} {f:World} {b:Nat} {e:Nat->Bool} {d:Bool} {u:TypeId} {h i j k l m:Field} {v:Nat} {c:List Value} {z:DataW H × List MemPlace} (y:a.underlying u=some (.struct #[h,i,j,k,l,m])) (w:DataW.trod enc a f b e d v u c=some z) : ∃o p q r s t n,DataW.trod enc a f b e d n h.type ((c.drop h.offset).take (a.cellsOf h.type))=some o /\ DataW.trod enc a f b e d n i.type ((c.drop i.offset).take (a.cellsOf i.type))=some p/\DataW.trod enc a f b e d n j.type ((c.drop j.offset).take (a.cellsOf j.type))=some q /\ DataW.trod enc a f b e d n k.type ((c.drop k.offset).take (a.cellsOf k.type))=some r/\DataW.trod enc a f b e d n l.type ((c.drop l.offset).take (a.cellsOf l.type))=some s /\ DataW.trod enc a f b e d n m.type ((c.drop m.offset).take (a.cellsOf m.type))=some t:=by
 obtain⟨B,n,_,rfl,C,x,g⟩:=DataW.trod_struct y w
 match B,x with
 | [o,p,q,r,s,t],_=>exact⟨o,p,q,r,s,t,n,by simpa using g 0 h rfl,by simpa using g 1 i rfl,by simpa using g 2 j rfl,by simpa using g 3 k rfl,by simpa using g 4 l rfl,by simpa using g 5 m rfl⟩
theorem zsu {v:Value} {l:DataW H × List MemPlace} (b:DataW.trod enc Tryz.prog W 0 (fun _=>true) true n 36 [v]=some l) (K:∀u∈l.1.weights Tryz.prog 36,u<=reachBytes):∃w,bK W v w:=by
 rcases Deep.open_slice Tryz.underlying36 b with⟨d,_⟩|⟨c,len,y,M,u,ab,ac,d,_,a6,a8,E,rfl,m⟩
 ·simp only[jq,and_true]at d;exact oz07x75
 ·simp only[jq,and_true]at d;simp only[if_true]at E
  have a7:len<=4611686018427387903:=by
   have t:=K ((len+(M - len))*72) (by simp[DataW.weights,Tryz.underlying36,ztl]);have:=zmh;omega
  have a3:∀a,a<len->∃f:ProcD,W.cell? (c.add (a*6))=some (.string f.name)/\W.cell? (c.add (a*6+1))=some (.bool f.pub)/\(∃aa,W.cell? (c.add (a*6+2))=some aa/\IntsIn W aa f.params)/\W.cell? (c.add (a*6+3))=some (.int .i64 f.writes)/\W.cell? (c.add (a*6+4))=some (.bool f.gives)/\W.cell? (c.add (a*6+5))=some (.int .i64 f.given):=by
   intro a hi;obtain⟨C,s,t⟩:=m a oA;rw[vA]at s;obtain⟨_,g,e⟩:=World.cells?_some s;obtain⟨ai,aj,ak,am,an,ao,ah,h,i,j,k,Q,R⟩:=zrg Tryz.underlying57 t;simp only[zbo,zpc,cF,zzf]at h i j k Q R
   match C,g with
   | [c0,c1,c2,c3,c4,c5],_ =>
    simp only[List.drop,List.take]at h i j k Q R;obtain⟨P,o,_,_⟩:=DataW.trod_string Tryz.underlying9 h;obtain⟨B,p,_⟩:=DataW.trod_bool Tryz.underlying4 i;obtain⟨z,ag⟩:=zst j;obtain⟨L,q,_,_⟩:=DataW.trod_int Tryz.underlying3 k;obtain⟨ae,V,_⟩:=DataW.trod_bool Tryz.underlying4 Q;obtain⟨S,a2,_,_⟩:=DataW.trod_int Tryz.underlying3 R;simp only[jq,and_true]at o p q V a2;subst o p q V a2;refine⟨⟨P,B,z,L,ae,S⟩,?_,?_,⟨c2,?_,ag⟩,?_,?_,?_⟩;·simpa[Deep.add_add] using e 0 oA
    ·simpa[Deep.add_add] using e 1 oA
    ·simpa[Deep.add_add] using e 2 oA
    ·simpa[Deep.add_add] using e 3 oA
    ·simpa[Deep.add_add] using e 4 oA
    ·simpa[Deep.add_add] using e 5 oA
  exact oz07x74
end
end face
end Go.Proofs.YtjkcecppnmlhjaaGreatDoor
