/- What the program's stat writes of statements with one kid: contracts, kind by kind. -/
import Derived.Test.YtaadmdlbkhcfnaaGreatDoorNC12
set_option maxHeartbeats 4000000
set_option linter.unusedVariables false
set_option linter.unusedSimpArgs false
set_option maxRecDepth 100000
namespace Go.Proofs.YtaadmdlbkhcfnaaGreatDoor
namespace pr
open Go.RowKit Go.Shelf
open syn face chk
open lexs (qP)
def zor (w0:World) (r f:Nat):Prop :=
 ∀ (t:Tree) (nv:Value),kC (·<r) w0 t nv->okN (f+1) t->kI yT t=true->∀ (w:World) (v:Value) (ws:List ByteArray),Below r w0 w->WR w r v ws->ws.length+10*kB t<=800002->Calls Tryz.prog 159 #[.pointer (some ⟨r,0,none⟩),nv] w (WO r w v ws (yV (kD f) t))
section
variable {w0:World} {r f:Nat}
theorem zq7 (w:World):yU (w.alloc (.cells #[.int .i64 15,.int .i64 16,.int .i64 17,.int .i64 18,.int .i64 19,.int .i64 20,.int .i64 21] 3)) (.slice (some ⟨w.heap.size,0,none⟩) 7 7) yT:=by
 have:=zb1 w yT (by decide);simpa [yT] using this
theorem zti (hr:w0.heap.size=r) (hP:PH w0) (hBare:zor w0 r f) (h8:∀ t l,yV (kD f) t=some l->(l.length:Int)<=8*kB t):xK w0 r (kD (f+1)) (okN (f+1)):=by
 intro least t nv hl hq w v ws hB hW hn;have c24:=kc25;obtain ⟨k,x,m,ks⟩:=t;have hl':=hl;unfold kC at hl';obtain ⟨a,c,rfl,⟨hk1,hk2⟩,_⟩:=hl';have hrl:=hW.lt;have hA:=(Below.refl w.heap.size w).alloc (jE _) (.cells #[.int .i64 k,.string x,.int .i64 m,.slice a ks.length c] 25);have hA2:=hA.alloc (by simp) (.cells #[.int .i64 15,.int .i64 16,.int .i64 17,.int .i64 18,.int .i64 19,.int .i64 20,.int .i64 21] 3);have hPw:=hP.below (hr▸hB);have hP2:=hPw.below hA2;have hI:=zq7 (w.alloc (.cells #[.int .i64 k,.string x,.int .i64 m,.slice a ks.length c] 25));rw [jO] at hI;have bN:=(kJ.new w #[.int .i64 k,.string x,.int .i64 m,.slice a ks.length c] 25).alloc (.cells #[.int .i64 15,.int .i64 16,.int .i64 17,.int .i64 18,.int .i64 19,.int .i64 20,.int .i64 21] 3);have hL:=zcd yT _ k m x a ks.length c _ hP2.sh hP2.err hP2.mx hq.1 hk1 hI (by decide) (fun i hi=>by simp [yT] at hi;omega);have HO:Hid (kD (f+1) least (.node k x m ks)=if kI yT (.node k x m ks) then (if least<=uI k m then yV (kD f) (.node k x m ks) else (yV (kD f) (.node k x m ks)).bind fun e=>some ([⟨#[40]⟩]++e++[⟨#[41]⟩])) else none):=rfl;have HE:Hid (kI yT (.node k x m ks)=lookK yT k x m ks.length):=rfl
 cases hlk:lookK yT k x m ks.length with
 | false =>
  rw [hlk] at hL;have HN:Hid (kD (f+1) least (.node k x m ks)=none):=by show _=_;rw [HO.out,HE.out,hlk];rfl
  clear hI hP2 hlk hPw;go_enter Tryz.func145,Tryz.ntmps145;go_wp2_with (go_at_call 43;refine hL.mono ?_;rintro e w3 ⟨hb3,rfl⟩);refine ⟨rfl,?_⟩;rw [HN.out]
  exact ⟨rfl,(hA2.mono (ji hrl)).trans (hb3.mono (by have:=hA2.size;omega))⟩
 | true =>
  rw [hlk] at hL
  have hm19:k=19->1<=m/\m<=9:=fun e=>by
   subst e;unfold lookK at hlk;simp only [jj,jl] at hlk;exact ⟨hlk.1.1.1.1.2,hlk.1.1.1.2⟩
  have hlb:kI yT (.node k x m ks)=true:=HE.out.trans hlk;have HBd:Hid (∀ W,PH W->Calls Tryz.prog 158 #[.agg #[.int .i64 k,.string x,.int .i64 m,.slice a ks.length c]] W fun e w'=>e=.returned (.int .i64 (uI k m))/\Below W.heap.size W w'):=fun W hW=>zyl k m x a ks.length c W hW.ops hm19
  have HNW:Hid (w.heap.size≠r/\v.ownBlock≠some w.heap.size):=⟨by omega,fun e=>by have:=(hW.row.lt _ e).2;omega⟩
  have HBa:Hid (∀ (W:World) (V:Value) (WS:List ByteArray),Below r w0 W->WR W r V WS->WS.length<=ws.length+2->Calls Tryz.prog 159 #[.pointer (some ⟨r,0,none⟩),.agg #[.int .i64 k,.string x,.int .i64 m,.slice a ks.length c]] W (WO r W V WS (yV (kD f) (.node k x m ks)))):=fun W V WS h1 h2 h3=>hBare _ _ hl hq hlb W V WS h1 h2 (by omega)
  have HO2:Hid (kD (f+1) least (.node k x m ks)=if least<=uI k m then yV (kD f) (.node k x m ks) else (yV (kD f) (.node k x m ks)).bind fun e=>some ([⟨#[40]⟩]++e++[⟨#[41]⟩])):=by show _=_;rw [HO.out,jv hlb]
  have hcp:=kR (.node k x m ks);have hbl:Hid (∀ l,yV (kD f) (.node k x m ks)=some l->(l.length:Int)<=8*kB (.node k x m ks)):=fun l e=>h8 _ l e
  clear hI hP2 hlk hlb hm19 hBare HO HE h8 hP hl hq hk1 hk2;generalize uI k m=bd at *;generalize hob:yV (kD f) (.node k x m ks)=ob at *;generalize kD (f+1) least (.node k x m ks)=OO at *;clear hob;by_cases hle:least<=bd
  ·rw [jv hle] at HO2;obtain rfl:=HO2.out
   cases OO with
   | none =>
    go_enter Tryz.func145,Tryz.ntmps145
    go_wp2_with first
     | (go_at_call 43;refine hL.mono ?_;rintro e w3 ⟨hb3,rfl⟩;have hb4:=hA2.trans (hb3.mono hA2.size);have bN3:=bN.below hb3;have z0:=bN3.cell 0 rfl;have z1:=bN3.cell 1 rfl;have z2:=bN3.cell 2 rfl;have z3:=bN3.cell 3 rfl)
     | (go_at_call 158;refine (HBd.out w3 (hPw.below hb4)).mono ?_;rintro e w5 ⟨rfl,hb5⟩;have hb6:=hb4.trans (hb5.mono hb4.size);have bN5:=bN3.below hb5;have y0:=bN5.cell 0 rfl;have y1:=bN5.cell 1 rfl;have y2:=bN5.cell 2 rfl;have y3:=bN5.cell 3 rfl)
     | (go_at_call 159;refine (HBa.out w5 v ws (hB.trans (hb6.mono (ji hrl))) (hW.below hb6) (by omega)).mono ?_;rintro e w8 ⟨rfl,hb8⟩)
    exact ⟨rfl,rfl,(hb6.mono (ji hrl)).trans hb8⟩
   | some l =>
    go_enter Tryz.func145,Tryz.ntmps145
    go_wp2_with first
     | (go_at_call 43;refine hL.mono ?_;rintro e w3 ⟨hb3,rfl⟩;have hb4:=hA2.trans (hb3.mono hA2.size);have bN3:=bN.below hb3;have z0:=bN3.cell 0 rfl;have z1:=bN3.cell 1 rfl;have z2:=bN3.cell 2 rfl;have z3:=bN3.cell 3 rfl)
     | (go_at_call 158;refine (HBd.out w3 (hPw.below hb4)).mono ?_;rintro e w5 ⟨rfl,hb5⟩;have hb6:=hb4.trans (hb5.mono hb4.size);have bN5:=bN3.below hb5;have y0:=bN5.cell 0 rfl;have y1:=bN5.cell 1 rfl;have y2:=bN5.cell 2 rfl;have y3:=bN5.cell 3 rfl)
     | (go_at_call 159;refine (HBa.out w5 v ws (hB.trans (hb6.mono (ji hrl))) (hW.below hb6) (by omega)).mono ?_;rintro e w8 ⟨rfl,v8,hW8,hF8,hB8⟩)
    go_end0
    exact ⟨rfl,v8,hW8,(FrU.below hb6 r v).trans hF8,(hb6.mono (ji hrl)).trans hB8⟩
  ·rw [ju hle] at HO2;obtain rfl:=HO2.out
   cases ob with
   | none =>
    go_enter Tryz.func145,Tryz.ntmps145
    go_wp2_with first
     | (go_at_call 43;refine hL.mono ?_;rintro e w3 ⟨hb3,rfl⟩;have hb4:=hA2.trans (hb3.mono hA2.size);have bN3:=bN.below hb3;have z0:=bN3.cell 0 rfl;have z1:=bN3.cell 1 rfl;have z2:=bN3.cell 2 rfl;have z3:=bN3.cell 3 rfl)
     | (go_at_call 158;refine (HBd.out w3 (hPw.below hb4)).mono ?_;rintro e w5 ⟨rfl,hb5⟩;have hb6:=hb4.trans (hb5.mono hb4.size);have bN5:=bN3.below hb5;have y0:=bN5.cell 0 rfl;have y1:=bN5.cell 1 rfl;have y2:=bN5.cell 2 rfl;have y3:=bN5.cell 3 rfl)
     | (go_at_call 44;refine (vB (hW.below hb6) ⟨#[40]⟩ (by omega)).mono ?_;rintro e w7 ⟨rfl,v7,hW7,hF7,hB7⟩;have bN7:=bN5.fr hF7 HNW.out.1 HNW.out.2;have x0:=bN7.cell 0 rfl;have x1':=bN7.cell 1 rfl;have x2:=bN7.cell 2 rfl;have x3:=bN7.cell 3 rfl;have hB8:=(hB.trans (hb6.mono (ji hrl))).trans hB7)
     | (go_at_call 159;refine (HBa.out w7 v7 _ hB8 hW7 (by simp)).mono ?_;rintro e w9 ⟨rfl,hb9⟩)
    exact ⟨rfl,rfl,((hb6.mono (ji hrl)).trans hB7).trans hb9⟩
   | some l =>
    have hl8:=hbl.out l rfl;go_enter Tryz.func145,Tryz.ntmps145
    go_wp2_with first
     | (go_at_call 43;refine hL.mono ?_;rintro e w3 ⟨hb3,rfl⟩;have hb4:=hA2.trans (hb3.mono hA2.size);have bN3:=bN.below hb3;have z0:=bN3.cell 0 rfl;have z1:=bN3.cell 1 rfl;have z2:=bN3.cell 2 rfl;have z3:=bN3.cell 3 rfl)
     | (go_at_call 158;refine (HBd.out w3 (hPw.below hb4)).mono ?_;rintro e w5 ⟨rfl,hb5⟩;have hb6:=hb4.trans (hb5.mono hb4.size);have bN5:=bN3.below hb5;have y0:=bN5.cell 0 rfl;have y1:=bN5.cell 1 rfl;have y2:=bN5.cell 2 rfl;have y3:=bN5.cell 3 rfl)
     | (go_at_call 44;refine (vB hW9 ⟨#[41]⟩ (by simp only [jb,jd,je];omega)).mono ?_;rintro e w10 ⟨rfl,v10,hW10,hF10,hB10⟩)
     | (go_at_call 44;refine (vB (hW.below hb6) ⟨#[40]⟩ (by omega)).mono ?_;rintro e w7 ⟨rfl,v7,hW7,hF7,hB7⟩;have bN7:=bN5.fr hF7 HNW.out.1 HNW.out.2;have x0:=bN7.cell 0 rfl;have x1':=bN7.cell 1 rfl;have x2:=bN7.cell 2 rfl;have x3:=bN7.cell 3 rfl;have hB8:=(hB.trans (hb6.mono (ji hrl))).trans hB7)
     | (go_at_call 159;refine (HBa.out w7 v7 _ hB8 hW7 (by simp)).mono ?_;rintro e w9 ⟨rfl,v9,hW9,hF9,hB9⟩)
    go_end0
    exact ⟨rfl,v10,by simpa [jt] using hW10,((FrU.below hb6 r v).trans hF7).trans (hF9.trans hF10),(((hb6.mono (ji hrl)).trans hB7).trans hB9).trans hB10⟩
end
end pr
namespace pr
open Go.RowKit Go.Shelf
open syn face chk
section
variable {w0:World} {r f:Nat}
theorem oOp (hr:w0.heap.size=r) (hP:PH w0) (hO:xK w0 r (kD f) (okN f)) (x:ByteArray) (mn:Nat) (t0 t1:Tree) (nv:Value) (hl:kC (·<r) w0 (.node 19 x mn [t0,t1]) nv) (hm:1<=mn/\mn<=9) (h0:okN f t0) (h1:okN f t1) (w:World) (v:Value) (ws:List ByteArray) (hB:Below r w0 w) (hW:WR w r v ws) (hn:ws.length+10*(kB t0+kB t1+1)<=800002) : Calls Tryz.prog 166 #[.pointer (some ⟨r,0,none⟩),nv] w (WO r w v ws ((kD f (max (kZ mn) 1) t0).bind fun a=>(kD f (kZ mn+1) t1).bind fun b=>some (a++[syn.opAt mn]++b))):=by
 have c24:=kc25;have c2:=kc207;have hrl:=hW.lt;have p0:=kR t0;have p1:=kR t1;unfold kC at hl;obtain ⟨a,c,rfl,hk,hat⟩:=hl;obtain ⟨g,o,rfl,hg,hat⟩:=hat (by simp);obtain ⟨n0,⟨a0,a1,a2,a3,rfl,q0,q1,q2,q3⟩,l0⟩:=hat.get 0 (by simp);obtain ⟨n1,⟨b0,b1,b2,b3,rfl,s0,s1,s2,s3⟩,l1⟩:=hat.get 1 (by simp);simp only [jI,List.getElem_cons_succ,Nat.zero_mul,Nat.one_mul,Nat.add_zero] at l0 l1 q0 q1 q2 q3 s0 s1 s2 s3
 have hk0:∀ W,Below r w0 W->W.cell? ⟨g,o,none⟩=some a0/\W.cell? ⟨g,o+1,none⟩=some a1/\W.cell? ⟨g,o+2,none⟩=some a2/\W.cell? ⟨g,o+3,none⟩=some a3/\W.cell? ⟨g,o+4,none⟩=some b0/\W.cell? ⟨g,o+4+1,none⟩=some b1/\W.cell? ⟨g,o+4+2,none⟩=some b2/\W.cell? ⟨g,o+4+3,none⟩=some b3:=fun W hb=>by
  have e:∀ i u,w0.cell? ⟨g,i,none⟩=some u->W.cell? ⟨g,i,none⟩=some u:=fun i u h=>by rw [hb.cell (p:=⟨g,i,none⟩) hg];exact h
  exact ⟨e _ _ q0,e _ _ q1,e _ _ q2,e _ _ q3,e _ _ s0,e _ _ s1,e _ _ s2,e _ _ s3⟩
 have hA:=(Below.refl w.heap.size w).alloc (jE _) (.cells #[.int .i64 19,.string x,.int .i64 mn,.slice (some ⟨g,o,none⟩) 2 c] 25);have hA2:=hA.alloc (by simp) (.cells #[.string (syn.opAt mn),.int .i64 (kZ mn)] 207);have hPw:=hP.below (hr▸hB)
 have qo:(w.alloc (.cells #[.int .i64 19,.string x,.int .i64 mn,.slice (some ⟨g,o,none⟩) 2 c] 25)).cell? ⟨5,mn*2,none⟩=some (.string (syn.opAt mn))/\(w.alloc (.cells #[.int .i64 19,.string x,.int .i64 mn,.slice (some ⟨g,o,none⟩) 2 c] 25)).cell? ⟨5,mn*2+1,none⟩=some (.int .i64 (kZ mn)):=by
  obtain ⟨cs,t,fr,h1,h2,h3⟩:=cJ hPw.ops hA;have:=h3 mn (by omega);exact ⟨by simp [World.cell?,h1,this.1],by simp [World.cell?,h1,this.2]⟩
 obtain ⟨qo1,qo2⟩:=qo;obtain ⟨e0,e1,e2,e3,d0,d1,d2,d3⟩:=hk0 _ (hB.trans (hA2.mono (ji hrl)));obtain ⟨ka,xa,ma,aa,na,ca,ea⟩:=lies_shape l0;obtain ⟨kb,xb,mb,ab,nb,cb,eb⟩:=lies_shape l1;injection ea with ea;injection eb with eb;simp only [Array.mk.injEq,jq,and_true] at ea eb;obtain ⟨rfl,rfl,rfl,rfl⟩:=ea;obtain ⟨rfl,rfl,rfl,rfl⟩:=eb;have hC:=hO (max (kZ mn) 1) t0 _ l0 h0 _ v ws (hB.trans (hA2.mono (ji hrl))) (hW.below hA2) (by omega);clear hat hP q0 q1 q2 q3 s0 s1 s2 s3
 cases hg0:kD f (max (kZ mn) 1) t0 with
 | none =>
  rw [hg0] at hC;generalize kZ mn=z at *;generalize syn.opAt mn=y at *;go_enter Tryz.func166,Tryz.ntmps166;go_wp2_with (go_at_call 145;refine hC.mono ?_;rintro e w5 ⟨rfl,hb5⟩)
  exact ⟨rfl,rfl,(hA2.mono (ji hrl)).trans hb5⟩
 | some la =>
  rw [hg0] at hC;have hla:=vM f _ _ _ hg0;have HC1:Hid (∀ (W:World) (V:Value) (WS:List ByteArray),Below r w0 W->WR W r V WS->(WS.length:Int)<=ws.length+la.length+1->Calls Tryz.prog 145 #[.pointer (some ⟨r,0,none⟩),.agg #[.int .i64 kb,.string xb,.int .i64 mb,.slice ab nb cb],.int .i64 (kZ mn+1)] W (WO r W V WS (kD f (kZ mn+1) t1))):=fun W V WS g1 g2 g3=>hO _ t1 _ l1 h1 W V WS g1 g2 (by omega)
  have hz1:0<=kZ mn/\kZ mn<=2:=by
   have:mn=1\/mn=2\/mn=3\/mn=4\/mn=5\/mn=6\/mn=7\/mn=8\/mn=9:=by omega
   rcases this with rfl | rfl | rfl | rfl | rfl | rfl | rfl | rfl | rfl<;>decide
  have HNW:Hid ((w.heap.size≠r/\v.ownBlock≠some w.heap.size)/\(w.heap.size+1≠r/\v.ownBlock≠some (w.heap.size+1))):=⟨⟨by omega,fun e=>by have:=(hW.row.lt _ e).2;omega⟩,⟨by omega,fun e=>by have:=(hW.row.lt _ e).2;omega⟩⟩
  have bN:=(kJ.new w #[.int .i64 19,.string x,.int .i64 mn,.slice (some ⟨g,o,none⟩) 2 c] 25).alloc (.cells #[.string (syn.opAt mn),.int .i64 (kZ mn)] 207);have bM:=kJ.new (w.alloc (.cells #[.int .i64 19,.string x,.int .i64 mn,.slice (some ⟨g,o,none⟩) 2 c] 25)) #[.string (syn.opAt mn),.int .i64 (kZ mn)] 207;rw [jO] at bM;have HK:=show Hid _ from hk0
  have hB2:=hB.trans (hA2.mono (ji hrl));have hs2:((w.alloc (.cells #[.int .i64 19,.string x,.int .i64 mn,.slice (some ⟨g,o,none⟩) 2 c] 25)).alloc (.cells #[.string (syn.opAt mn),.int .i64 (kZ mn)] 207)).heap.size=w.heap.size+2:=by simp
  have HS2:=show Hid _ from hs2
  clear hs2 hk0 l0 l1 h0 h1 hO hg0 hPw;generalize hob:kD f (kZ mn+1) t1=ob at *;clear hob;generalize kZ mn=z at *;generalize syn.opAt mn=y at *;go_enter Tryz.func166,Tryz.ntmps166
  go_wp2_with first
   | (go_at_call 44;refine (vB hW5 y (by rw [jb];omega)).mono ?_;rintro e w7 ⟨rfl,v7,hW7,hF7,hB7⟩)
   | (go_at_call 145;refine hC.mono ?_;rintro e w5 ⟨rfl,v5,hW5,hF5,hB5⟩;have bN5:=bN.fr hF5 HNW.out.1.1 HNW.out.1.2;have bM5:=bM.fr hF5 HNW.out.2.1 HNW.out.2.2;have i0:=bM5.cell 0 rfl)
  have hv5:∀ b,b<w.heap.size+2->v.ownBlock≠some b->v5.ownBlock≠some b:=fun b h1 h2 e=>by
   rcases hF5.own b e with h | h
   ·exact h2 h
   ·have:=HS2.out;omega
  have HV7:Hid (v7.ownBlock≠some w.heap.size/\v7.ownBlock≠some (w.heap.size+1)):=by
   have hs5:w.heap.size+2<=w5.heap.size:=by have:=hF5.size;have:=HS2.out;omega
   exact ⟨fun e=>(hF7.own _ e).elim (hv5 _ (by omega) HNW.out.1.2) (fun h=>by omega),fun e=>(hF7.own _ e).elim (hv5 _ (by omega) HNW.out.2.2) (fun h=>by omega)⟩
  have hwz:IntKind.i64.wrap (z+1)=z+1:=by rw [IntKind.wrap_i64];omega
  have hw78:w.heap.size+2<=w7.heap.size:=by have:=hF7.size;have:=hF5.size;have:=HS2.out;omega
  have bN7:=(bN5.fr hF7 HNW.out.1.1 (hv5 _ (by omega) HNW.out.1.2)).below (Below.refl _ _).drew;have bM7:=(bM5.fr hF7 HNW.out.2.1 (hv5 _ (by omega) HNW.out.2.2)).below (Below.refl _ _).drew;have hB8:=((hB2.trans hB5).trans hB7).drew;have hW8:=hW7.below (Below.refl _ _).drew;have hFF:=((FrU.below hA2 r v).trans hF5).trans hF7;have hBB:=((hA2.mono (ji hrl)).trans hB5).trans hB7;obtain ⟨-,-,-,-,j0,j1,j2,j3⟩:=HK.out _ hB8;have hS:w7.drew.cell? ⟨w.heap.size,3,none⟩=some (.slice (some ⟨g,o,none⟩) 2 c)/\w7.drew.cell? ⟨w.heap.size+1,1,none⟩=some (.int .i64 z)/\w7.drew.cell? ⟨g,o+4,none⟩=some (.int .i64 kb)/\w7.drew.cell? ⟨g,o+4+1,none⟩=some (.string xb)/\w7.drew.cell? ⟨g,o+4+2,none⟩=some (.int .i64 mb)/\w7.drew.cell? ⟨g,o+4+3,none⟩=some (.slice ab nb cb):=⟨bN7.cell 3 rfl,bM7.cell 1 rfl,j0,j1,j2,j3⟩
  refine wp_region_held_drew (S:=fun W=>W.cell? ⟨w.heap.size,3,none⟩=some (.slice (some ⟨g,o,none⟩) 2 c)/\W.cell? ⟨w.heap.size+1,1,none⟩=some (.int .i64 z)/\W.cell? ⟨g,o+4,none⟩=some (.int .i64 kb)/\W.cell? ⟨g,o+4+1,none⟩=some (.string xb)/\W.cell? ⟨g,o+4+2,none⟩=some (.int .i64 mb)/\W.cell? ⟨g,o+4+3,none⟩=some (.slice ab nb cb)) (by kernel_rfl) hS (fun hHeld=>?_);clear hHeld bN7 bM7 bN5 bM5 bN bM i0 j0 j1 j2 j3 e0 e1 e2 e3 d0 d1 d2 d3 qo1 qo2 hC hv5;have hD7:Below w7.heap.size w7 w7.drew:=(Below.refl _ _).drew;generalize w7.drew=W at *;refine tkS (i:=0) (v:=.pointer (some ⟨r,0,none⟩)) rfl rfl (Or.inl ⟨by rfl,fun w hSw=>by obtain ⟨z0,z1,z2,z3,z4,z5⟩:=hSw;go_simp⟩) hS ?_;simp only [jA,jB,jC];refine tkS (i:=1) (v:=.pointer (some ⟨w.heap.size,3,none⟩)) rfl rfl (Or.inl ⟨by rfl,fun w hSw=>by obtain ⟨z0,z1,z2,z3,z4,z5⟩:=hSw;go_simp⟩) hS ?_;simp only [jA,jB,jC];refine tkS (i:=2) (v:=.slice (some ⟨g,o,none⟩) 2 c) rfl rfl (Or.inl ⟨by rfl,fun w hSw=>by obtain ⟨z0,z1,z2,z3,z4,z5⟩:=hSw;go_simp⟩) hS ?_;simp only [jA,jB,jC];refine tkS (i:=3) (v:=.pointer (some ⟨g,o+4,none⟩)) rfl rfl (Or.inl ⟨by rfl,fun w hSw=>by obtain ⟨z0,z1,z2,z3,z4,z5⟩:=hSw;go_simp⟩) hS ?_;simp only [jA,jB,jC];refine tkS (i:=4) (v:=.agg #[.int .i64 kb,.string xb,.int .i64 mb,.slice ab nb cb] ) rfl rfl (Or.inl ⟨by rfl,fun w hSw=>by obtain ⟨z0,z1,z2,z3,z4,z5⟩:=hSw;go_simp⟩) hS ?_;simp only [jA,jB,jC];refine tkS (i:=5) (v:=.pointer (some ⟨w.heap.size+1,1,none⟩)) rfl rfl (Or.inl ⟨by rfl,fun w hSw=>by obtain ⟨z0,z1,z2,z3,z4,z5⟩:=hSw;go_simp⟩) hS ?_;simp only [jA,jB,jC];refine tkS (i:=6) (v:=.int .i64 z) rfl rfl (Or.inl ⟨by rfl,fun w hSw=>by obtain ⟨z0,z1,z2,z3,z4,z5⟩:=hSw;go_simp⟩) hS ?_;simp only [jA,jB,jC];refine tkS (i:=7) (v:=.int .i64 (z+1)) rfl rfl (Or.inl ⟨by rfl,fun w hSw=>by obtain ⟨z0,z1,z2,z3,z4,z5⟩:=hSw;go_simp⟩) hS ?_;simp only [jA,jB,jC];refine oneH 8 fun KK hK=>?_
  go_simp;go_at_call 145;refine (HC1.out W v7 _ hB8 hW8 (by simp only [jb,jd,je];push_cast;omega)).mono ?_
  cases ob with
  | none =>
   rintro e w9 ⟨rfl,hb9⟩;go_wp2
   exact ⟨rfl,rfl,(hBB.trans (hD7.mono (by omega))).trans hb9⟩
  | some lb =>
   rintro e w9 ⟨rfl,v9,hW9,hF9,hB9⟩;go_wp2;obtain ⟨g1,g2,g3,g4,g5,g6⟩:=hS;have hws:w.heap.size+2<=W.heap.size:=by have:=hD7.size;omega
   have key:∀ i u,W.cell? ⟨g,i,none⟩=some u->w9.cell? ⟨g,i,none⟩=some u:=fun i u h=>by rw [hB9.cell (p:=⟨g,i,none⟩) hg];exact h
   refine hK.out _ _ ⟨by rw [hF9.cell (by omega) HNW.out.1.1 HV7.out.1];exact g1,by rw [hF9.cell (by omega) HNW.out.2.1 HV7.out.2];exact g2,key _ _ g3,key _ _ g4,key _ _ g5,key _ _ g6⟩ (fun _=>?_);clear hK KK;refine wpAnyH_done (by kernel_rfl) ?_ _;go_wp2
   go_end0
   exact ⟨rfl,v9,by simpa [jt] using hW9,hFF.trans ((FrU.below hD7 r v7).trans hF9),(hBB.trans (hD7.mono (by omega))).trans hB9⟩
end
section
variable {w0:World} {r f:Nat}
theorem zz2 (hr:w0.heap.size=r) (hP:PH w0) (m:Int) (x:ByteArray) (a:Option Addr) (n c:Nat) (hlk:lookK [15] 15 x m n=true) (hx:x.size<4611686018427387904) (hk:n<=4611686018427387904) (hm:0<=m/\m<=9223372036854775807) (w:World) (v:Value) (ws:List ByteArray) (hB:Below r w0 w) (hW:WR w r v ws) (hn:ws.length<=900000) : Calls Tryz.prog 159 #[.pointer (some ⟨r,0,none⟩),.agg #[.int .i64 15,.string x,.int .i64 m,.slice a n c]] w (WE r w v ws [vW m]):=by
 have c24:=kc25;have hrl:=hW.lt;have hA:=(Below.refl w.heap.size w).alloc (jE _) (.cells #[.int .i64 15,.string x,.int .i64 m,.slice a n c] 25);have hC:=zh8 hr hP (hB.trans (hA.mono (ji hrl))) (hW.below hA) m x a n c hlk hx hk hm hn;generalize vW m=y at *;go_enter Tryz.func159,Tryz.ntmps159;go_wp2_with (go_at_call 75;refine hC.mono ?_;rintro e w2 ⟨rfl,v2,hW2,hF2,hB2⟩)
 go_end0
 exact ⟨rfl,v2,hW2,(FrU.below hA r v).trans hF2,(hA.mono (ji hrl)).trans hB2⟩
theorem zyy (hr:w0.heap.size=r) (hP:PH w0) (m:Int) (x:ByteArray) (a:Option Addr) (n c:Nat) (l:List ByteArray) (hl:kV x=some l) (hx:x.size<4611686018427387904) (w:World) (v:Value) (ws:List ByteArray) (hB:Below r w0 w) (hW:WR w r v ws) (hn:ws.length<=900000) : Calls Tryz.prog 159 #[.pointer (some ⟨r,0,none⟩),.agg #[.int .i64 16,.string x,.int .i64 m,.slice a n c]] w (WE r w v ws l):=by
 have c24:=kc25;have hrl:=hW.lt;have hA:=(Below.refl w.heap.size w).alloc (jE _) (.cells #[.int .i64 16,.string x,.int .i64 m,.slice a n c] 25);have hPa:=(hP.below (hr▸hB)).below hA;have hC:=zfd (hW.below hA) x l hl hx hPa.err hPa.mx hn;clear hl;go_enter Tryz.func159,Tryz.ntmps159;go_wp2_with (go_at_call 165;refine hC.mono ?_;rintro e w2 ⟨rfl,v2,hW2,hF2,hB2⟩)
 go_end0
 exact ⟨rfl,v2,hW2,(FrU.below hA r v).trans hF2,(hA.mono (ji hrl)).trans hB2⟩
theorem zza (hr:w0.heap.size=r) (hP:PH w0) (hO:xK w0 r (kD f) (okN f)) (x:ByteArray) (mn:Nat) (t0 t1:Tree) (nv:Value) (hl:kC (·<r) w0 (.node 19 x mn [t0,t1]) nv) (hm:1<=mn/\mn<=9) (h0:okN f t0) (h1:okN f t1) (w:World) (v:Value) (ws:List ByteArray) (hB:Below r w0 w) (hW:WR w r v ws) (hn:ws.length+10*(kB t0+kB t1+1)<=800002) : Calls Tryz.prog 159 #[.pointer (some ⟨r,0,none⟩),nv] w (WO r w v ws ((kD f (max (kZ mn) 1) t0).bind fun a=>(kD f (kZ mn+1) t1).bind fun b=>some (a++[syn.opAt mn]++b))):=by
 have c24:=kc25;have hrl:=hW.lt;have hl':=hl;unfold kC at hl';obtain ⟨a,c,rfl,_,_⟩:=hl';have hA:=(Below.refl w.heap.size w).alloc (jE _) (.cells #[.int .i64 19,.string x,.int .i64 mn,.slice a [t0,t1].length c] 25);have hC:=oOp hr hP hO x mn t0 t1 _ hl hm h0 h1 _ v ws (hB.trans (hA.mono (ji hrl))) (hW.below hA) hn;generalize ((kD f (max (kZ mn) 1) t0).bind fun a=>(kD f (kZ mn+1) t1).bind fun b=>some (a++[syn.opAt mn]++b))=ob at *;clear hl
 cases ob with
 | none =>
  go_enter Tryz.func159,Tryz.ntmps159;go_wp2_with (go_at_call 166;refine hC.mono ?_;rintro e w2 ⟨rfl,hb2⟩)
  exact ⟨rfl,rfl,(hA.mono (ji hrl)).trans hb2⟩
 | some l =>
  go_enter Tryz.func159,Tryz.ntmps159;go_wp2_with (go_at_call 166;refine hC.mono ?_;rintro e w2 ⟨rfl,v2,hW2,hF2,hB2⟩)
  go_end0
  exact ⟨rfl,v2,hW2,(FrU.below hA r v).trans hF2,(hA.mono (ji hrl)).trans hB2⟩
end
section
variable {w0:World} {r f:Nat}
theorem fC {k:Int} {x:ByteArray} {m:Int} {t0:Tree} {nv:Value} (hl:kC (·<r) w0 (.node k x m [t0]) nv) : ∃ g o c ka xa ma aa na ca,nv=.agg #[.int .i64 k,.string x,.int .i64 m,.slice (some ⟨g,o,none⟩) 1 c]/\kC (·<r) w0 t0 (.agg #[.int .i64 ka,.string xa,.int .i64 ma,.slice aa na ca])/\∀ W,Below r w0 W->W.cell? ⟨g,o,none⟩=some (.int .i64 ka)/\W.cell? ⟨g,o+1,none⟩=some (.string xa)/\W.cell? ⟨g,o+2,none⟩=some (.int .i64 ma)/\W.cell? ⟨g,o+3,none⟩=some (.slice aa na ca):=by
 unfold kC at hl;obtain ⟨a,c,rfl,hk,hat⟩:=hl;obtain ⟨g,o,rfl,hg,hat⟩:=hat (by simp);obtain ⟨n0,⟨a0,a1,a2,a3,rfl,q0,q1,q2,q3⟩,l0⟩:=hat.get 0 (by simp);simp only [jI,Nat.zero_mul,Nat.add_zero] at l0 q0 q1 q2 q3;obtain ⟨ka,xa,ma,aa,na,ca,ea⟩:=lies_shape l0;injection ea with ea;simp only [Array.mk.injEq,jq,and_true] at ea;obtain ⟨rfl,rfl,rfl,rfl⟩:=ea;refine ⟨g,o,c,ka,xa,ma,aa,na,ca,rfl,l0,fun W hb=>?_⟩;have e:∀ i u,w0.cell? ⟨g,i,none⟩=some u->W.cell? ⟨g,i,none⟩=some u:=fun i u h=>by rw [hb.cell (p:=⟨g,i,none⟩) hg];exact h
 exact ⟨e _ _ q0,e _ _ q1,e _ _ q2,e _ _ q3⟩
theorem zzy (hr:w0.heap.size=r) (hO:xK w0 r (kD f) (okN f)) (x:ByteArray) (m:Int) (t0:Tree) (nv:Value) (hl:kC (·<r) w0 (.node 20 x m [t0]) nv) (h0:okN f t0) (w:World) (v:Value) (ws:List ByteArray) (hB:Below r w0 w) (hW:WR w r v ws) (hn:ws.length+10*(kB t0+1)<=800002) : Calls Tryz.prog 159 #[.pointer (some ⟨r,0,none⟩),nv] w (WO r w v ws ((kD f 3 t0).bind fun e=>some ([⟨#[45]⟩]++e))):=by
 have c24:=kc25;have hrl:=hW.lt;have p0:=kR t0;obtain ⟨g,o,c,ka,xa,ma,aa,na,ca,rfl,l0,hk⟩:=fC hl;have HK:=show Hid _ from hk
 have hA:=(Below.refl w.heap.size w).alloc (jE _) (.cells #[.int .i64 20,.string x,.int .i64 m,.slice (some ⟨g,o,none⟩) 1 c] 25);have hBA:=hB.trans (hA.mono (ji hrl));have bN:=kJ.new w #[.int .i64 20,.string x,.int .i64 m,.slice (some ⟨g,o,none⟩) 1 c] 25;have hCp:=vB (hW.below hA) ⟨#[45]⟩ (by omega);rw [jO] at hCp;have HNW:Hid (w.heap.size≠r/\v.ownBlock≠some w.heap.size):=⟨by omega,fun e=>by have:=(hW.row.lt _ e).2;omega⟩
 have HC1:Hid (∀ (W:World) (V:Value) (WS:List ByteArray),Below r w0 W->WR W r V WS->(WS.length:Int)<=ws.length+1->Calls Tryz.prog 145 #[.pointer (some ⟨r,0,none⟩),.agg #[.int .i64 ka,.string xa,.int .i64 ma,.slice aa na ca],.int .i64 3] W (WO r W V WS (kD f 3 t0))):=fun W V WS g1 g2 g3=>hO _ t0 _ l0 h0 W V WS g1 g2 (by omega)
 clear hl hk l0 hO h0;generalize kD f 3 t0=ob at *
 cases ob with
 | none =>
  go_enter Tryz.func159,Tryz.ntmps159
  go_wp2_with first
   | (go_at_call 44;refine hCp.mono ?_;rintro e w3 ⟨rfl,v3,hW3,hF3,hB3⟩;have bN3:=bN.fr hF3 HNW.out.1 HNW.out.2;have z3:=bN3.cell 3 rfl;obtain ⟨y0,y1,y2,y3⟩:=HK.out _ (hBA.trans hB3))
   | (go_at_call 145;refine (HC1.out w3 v3 _ (hBA.trans hB3) hW3 (by simp)).mono ?_;rintro e w5 ⟨rfl,hb5⟩)
  exact ⟨rfl,rfl,((hA.mono (ji hrl)).trans hB3).trans hb5⟩
 | some l =>
  go_enter Tryz.func159,Tryz.ntmps159
  go_wp2_with first
   | (go_at_call 44;refine hCp.mono ?_;rintro e w3 ⟨rfl,v3,hW3,hF3,hB3⟩;have bN3:=bN.fr hF3 HNW.out.1 HNW.out.2;have z3:=bN3.cell 3 rfl;obtain ⟨y0,y1,y2,y3⟩:=HK.out _ (hBA.trans hB3))
   | (go_at_call 145;refine (HC1.out w3 v3 _ (hBA.trans hB3) hW3 (by simp)).mono ?_;rintro e w5 ⟨rfl,v5,hW5,hF5,hB5⟩)
  go_end0
  exact ⟨rfl,v5,by simpa [jt] using hW5,((FrU.below hA r v).trans hF3).trans hF5,((hA.mono (ji hrl)).trans hB3).trans hB5⟩
theorem zzs (hr:w0.heap.size=r) (hO:xK w0 r (kD f) (okN f)) (x:ByteArray) (m:Int) (t0:Tree) (nv:Value) (hl:kC (·<r) w0 (.node 21 x m [t0]) nv) (h0:okN f t0) (w:World) (v:Value) (ws:List ByteArray) (hB:Below r w0 w) (hW:WR w r v ws) (hn:ws.length+10*(kB t0+1)<=800002) : Calls Tryz.prog 159 #[.pointer (some ⟨r,0,none⟩),nv] w (WO r w v ws ((kD f 3 t0).bind fun e=>some ([⟨#[33]⟩]++e))):=by
 have c24:=kc25;have hrl:=hW.lt;have p0:=kR t0;obtain ⟨g,o,c,ka,xa,ma,aa,na,ca,rfl,l0,hk⟩:=fC hl;have HK:=show Hid _ from hk
 have hA:=(Below.refl w.heap.size w).alloc (jE _) (.cells #[.int .i64 21,.string x,.int .i64 m,.slice (some ⟨g,o,none⟩) 1 c] 25);have hBA:=hB.trans (hA.mono (ji hrl));have bN:=kJ.new w #[.int .i64 21,.string x,.int .i64 m,.slice (some ⟨g,o,none⟩) 1 c] 25;have hCp:=vB (hW.below hA) ⟨#[33]⟩ (by omega);rw [jO] at hCp;have HNW:Hid (w.heap.size≠r/\v.ownBlock≠some w.heap.size):=⟨by omega,fun e=>by have:=(hW.row.lt _ e).2;omega⟩
 have HC1:Hid (∀ (W:World) (V:Value) (WS:List ByteArray),Below r w0 W->WR W r V WS->(WS.length:Int)<=ws.length+1->Calls Tryz.prog 145 #[.pointer (some ⟨r,0,none⟩),.agg #[.int .i64 ka,.string xa,.int .i64 ma,.slice aa na ca],.int .i64 3] W (WO r W V WS (kD f 3 t0))):=fun W V WS g1 g2 g3=>hO _ t0 _ l0 h0 W V WS g1 g2 (by omega)
 clear hl hk l0 hO h0;generalize kD f 3 t0=ob at *
 cases ob with
 | none =>
  go_enter Tryz.func159,Tryz.ntmps159
  go_wp2_with first
   | (go_at_call 44;refine hCp.mono ?_;rintro e w3 ⟨rfl,v3,hW3,hF3,hB3⟩;have bN3:=bN.fr hF3 HNW.out.1 HNW.out.2;have z3:=bN3.cell 3 rfl;obtain ⟨y0,y1,y2,y3⟩:=HK.out _ (hBA.trans hB3))
   | (go_at_call 145;refine (HC1.out w3 v3 _ (hBA.trans hB3) hW3 (by simp)).mono ?_;rintro e w5 ⟨rfl,hb5⟩)
  exact ⟨rfl,rfl,((hA.mono (ji hrl)).trans hB3).trans hb5⟩
 | some l =>
  go_enter Tryz.func159,Tryz.ntmps159
  go_wp2_with first
   | (go_at_call 44;refine hCp.mono ?_;rintro e w3 ⟨rfl,v3,hW3,hF3,hB3⟩;have bN3:=bN.fr hF3 HNW.out.1 HNW.out.2;have z3:=bN3.cell 3 rfl;obtain ⟨y0,y1,y2,y3⟩:=HK.out _ (hBA.trans hB3))
   | (go_at_call 145;refine (HC1.out w3 v3 _ (hBA.trans hB3) hW3 (by simp)).mono ?_;rintro e w5 ⟨rfl,v5,hW5,hF5,hB5⟩)
  go_end0
  exact ⟨rfl,v5,by simpa [jt] using hW5,((FrU.below hA r v).trans hF3).trans hF5,((hA.mono (ji hrl)).trans hB3).trans hB5⟩
end
section
variable {w0:World} {r f:Nat}
theorem zyk (hr:w0.heap.size=r) (hP:PH w0) (hO:xK w0 r (kD f) (okN f)) (x:ByteArray) (m:Int) (ks:List Tree) (nv:Value) (hl:kC (·<r) w0 (.node 18 x m ks) nv) (hq:∀ t∈ks,okN f t) (nm:List ByteArray) (hnm:kV x=some nm) (hx:x.size<4611686018427387904) (w:World) (v:Value) (ws:List ByteArray) (hB:Below r w0 w) (hW:WR w r v ws) (hn:(ws.length:Int)+10*(kA ks+1)<=800002) : Calls Tryz.prog 159 #[.pointer (some ⟨r,0,none⟩),nv] w (WO r w v ws ((kU (kD f 0) 0 ks).bind fun e=>some (nm++[⟨#[40]⟩]++e++[⟨#[41]⟩]))):=by
 have c24:=kc25;have hmf:∀ (fn:Fn) (first cap:Array Value) (w:World),(Instr.makeFunc fn first cap).run Tryz.prog w=.ok (.func fn first cap) w:=fun _ _ _ _=>rfl
 have hrl:=hW.lt;have p0:=kX ks;have hl3:=zbj hnm;unfold kC at hl;obtain ⟨a,c,rfl,hk,hat⟩:=hl;have hA:=(Below.refl w.heap.size w).alloc (jE _) (.cells #[.int .i64 18,.string x,.int .i64 m,.slice a ks.length c] 25);have hBA:=hB.trans (hA.mono (ji hrl));have bN:=kJ.new w #[.int .i64 18,.string x,.int .i64 m,.slice a ks.length c] 25;have hPa:=(hP.below (hr▸hB)).below hA;have hCp:=zfd (hW.below hA) x nm hnm hx hPa.err hPa.mx (by omega);have HNW:Hid (w.heap.size≠r/\v.ownBlock≠some w.heap.size):=⟨by omega,fun e=>by have:=(hW.row.lt _ e).2;omega⟩
 have HC1:Hid (∀ (W:World) (V:Value) (WS:List ByteArray),Below r w0 W->WR W r V WS->(WS.length:Int)<=ws.length+3->Calls Tryz.prog 94 #[.pointer (some ⟨r,0,none⟩),.slice a ks.length c,.func (.func 124) #[.pointer (some ⟨r,0,none⟩)] #[]] W (WO r W V WS (kW (kD f 0) ks))):=fun W V WS g1 g2 g3 =>
  zif (oExpr hO) (fun t o e=>by have:=vM f 0 t o e;omega) ks a c hk.1 hat hq hr W V WS g1 g2 (by omega)
 have HR:Hid (kW (kD f 0) ks=(kU (kD f 0) 0 ks).bind fun e=>some ([⟨#[40]⟩]++e++[⟨#[41]⟩])):=rfl;clear hat hO hq hnm hP hPa;generalize kU (kD f 0) 0 ks=ob at *;generalize kW (kD f 0) ks=rb at *;obtain rfl:=HR.out
 cases ob with
 | none =>
  go_enter Tryz.func159,Tryz.ntmps159
  go_wp2_with first
   | (go_at_call 165;refine hCp.mono ?_;rintro e w3 ⟨rfl,v3,hW3,hF3,hB3⟩;have bN3:=bN.fr hF3 HNW.out.1 HNW.out.2;have z3:=bN3.cell 3 rfl)
   | (go_at_call 94;refine (HC1.out w3 v3 _ (hBA.trans hB3) hW3 (by rw [jb];push_cast;omega)).mono ?_;rintro e w5 ⟨rfl,hb5⟩)
  exact ⟨rfl,rfl,((hA.mono (ji hrl)).trans hB3).trans hb5⟩
 | some l =>
  go_enter Tryz.func159,Tryz.ntmps159
  go_wp2_with first
   | (go_at_call 165;refine hCp.mono ?_;rintro e w3 ⟨rfl,v3,hW3,hF3,hB3⟩;have bN3:=bN.fr hF3 HNW.out.1 HNW.out.2;have z3:=bN3.cell 3 rfl)
   | (go_at_call 94;refine (HC1.out w3 v3 _ (hBA.trans hB3) hW3 (by rw [jb];push_cast;omega)).mono ?_;rintro e w5 ⟨rfl,v5,hW5,hF5,hB5⟩)
  go_end0
  exact ⟨rfl,v5,by simpa [jt] using hW5,((FrU.below hA r v).trans hF3).trans hF5,((hA.mono (ji hrl)).trans hB3).trans hB5⟩
end
section
variable {w0:World} {r f:Nat}
theorem zyv (hr:w0.heap.size=r) (hP:PH w0) (hO:xK w0 r (kD f) (okN f)) (x:ByteArray) (m:Int) (t0:Tree) (nv:Value) (hl:kC (·<r) w0 (.node 17 x m [t0]) nv) (h0:okN f t0) (nm:List ByteArray) (hnm:kV x=some nm) (hx:x.size<4611686018427387904) (w:World) (v:Value) (ws:List ByteArray) (hB:Below r w0 w) (hW:WR w r v ws) (hn:(ws.length:Int)+10*(kB t0+1)<=800002) : Calls Tryz.prog 159 #[.pointer (some ⟨r,0,none⟩),nv] w (WO r w v ws ((kD f 0 t0).bind fun e=>some (nm++[⟨#[91]⟩]++e++[⟨#[93]⟩]))):=by
 have c24:=kc25;have hrl:=hW.lt;have p0:=kR t0;have hl3:=zbj hnm;have h8:=vM f 0 t0;obtain ⟨g,o,c,ka,xa,ma,aa,na,ca,rfl,l0,hk⟩:=fC hl;have HK:=show Hid _ from hk
 have hA:=(Below.refl w.heap.size w).alloc (jE _) (.cells #[.int .i64 17,.string x,.int .i64 m,.slice (some ⟨g,o,none⟩) 1 c] 25);have hBA:=hB.trans (hA.mono (ji hrl));have bN:=kJ.new w #[.int .i64 17,.string x,.int .i64 m,.slice (some ⟨g,o,none⟩) 1 c] 25;have hPa:=(hP.below (hr▸hB)).below hA;have hCp:=zfd (hW.below hA) x nm hnm hx hPa.err hPa.mx (by omega);have HNW:Hid (w.heap.size≠r/\v.ownBlock≠some w.heap.size):=⟨by omega,fun e=>by have:=(hW.row.lt _ e).2;omega⟩
 have HV3:Hid (∀ v3 w3,FrU r v v3 (w.alloc (.cells #[.int .i64 17,.string x,.int .i64 m,.slice (some ⟨g,o,none⟩) 1 c] 25)) w3->v3.ownBlock≠some w.heap.size):=fun v3 w3 hF e=>(hF.own _ e).elim HNW.out.2 (fun h=>by rw [jO] at h;omega)
 have HC1:Hid (∀ (W:World) (V:Value) (WS:List ByteArray),Below r w0 W->WR W r V WS->(WS.length:Int)<=ws.length+4->Calls Tryz.prog 124 #[.pointer (some ⟨r,0,none⟩),.agg #[.int .i64 ka,.string xa,.int .i64 ma,.slice aa na ca]] W (WO r W V WS (kD f 0 t0))):=fun W V WS g1 g2 g3=>oExpr hO t0 _ l0 h0 W V WS g1 g2 (by omega)
 clear hl hk l0 hO h0 hnm hP hPa;generalize kD f 0 t0=ob at *
 cases ob with
 | none =>
  go_enter Tryz.func159,Tryz.ntmps159
  go_wp2_with first
   | (go_at_call 124;refine (HC1.out w5 v5 _ ((hBA.trans hB3).trans hB5) hW5 (by simp only [jb,jd,je];push_cast;omega)).mono ?_;rintro e w7 ⟨rfl,hb7⟩)
   | (go_at_call 44;refine (vB hW3 ⟨#[91]⟩ (by rw [jb];omega)).mono ?_;rintro e w5 ⟨rfl,v5,hW5,hF5,hB5⟩;have bN5:=bN3.fr hF5 HNW.out.1 (HV3.out _ _ hF3);have z3:=bN5.cell 3 rfl;obtain ⟨y0,y1,y2,y3⟩:=HK.out _ ((hBA.trans hB3).trans hB5))
   | (go_at_call 165;refine hCp.mono ?_;rintro e w3 ⟨rfl,v3,hW3,hF3,hB3⟩;have bN3:=bN.fr hF3 HNW.out.1 HNW.out.2)
  exact ⟨rfl,rfl,(((hA.mono (ji hrl)).trans hB3).trans hB5).trans hb7⟩
 | some l =>
  have hl8:=h8 l rfl;clear h8;go_enter Tryz.func159,Tryz.ntmps159
  go_wp2_with first
   | (go_at_call 44;refine (vB hW7 ⟨#[93]⟩ (by simp only [jb,jd,je];omega)).mono ?_;rintro e w9 ⟨rfl,v9,hW9,hF9,hB9⟩)
   | (go_at_call 124;refine (HC1.out w5 v5 _ ((hBA.trans hB3).trans hB5) hW5 (by simp only [jb,jd,je];push_cast;omega)).mono ?_;rintro e w7 ⟨rfl,v7,hW7,hF7,hB7⟩)
   | (go_at_call 44;refine (vB hW3 ⟨#[91]⟩ (by rw [jb];omega)).mono ?_;rintro e w5 ⟨rfl,v5,hW5,hF5,hB5⟩;have bN5:=bN3.fr hF5 HNW.out.1 (HV3.out _ _ hF3);have z3:=bN5.cell 3 rfl;obtain ⟨y0,y1,y2,y3⟩:=HK.out _ ((hBA.trans hB3).trans hB5))
   | (go_at_call 165;refine hCp.mono ?_;rintro e w3 ⟨rfl,v3,hW3,hF3,hB3⟩;have bN3:=bN.fr hF3 HNW.out.1 HNW.out.2)
  go_end0
  exact ⟨rfl,v9,by simpa [jt] using hW9,((FrU.below hA r v).trans hF3).trans (hF5.trans (hF7.trans hF9)),((((hA.mono (ji hrl)).trans hB3).trans hB5).trans hB7).trans hB9⟩
end
section
variable {w0:World} {r f:Nat}
theorem zei {x:ByteArray} (h:xB x 2=true):∃ l,kV x=some l:=by
 unfold xB at h;rw [ju (by decide)] at h;split at h;·exact ⟨_,by assumption⟩
 ·cases h
theorem zau:∀ (ks:List Tree),(1:Int)<=ks.length->(ks.length:Int)<=1->∃ t0,ks=[t0]
 | [t0],_,_=>⟨t0,rfl⟩
 | [],a,_=>by simp at a
 | _ :: _ :: _,_,b=>by simp only [jd] at b;omega
theorem zgf:∀ (ks:List Tree),(2:Int)<=ks.length->(ks.length:Int)<=2->∃ t0 t1,ks=[t0,t1]
 | [t0,t1],_,_=>⟨t0,t1,rfl⟩
 | [],a,_=>by simp at a
 | [_],a,_=>by simp at a
 | _ :: _ :: _ :: _,_,b=>by simp only [jd] at b;omega
theorem yaa (hr:w0.heap.size=r) (hP:PH w0) (hO:xK w0 r (kD f) (okN f)):zor w0 r f:=by
 intro t nv hl hq hlk w v ws hB hW hn;obtain ⟨k,x,m,ks⟩:=t;obtain ⟨hx,hks⟩:=hq;have hcn:kB (.node k x m ks)=1+kA ks:=by first | rfl | (simp only [kB];omega)
 have hcp:=kX ks;rw [hcn] at hn;have hlk':lookK yT k x m ks.length=true:=hlk;unfold lookK at hlk';simp only [jj,jl] at hlk';obtain ⟨⟨⟨⟨⟨hc,h1⟩,h2⟩,h3⟩,h4⟩,h5⟩:=hlk'
 have hk:k=15\/k=16\/k=17\/k=18\/k=19\/k=20\/k=21:=by
  have:=List.contains_iff_mem.1 hc;simpa [yT] using this
 have hone:(1:Int)<=ks.length->(ks.length:Int)<=1->∃ t0,ks=[t0]:=zau ks;rcases hk with rfl | rfl | rfl | rfl | rfl | rfl | rfl
 ·have hl':=hl;unfold kC at hl';obtain ⟨a,c,rfl,hkk,_⟩:=hl'
  have h15:lookK [15] 15 x m ks.length=true:=by
   unfold lookK;simp only [jj,jl];exact ⟨⟨⟨⟨⟨by decide,h1⟩,h2⟩,h3⟩,h4⟩,h5⟩
  exact zz2 hr hP m x a ks.length c h15 hx hkk.1 ⟨h1,h2⟩ w v ws hB hW (by omega)
 ·have hl':=hl;unfold kC at hl';obtain ⟨a,c,rfl,hkk,_⟩:=hl';obtain ⟨l,hlw⟩:=zei h5;have e:yV (kD f) (.node 16 x m ks)=some l:=hlw;rw [e];exact zyy hr hP m x a ks.length c l hlw hx w v ws hB hW (by omega)
 ·obtain ⟨t0,rfl⟩:=hone h3 h4;obtain ⟨l,hlw⟩:=zei h5
  have e:yV (kD f) (.node 17 x m [t0])=(kD f 0 t0).bind fun e=>some (l++[⟨#[91]⟩]++e++[⟨#[93]⟩]):=by
   show ((kV x).bind fun nm=>(kD f 0 t0).bind fun e=>some (nm++[⟨#[91]⟩]++e++[⟨#[93]⟩]))=_;rw [hlw];rfl
  rw [e];have hc0:kA [t0]=kB t0:=by simp [kA]
  exact zyv hr hP hO x m t0 nv hl (hks t0 (by simp)) l hlw hx w v ws hB hW (by omega)
 ·obtain ⟨l,hlw⟩:=zei h5
  have e:yV (kD f) (.node 18 x m ks)=(kU (kD f 0) 0 ks).bind fun e=>some (l++[⟨#[40]⟩]++e++[⟨#[41]⟩]):=by
   show ((kV x).bind fun nm=>(kU (kD f 0) 0 ks).bind fun e=>some (nm++[⟨#[40]⟩]++e++[⟨#[41]⟩]))=_;rw [hlw];rfl
  rw [e];exact zyk hr hP hO x m ks nv hl hks l hlw hx w v ws hB hW (by omega)
 ·have h1':(1:Int)<=m:=h1;have h2':m<=9:=h2;obtain ⟨mn,rfl⟩:∃ mn:Nat,m=(mn:Int):=⟨m.toNat,by omega⟩
  have h3':(2:Int)<=ks.length:=h3;have h4':(ks.length:Int)<=2:=h4;obtain ⟨t0,t1,rfl⟩:=zgf ks h3' h4';have hc0:kA [t0,t1]=kB t0+kB t1:=by simp [kA]
  exact zza hr hP hO x mn t0 t1 nv hl ⟨by omega,by omega⟩ (hks t0 (by simp)) (hks t1 (by simp)) w v ws hB hW (by omega)
 ·obtain ⟨t0,rfl⟩:=hone h3 h4;have hc0:kA [t0]=kB t0:=by simp [kA]
  exact zzy hr hO x m t0 nv hl (hks t0 (by simp)) w v ws hB hW (by omega)
 ·obtain ⟨t0,rfl⟩:=hone h3 h4;have hc0:kA [t0]=kB t0:=by simp [kA]
  exact zzs hr hO x m t0 nv hl (hks t0 (by simp)) w v ws hB hW (by omega)
theorem zm1 (hr:w0.heap.size=r) (hP:PH w0):∀ f,xK w0 r (kD f) (okN f)
 | 0=>fun least t nv hl hq=>hq.elim
 | f+1=>zti hr hP (yaa hr hP (zm1 hr hP f)) (fun t l e=>by have:=ze8 (vM f) t l e;omega)
end
section
variable {w0:World} {r f:Nat}
theorem zyr (hr:w0.heap.size=r) (hP:PH w0):Wri w0 r 95 yK (okN (f+1)):=by
 intro t nv hl hq w v ws hB hW hn;have c24:=kc25;obtain ⟨k,x,m,ks⟩:=t;have hcp:=kR (.node k x m ks);unfold kC at hl;obtain ⟨a,c,rfl,⟨hk1,hk2⟩,_⟩:=hl;have hrl:=hW.lt;have hA:=(Below.refl w.heap.size w).alloc (jE _) (.cells #[.int .i64 k,.string x,.int .i64 m,.slice a ks.length c] 25);have hA2:=hA.alloc (by simp) (.cells #[.int .i64 5] 3);have hP2:=(hP.below (hr▸hB)).below hA2
 have hI:yU ((w.alloc (.cells #[.int .i64 k,.string x,.int .i64 m,.slice a ks.length c] 25)).alloc (.cells #[.int .i64 5] 3)) (.slice (some ⟨w.heap.size+1,0,none⟩) 1 1) [5]:=by
  have:=zb1 (w.alloc (.cells #[.int .i64 k,.string x,.int .i64 m,.slice a ks.length c] 25)) [5] (by decide);simp only [List.map_cons,List.map_nil,jd,je,jO,Nat.zero_add] at this;exact this
 have bN:=(kJ.new w #[.int .i64 k,.string x,.int .i64 m,.slice a ks.length c] 25).alloc (.cells #[.int .i64 5] 3);have hL:=zcd [5] _ k m x a ks.length c _ hP2.sh hP2.err hP2.mx hq.1 hk1 hI (by decide) (fun i hi=>by simp at hi;omega);have HO:Hid (yK (.node k x m ks)=if lookK [5] k x m ks.length then some ([kO m]++[x]) else none):=rfl;have HNW:Hid (w.heap.size≠r/\v.ownBlock≠some w.heap.size):=⟨by omega,fun e=>by have:=(hW.row.lt _ e).2;omega⟩
 clear hI hP2 hP hq hk1 hk2;generalize yK (.node k x m ks)=OO at *
 cases hlk:lookK [5] k x m ks.length with
 | false =>
  rw [hlk] at hL HO;obtain rfl:=HO.out;clear hlk;go_enter Tryz.func95,Tryz.ntmps95;go_wp2_with (go_at_call 43;refine hL.mono ?_;rintro e w3 ⟨hb3,rfl⟩)
  exact ⟨rfl,rfl,(hA2.mono (ji hrl)).trans (hb3.mono (by have:=hA2.size;omega))⟩
 | true =>
  rw [hlk] at hL HO;obtain rfl:=HO.out;clear hlk;have HLb:Hid (∀ W V,WR W r V ws->Calls Tryz.prog 74 #[.pointer (some ⟨r,0,none⟩),.int .i64 m] W (WE r W V ws [kO m])):=fun W V h=>zi4 h m (by omega)
  generalize kO m=y at *;go_enter Tryz.func95,Tryz.ntmps95
  go_wp2_with first
   | (go_at_call 43;refine hL.mono ?_;rintro e w3 ⟨hb3,rfl⟩;have hb4:=hA2.trans (hb3.mono hA2.size);have bN3:=bN.below hb3;have z2:=bN3.cell 2 rfl)
   | (go_at_call 74;refine (HLb.out w3 v (hW.below hb4)).mono ?_;rintro e w5 ⟨rfl,v5,hW5,hF5,hB5⟩;have bN5:=bN3.fr hF5 HNW.out.1 HNW.out.2;have z1:=bN5.cell 1 rfl)
   | (go_at_call 44;refine (vB hW5 x (by rw [jb];simp only [jd,je];omega)).mono ?_;rintro e w7 ⟨rfl,v7,hW7,hF7,hB7⟩)
  go_end0
  exact ⟨rfl,v7,by simpa [jt] using hW7,((FrU.below hb4 r v).trans hF5).trans hF7,((hb4.mono (ji hrl)).trans hB5).trans hB7⟩
end
structure Wg (w0 w:World) (r:Nat) (v:Value) (ws o:List ByteArray) (W:World) (V:Value):Prop where
 wr:WR W r V (ws++o)
 fr:FrU r v V w W
 b0:Below r w0 W
 b:Below r w W
def SO (w0 w:World) (r:Nat) (v:Value) (ws o:List ByteArray) (x:Option (List ByteArray)) (e:Ending) (w':World):Prop :=
 (x=none/\e=.panicked Mis/\Below r w w')\/∃ l V',x=some l/\e=.returned (.tuple #[])/\Wg w0 w r v ws (o++l) w' V'
def LA (w:World) (k:Int) (x:ByteArray) (m:Int) (a:Option Addr) (n c:Nat) (b:Bool) (e:Ending) (w3:World):Prop :=
 (b=false/\e=.panicked Mis/\Below w.heap.size w w3)\/(b=true/\e=.returned (.tuple #[])/\Below w.heap.size w w3/\kJ w3 w.heap.size #[.int .i64 k,.string x,.int .i64 m,.slice a n c] 25)
section
variable {w0 w W w' wn:World} {r f:Nat} {v V:Value} {ws o:List ByteArray}
theorem Wg.start (hB:Below r w0 w) (hW:WR w r v ws):Wg w0 w r v ws [] w v:=⟨by rw [List.append_nil];exact hW,FrU.refl r v w,hB,Below.refl r w⟩
theorem Wg.we (h:Wg w0 w r v ws o W V) {l:List ByteArray} {e:Ending} (hx:WE r W V (ws++o) l e w'):e=.returned (.tuple #[])/\∃ V',Wg w0 w r v ws (o++l) w' V':=by
 obtain ⟨rfl,V',h1,h2,h3⟩:=hx;exact ⟨rfl,V',by rw [<- jt];exact h1,h.fr.trans h2,h.b0.trans h3,h.b.trans h3⟩
theorem Wg.wo (h:Wg w0 w r v ws o W V) {x:Option (List ByteArray)} {e:Ending} (hx:WO r W V (ws++o) x e w'):SO w0 w r v ws o x e w':=by
 cases x with
 | none=>exact .inl ⟨rfl,hx.1,h.b.trans hx.2⟩
 | some l =>
  obtain ⟨h1,V',h2⟩:=h.we hx;exact .inr ⟨l,V',rfl,h1,h2⟩
theorem Wg.len (h:Wg w0 w r v ws o W V):(ws++o).length=ws.length+o.length:=jb
theorem Wg.put (h:Wg w0 w r v ws o W V) (x:ByteArray) (hn:ws.length+o.length<=900000) : Calls Tryz.prog 44 #[.pointer (some ⟨r,0,none⟩),.slice (some ⟨W.heap.size,0,none⟩) 1 1] (W.alloc (.cells #[.string x] 9)) (fun e w'=>e=.returned (.tuple #[])/\∃ V',Wg w0 w r v ws (o++[x]) w' V') :=
 (vB h.wr x (by rw [h.len];exact hn)).mono fun e w' g=>h.we g
theorem Wg.put2 (h:Wg w0 w r v ws o W V) (x y:ByteArray) (hn:ws.length+o.length<=900000) : Calls Tryz.prog 44 #[.pointer (some ⟨r,0,none⟩),.slice (some ⟨W.heap.size,0,none⟩) 2 2] (W.alloc (.cells #[.string x,.string y] 9)) (fun e w'=>e=.returned (.tuple #[])/\∃ V',Wg w0 w r v ws (o++[x,y]) w' V') :=
 (zoh h.wr [x,y] (by simp) (by simp) (by rw [h.len];exact hn)).mono fun e w' g=>h.we g
theorem Wg.put3 (h:Wg w0 w r v ws o W V) (x y z:ByteArray) (hn:ws.length+o.length<=900000) : Calls Tryz.prog 44 #[.pointer (some ⟨r,0,none⟩),.slice (some ⟨W.heap.size,0,none⟩) 3 3] (W.alloc (.cells #[.string x,.string y,.string z] 9)) (fun e w'=>e=.returned (.tuple #[])/\∃ V',Wg w0 w r v ws (o++[x,y,z]) w' V') :=
 (zoh h.wr [x,y,z] (by simp) (by simp) (by rw [h.len];exact hn)).mono fun e w' g=>h.we g
theorem Wg.label (h:Wg w0 w r v ws o W V) (m:Int) (hn:ws.length+o.length<=900000) : Calls Tryz.prog 74 #[.pointer (some ⟨r,0,none⟩),.int .i64 m] W (fun e w'=>e=.returned (.tuple #[])/\∃ V',Wg w0 w r v ws (o++[kO m]) w' V') :=
 (zi4 h.wr m (by rw [h.len];exact hn)).mono fun e w' g=>h.we g
theorem Wg.wri (h:Wg w0 w r v ws o W V) {F:Nat} {g:Tree->Option (List ByteArray)} {Q:Tree->Prop} (hF:Wri w0 r F g Q) {t:Tree} {nv:Value} (hl:kC (·<r) w0 t nv) (hq:Q t) (hn:(ws.length:Int)+o.length+10*kB t<=800000) : Calls Tryz.prog F #[.pointer (some ⟨r,0,none⟩),nv] W (SO w0 w r v ws o (g t)) :=
 (hF t nv hl hq W V _ h.b0 h.wr (by rw [jb];push_cast;exact hn)).mono fun e w' g=>h.wo g
theorem Wg.alloc (h:Wg w0 w r v ws o W V) (ob:Obj):Wg w0 w r v ws o (W.alloc ob) V:=⟨h.wr.alloc ob,h.fr.alloc ob,h.b0.alloc (ji h.wr.lt) ob,h.b.alloc (ji h.wr.lt) ob⟩
theorem Wg.below (h:Wg w0 w r v ws o W V) (hb:Below W.heap.size W w'):Wg w0 w r v ws o w' V:=⟨h.wr.below hb,h.fr.trans (FrU.below hb r V),h.b0.trans (hb.mono (ji h.wr.lt)),h.b.trans (hb.mono (ji h.wr.lt))⟩
theorem Wg.box (h:Wg w0 w r v ws o W V) {b:Nat} {cs:Array Value} {ty:Nat} (bN:kJ w b cs ty) (h1:b≠r) (h2:v.ownBlock≠some b):kJ W b cs ty:=bN.fr h.fr h1 h2
theorem Wg.done (h:Wg w0 w r v ws o W V) (hb:Below wn.heap.size wn w) (hr:r<=wn.heap.size):WE r wn v ws o (.returned (.tuple #[])) W:=⟨rfl,V,h.wr,(FrU.below hb r v).trans h.fr,(hb.mono hr).trans h.b⟩
theorem LA.yes {k:Int} {x:ByteArray} {m:Int} {a:Option Addr} {n c:Nat} {e:Ending} {w3:World} (h:LA w k x m a n c true e w3):e=.returned (.tuple #[])/\Below w.heap.size w w3/\kJ w3 w.heap.size #[.int .i64 k,.string x,.int .i64 m,.slice a n c] 25:=by
 rcases h with ⟨h,_⟩|⟨_,h⟩
 ·cases h
 ·exact h
theorem zlz (hr:w0.heap.size=r) (hP:PH w0) (hB:Below r w0 W) (kinds:List Int) (k m:Int) (x:ByteArray) (a:Option Addr) (n c:Nat) (hx:x.size<4611686018427387904) (hn:n<=4611686018427387904) (hl:kinds.length<=100) (hk:∀ i∈kinds,1<=i/\i<=21) : Calls Tryz.prog 43 #[.agg #[.int .i64 k,.string x,.int .i64 m,.slice a n c],.slice (some ⟨W.heap.size,0,none⟩) kinds.length kinds.length] (W.alloc (.cells (kinds.map (Value.int .i64)).toArray 3)) (fun e w'=>(lookK kinds k x m n=false/\e=.panicked Mis\/lookK kinds k x m n=true/\e=.returned (.tuple #[]))/\Below W.heap.size W w'):=by
 have hA:=(Below.refl W.heap.size W).alloc (jE _) (.cells (kinds.map (Value.int .i64)).toArray 3);have hP2:=(hP.below (hr▸hB)).below hA;refine (zcd kinds _ k m x a n c _ hP2.sh hP2.err hP2.mx hx hn (zb1 W kinds hl) hl hk).mono fun e w3 ⟨hb3,he⟩=>⟨?_,hA.trans (hb3.mono hA.size)⟩
 cases hlk:lookK kinds k x m n with
 | false=>rw [hlk] at he;exact .inl ⟨rfl,he⟩
 | true=>rw [hlk] at he;exact .inr ⟨rfl,he⟩
theorem xZ (hr:w0.heap.size=r) (hP:PH w0) (hB:Below r w0 w) (kinds:List Int) (k m:Int) (x:ByteArray) (a:Option Addr) (n c:Nat) (hx:x.size<4611686018427387904) (hn:n<=4611686018427387904) (hl:kinds.length<=100) (hk:∀ i∈kinds,1<=i/\i<=21) : Calls Tryz.prog 43 #[.agg #[.int .i64 k,.string x,.int .i64 m,.slice a n c],.slice (some ⟨w.heap.size+1,0,none⟩) kinds.length kinds.length] ((w.alloc (.cells #[.int .i64 k,.string x,.int .i64 m,.slice a n c] 25)).alloc (.cells (kinds.map (Value.int .i64)).toArray 3)) (LA w k x m a n c (lookK kinds k x m n)):=by
 have hA:=(Below.refl w.heap.size w).alloc (jE _) (.cells #[.int .i64 k,.string x,.int .i64 m,.slice a n c] 25);have hA2:=hA.alloc (by simp) (.cells (kinds.map (Value.int .i64)).toArray 3);have hP2:=(hP.below (hr▸hB)).below hA2;have hI:=zb1 (w.alloc (.cells #[.int .i64 k,.string x,.int .i64 m,.slice a n c] 25)) kinds hl;rw [jO] at hI;have bN:=(kJ.new w #[.int .i64 k,.string x,.int .i64 m,.slice a n c] 25).alloc (.cells (kinds.map (Value.int .i64)).toArray 3);refine (zcd kinds _ k m x a n c _ hP2.sh hP2.err hP2.mx hx hn hI hl hk).mono fun e w3 ⟨hb3,he⟩=>?_
 cases hlk:lookK kinds k x m n with
 | false=>rw [hlk] at he;exact .inl ⟨rfl,he,hA2.trans (hb3.mono hA2.size)⟩
 | true=>rw [hlk] at he;exact .inr ⟨rfl,he,hA2.trans (hb3.mono hA2.size),bN.below hb3⟩
theorem zec {P:Nat->Prop} {w:World}:∀ {ks:List Tree} {g o:Nat} (n:Nat),kY P w ks g o->kY P w (ks.take n) g o
 | [],g,o,n,h=>by rw [List.take_nil];exact h
 | t :: q,g,o,0,h=>by rw [List.take_zero];unfold kY;trivial
 | t :: q,g,o,n+1,h=>by
  rw [List.take_succ_cons];unfold kY at h |-;exact ⟨h.1,zec n h.2⟩
theorem Wg.items (h:Wg w0 w r v ws o W V) (hr:w0.heap.size=r) (hO:xK w0 r (kD f) (okN f)) (ks:List Tree) (a:Option Addr) (c:Nat) (hl:ks.length<=4611686018427387904) (hlies:ks≠[]->∃ gb o,a=some ⟨gb,o,none⟩/\gb<r/\kY (·<r) w0 ks gb o) (hq:∀ t∈ks,okN f t) (hn:(ws.length:Int)+o.length+10*kA ks<=799998) : Calls Tryz.prog 94 #[.pointer (some ⟨r,0,none⟩),.slice a ks.length c,.func (.func 124) #[.pointer (some ⟨r,0,none⟩)] #[]] W (SO w0 w r v ws o (kW (kD f 0) ks)) :=
 (zif (oExpr hO) (fun t o e=>by have:=vM f 0 t o e;omega) ks a c hl hlies hq hr W V _ h.b0 h.wr (by rw [h.len];push_cast;omega)).mono fun e w' g=>h.wo g
theorem cE {ks:List Tree} {gb og:Nat} (hg:gb<r) (hat:kY (·<r) w0 ks gb og) (i:Nat) (hi:i<ks.length) : ∃ ka xa ma aa na ca,kC (·<r) w0 ks[i] (.agg #[.int .i64 ka,.string xa,.int .i64 ma,.slice aa na ca])/\∀ W,Below r w0 W->W.cell? ⟨gb,og+i*4,none⟩=some (.int .i64 ka)/\W.cell? ⟨gb,og+i*4+1,none⟩=some (.string xa)/\W.cell? ⟨gb,og+i*4+2,none⟩=some (.int .i64 ma)/\W.cell? ⟨gb,og+i*4+3,none⟩=some (.slice aa na ca):=by
 obtain ⟨n0,⟨a0,a1,a2,a3,rfl,q0,q1,q2,q3⟩,l0⟩:=hat.get i hi;obtain ⟨ka,xa,ma,aa,na,ca,ea⟩:=lies_shape l0;injection ea with ea;simp only [Array.mk.injEq,jq,and_true] at ea;obtain ⟨rfl,rfl,rfl,rfl⟩:=ea;refine ⟨ka,xa,ma,aa,na,ca,l0,fun W hb=>?_⟩;have e:∀ i u,w0.cell? ⟨gb,i,none⟩=some u->W.cell? ⟨gb,i,none⟩=some u:=fun i u h=>by rw [hb.cell (p:=⟨gb,i,none⟩) hg];exact h
 exact ⟨e _ _ q0,e _ _ q1,e _ _ q2,e _ _ q3⟩
end
end pr
namespace pr
open Go.RowKit Go.Shelf
open syn face chk
open lexs (own_shape)
mutual
theorem zjg:∀ (t:Tree) (n:Int),(qO t n).2<=n/\n - kB t<=(qO t n).2
 | .node k x m ks,n=>by
  have h:=zju ks (if k=12/\m=0 then n - 1 else n);unfold qO kB;dsimp only;split at h<;>rename_i hc;·rw [jv hc];omega
  ·rw [ju hc];omega
theorem zju:∀ (ks:List Tree) (n:Int),(yH ks n).2<=n/\n - kA ks<=(yH ks n).2
 | [],n=>by unfold yH kA;simp
 | t :: r,n=>by
  have h1:=zjg t n;have h2:=zju r (qO t n).2;unfold yH kA;dsimp only;omega
end
theorem zhx:∀ (ks:List Tree) (t:Tree) (n:Int),yH (ks++[t]) n=((yH ks n).1++[(qO t (yH ks n).2).1],(qO t (yH ks n).2).2)
 | [],t,n=>by simp [yH]
 | a :: r,t,n=>by
  have ih:=zhx r t (qO a n).2;simp only [jK,yH,ih]
theorem zig:∀ (ks:List Tree) (n:Int),(yH ks n).1.length=ks.length
 | [],n=>by simp [yH]
 | a :: r,n=>by simp [yH,zig r]
theorem len_cnt:∀ (ks:List Tree),(ks.length:Int)<=kA ks
 | []=>by simp [kA]
 | t :: r=>by have h1:=kR t;have h2:=len_cnt r;simp only [kA,jd];push_cast;omega
theorem ztp {ks:List Tree} {j:Nat} (hj:j<ks.length) (n:Int):yH (ks.take (j+1)) n=((yH (ks.take j) n).1++[(qO ks[j] (yH (ks.take j) n).2).1],(qO ks[j] (yH (ks.take j) n).2).2):=by
 rw [List.take_succ_eq_append_getElem hj,zhx]
theorem zr2 {B:Nat} {w:World} {kv:Value} {ks:List Tree} {vs:List Q4} (ho:w.ownsRow B 25 4 kv ks.length (uK vs)) (ha:zR (fun b=>B<=b/\b<w.heap.size/\some b≠kv.ownBlock) w ks vs) {t:Tree} {q:Q4} (hl:kC (fun b=>B<=b/\b<w.heap.size/\some b≠kv.ownBlock) w t q.v) {w4:World} {v':Value} {o:Obj} (hown':w4.ownsRow B 25 4 v' (ks.length+1) (uK vs++[q.1,q.2.1,q.2.2.1,q.2.2.2])) (hgrow:(w.alloc o).grownBy w4 kv.ownBlock) (hfr:v'.ownBlock=kv.ownBlock\/v'.ownBlock=some (w.heap.size+1)):syn.Kids B (fun b=>B<=b/\b<w4.heap.size/\some b≠v'.ownBlock) w4 v' (ks++[t]):=by
 have hG:w.grownBy w4 kv.ownBlock:=zci (World.grownBy_alloc w _ _) hgrow;have s4:=hG.size
 have hQ:∀ b,(B<=b/\b<w.heap.size/\some b≠kv.ownBlock)->(B<=b/\b<w4.heap.size/\some b≠v'.ownBlock):=fun b hb=>⟨hb.1,by omega,fun e=>by
  rcases hfr with e' | e'
  ·exact hb.2.2 (e.trans e')
  ·rw [e'] at e;have:b=w.heap.size+1:=by simpa using e
   omega⟩
 have hsame:∀ b,(B<=b/\b<w.heap.size/\some b≠kv.ownBlock)->∀ j,w4.cell? ⟨b,j,none⟩=w.cell? ⟨b,j,none⟩:=fun b hb j=>jM (a:=⟨b,j,none⟩) (hG.block b hb.2.1 hb.2.2)
 refine ⟨vs++[q],?_,zR.snoc (hl.to hQ hsame) (ha.to hQ hsame)⟩;rw [zis,jb];exact hown'
def RzE (w:World) (t:Tree) (n:Int) (e:Ending) (w':World):Prop:=∃ v,e=.returned (.tuple #[v,.int .i64 (qO t n).2])/\kC (fun b=>w.heap.size<=b/\b<w'.heap.size) w' (qO t n).1 v/\Below w.heap.size w w'
structure RI (w:World) (N:Nat) (k:Int) (x:ByteArray) (m2:Int) (a:Option Addr) (n c:Nat) (lv:Value) (L:List Tree) (wr:World):Prop where
 bn:kJ wr N #[.int .i64 k,.string x,.int .i64 m2,.slice a n c] 25
 br:kJ wr (N+1) #[.int .i64 0,.string ⟨#[]⟩,.int .i64 0,.slice none 0 0] 25
 kids:syn.Kids (N+2) (fun b=>N+2<=b/\b<wr.heap.size/\some b≠lv.ownBlock) wr lv L
 b:Below N w wr
theorem RI.start (w:World) (k:Int) (x:ByteArray) (m2:Int) (a:Option Addr) (n c:Nat):RI w w.heap.size k x m2 a n c (.slice none 0 0) [] ((w.alloc (.cells #[.int .i64 k,.string x,.int .i64 m2,.slice a n c] 25)).alloc (.cells #[.int .i64 0,.string ⟨#[]⟩,.int .i64 0,.slice none 0 0] 25)):=by
 refine ⟨(kJ.new w _ _).alloc _,?_,Kids.nil _ _ _,(bal _).alloc (by simp) _⟩;have:=kJ.new (w.alloc (.cells #[.int .i64 k,.string x,.int .i64 m2,.slice a n c] 25)) #[.int .i64 0,.string ⟨#[]⟩,.int .i64 0,.slice none 0 0] 25;rw [jO] at this;exact this
theorem zro {W:World} {t0 t1 t2 t3 a0 a1 a2 a3 v:Value} (tl:List Value) (B:Nat) (h:kJ W B #[t0,t1,t2,t3] 25):(results Tryz.f5 (List.toArray (a0 :: a1 :: a2 :: a3 :: .pointer (some ⟨B,0,none⟩) :: v :: tl))).run Tryz.prog W=.ok (.tuple #[.agg #[t0,t1,t2,t3],v]) W:=by
 have c24:=kc25;have z0:=h.cell 0 rfl;have z1:=h.cell 1 rfl;have z2:=h.cell 2 rfl;have z3:=h.cell 3 rfl;simp [results,Tryz.results5,go_sem,z0,z1,z2,z3,c24]
theorem zl9 (t:Tree) (v:Value) (w:World) (n:Int) (hl:kC (·<w.heap.size) w t v) (h1:kB t - 1000000<=n) (h2:n<=1000000):Calls Tryz.prog 5 #[v,.int .i64 n] w (RzE w t n):=by
 match t with
 | .node k x m ks =>
  have ih:∀ j (hj:j<ks.length) (v:Value) (w:World) (n:Int),kC (·<w.heap.size) w ks[j] v->kB ks[j] - 1000000<=n->n<=1000000->Calls Tryz.prog 5 #[v,.int .i64 n] w (RzE w ks[j] n):=fun j hj v w n g1 g2 g3=>zl9 ks[j] v w n g1 g2 g3
  have c24:=kc25;obtain ⟨i0,hi,hz0,hz1,hz2⟩:=info_parts bW;have HIH:=show Hid _ from ih
  rw [vA] at h1;have hlc:=len_cnt ks;clear ih;unfold kC at hl;obtain ⟨a,c,rfl,⟨hk1,hk2⟩,hat⟩:=hl;obtain ⟨k2,hk2⟩:∃ k2:Int,k2=k:=⟨_,rfl⟩
  obtain ⟨m2,hm2⟩:∃ m2:Int,m2=if k=12/\m=0/\n=0 then 1 else m:=⟨_,rfl⟩
  obtain ⟨n2,hn2⟩:∃ n2:Int,n2=if k=12/\m=0 then n - 1 else n:=⟨_,rfl⟩
  have hnb':n - 1<=n2/\n2<=n:=by rw [hn2];split<;>omega
  have HTT:Hid (∀ L nj,yH ks n2=(L,nj)->qO (.node k x m ks) n=(.node k2 x m2 L,nj)):=fun L nj h=>by unfold qO;rw [<- hm2,<- hn2,h,hk2]
  have hcase:(k=12/\m=0/\n=0/\Hid (m2=1/\n2 = -1))\/(k=12/\m=0/\(n==0)=false/\Hid (m2=0/\n2=n - 1))\/(k=12/\(m==0)=false/\Hid (m2=m/\n2=n))\/((k==12)=false/\Hid (m2=m/\n2=n)):=by
   by_cases h1:k=12
   ·by_cases h2:m=0
    ·by_cases h3:n=0;·exact .inl ⟨h1,h2,h3,by rw [hm2,jv ⟨h1,h2,h3⟩],by rw [hn2,jv ⟨h1,h2⟩,h3];rfl⟩
     ·exact .inr (.inl ⟨h1,h2,beq_eq_false_iff_ne.2 h3,by rw [hm2,ju (fun e=>h3 e.2.2),h2],by rw [hn2,jv ⟨h1,h2⟩]⟩)
    ·exact .inr (.inr (.inl ⟨h1,beq_eq_false_iff_ne.2 h2,by rw [hm2,ju (fun e=>h2 e.2.1)],by rw [hn2,ju (fun e=>h2 e.2)]⟩))
   ·exact .inr (.inr (.inr ⟨beq_eq_false_iff_ne.2 h1,by rw [hm2,ju (fun e=>h1 e.1)],by rw [hn2,ju (fun e=>h1 e.1)]⟩))
  have Hk:=show Hid _ from hk2
  clear hk2 hm2 hn2;rcases hcase with ⟨rfl,rfl,rfl,HM⟩|⟨rfl,rfl,h4,HM⟩|⟨rfl,h4,HM⟩|⟨h4,HM⟩
  all_goals
   go_enter Tryz.func5,Tryz.ntmps5;go_wp2;go_loopw [1,6,7] (fun kk lv u wr=>∃ (j:Nat) (nj:Int) (L:List Tree),j<=ks.length/\u=.int .i64 j/\kk=.int .i64 nj/\RI w w.heap.size k2 x m2 a ks.length c lv L wr/\nj<=n2/\n2 - kA (ks.take j)<=nj/\Hid (yH (ks.take j) n2=(L,nj))) (fun _ _ u _=>ks.length - (intOf u).toNat)
   case atStart =>
    refine ⟨0,n2,[],jz _,rfl,by rw [HM.out.2],?_,Int.le_refl _,by simp [kA],by show _=_;simp [yH]⟩;rw [Hk.out,HM.out.1];exact RI.start ..
   case round =>
    obtain ⟨j,nj,L,hj,rfl,rfl,hI,hnj1,hnj2,HL⟩:=hrel
    have hLl:Hid (L.length=j):=by
     show _=_;have:=zig (ks.take j) n2;rw [HL.out] at this;rw [this,List.length_take];omega
    have hct:=cntL_take ks j;have z0:=hI.bn.cell 0 rfl;have z1:=hI.bn.cell 1 rfl;have z2:=hI.bn.cell 2 rfl;have z3:=hI.bn.cell 3 rfl;have hsz:=hI.br.lt;by_cases hlt:j<ks.length
    ·obtain ⟨gb,og,rfl,hgb,hat⟩:=hat (by intro e;rw [e] at hlt;simp at hlt);obtain ⟨ka,xa,ma,aa,na,ca,hln,hcell⟩:=cE hgb hat j hlt;obtain ⟨q0,q1,q2,q3⟩:=hcell _ hI.b;have hcn:=zb8 hlt;have hcn2:=cntL_take ks (j+1);have hC:=HIH.out j hlt _ wr nj (hln.below hI.b) (by omega) (by omega);have HL2:=show Hid _ from ztp hlt n2
     have hrl:=zjg ks[j] nj;obtain ⟨vs,ho,ha⟩:=hI.kids;obtain ⟨la,lc,rfl,-,-⟩:=own_shape ho;clear hcell;go_wp2_with (fail);refine hC.mono ?_;clear hC;rintro e w4 ⟨v4,rfl,hl4,hb4⟩;obtain ⟨kc,yc,mc,ac,nc,cc,rfl⟩:=lies_shape hl4;generalize hr2:(qO ks[j] nj).2=nk at *;have hb5:Below wr.heap.size wr (w4.alloc (.cells #[.int .i64 kc,.string yc,.int .i64 mc,.slice ac nc cc] 25)):=hb4.alloc hb4.size _;have h45:=hb4.size;have hob:∀ g,(Value.slice la L.length lc).ownBlock=some g->w.heap.size+2<=g/\g<wr.heap.size:=fun g e=>ho.lt g e
     have ho5:=ze6 ho hb5
     have HA:Hid (zR (fun b=>w.heap.size+2<=b/\b<(w4.alloc (.cells #[.int .i64 kc,.string yc,.int .i64 mc,.slice ac nc cc] 25)).heap.size/\some b≠(Value.slice la L.length lc).ownBlock) (w4.alloc (.cells #[.int .i64 kc,.string yc,.int .i64 mc,.slice ac nc cc] 25)) L vs) :=
      ha.to (fun b hb=>⟨hb.1,by rw [jO];omega,hb.2.2⟩) (fun b hb o=>hb5.cell (p:=⟨b,o,none⟩) hb.2.1)
     have HLn:Hid (kC (fun b=>w.heap.size+2<=b/\b<(w4.alloc (.cells #[.int .i64 kc,.string yc,.int .i64 mc,.slice ac nc cc] 25)).heap.size/\some b≠(Value.slice la L.length lc).ownBlock) (w4.alloc (.cells #[.int .i64 kc,.string yc,.int .i64 mc,.slice ac nc cc] 25)) (qO ks[j] nj).1 (.agg #[.int .i64 kc,.string yc,.int .i64 mc,.slice ac nc cc])) :=
      hl4.to (fun b hb=>⟨by omega,by rw [jO];omega,fun e=>by have:=(hob b e.symm).2;omega⟩) (fun b hb o=>by have:=((Below.refl w4.heap.size w4).alloc (jE _) (.cells #[.int .i64 kc,.string yc,.int .i64 mc,.slice ac nc cc] 25)).cell (p:=⟨b,o,none⟩) hb.2;exact this)
     have bn5:=hI.bn.below hb5;have br5:=hI.br.below hb5;have HB5:=show Hid _ from hI.b.trans (hb5.mono (by omega))
     clear ha hl4;go_wp2_with (at_builtin;refine zha rfl (.tmp 41) (.tmp 43) 23 rfl (w.heap.size+2) 25 i0 (.agg #[.int .i64 0,.string ⟨#[]⟩,.int .i64 0,.slice none 0 0]) 4 56 Tryz.underlying23 hi hz0 hz1 hz2 rfl (by decide) _ _ _ rfl (ho5.alloc _) ⟨w4.heap.size+1,0,none⟩ 1 1 [.int .i64 kc,.string yc,.int .i64 mc,.slice ac nc cc] rfl rfl (cM _ _ _ _ _ _ _ (by simp)) (by intro u hu;simp at hu;rcases hu with rfl | rfl | rfl | rfl<;>rfl) (by unfold maxLen;rw [hLl.out];omega) (by rw [hLl.out];omega) (by simp<;>omega) (by decide) ?_;intro v' w6 hown' hgrow hfr);have hK6:=zr2 (q:=(.int .i64 kc,.string yc,.int .i64 mc,.slice ac nc cc)) (t:=(qO ks[j] nj).1) ho5 HA.out HLn.out hown' hgrow (by rcases hfr with e | e;exact .inl e;exact .inr (by rw [e];simp));have hG:=zci (World.grownBy_alloc (w4.alloc (.cells #[.int .i64 kc,.string yc,.int .i64 mc,.slice ac nc cc] 25)) _ _) hgrow;have bn6:=bn5.grown hG (fun e=>by have:=(hob _ e).1;omega);have br6:=br5.grown hG (fun e=>by have:=(hob _ e).1;omega);go_roundw
     case rel=>exact ⟨j+1,nk,_,by omega,by go_num,rfl,⟨bn6,br6,hK6,HB5.out.grown hG (by have:=HB5.out.size;omega) (fun k e=>by have:=(hob _ e).1;omega)⟩,by omega,by rw [hcn];omega,by show _=_;rw [HL2.out,HL.out];dsimp only;rw [hr2]⟩
     case measure=>simp [intOf];omega
    ·have hjj:ks.take j=ks:=jG (by omega);have HT:=show Hid _ from HTT.out L nj (by have h:=HL.out;rw [hjj] at h;exact h)
     have hK:=hI.kids;obtain ⟨vs,ho,ha⟩:=hI.kids;obtain ⟨la,lc,rfl,-,-⟩:=own_shape ho;have f3:=hI.bn.fz 3;have y0:=hI.br.cell 0 rfl;have y1:=hI.br.cell 1 rfl;have y2:=hI.br.cell 2 rfl;have y3:=hI.br.cell 3 rfl;have g0:=hI.br.fz 0;have g1:=hI.br.fz 1;have g2:=hI.br.fz 2;have g3:=hI.br.fz 3;have HKd:=show Hid _ from hK
     have HB:=show Hid _ from hI.b
     have hbr:=hI.br;clear ho ha hK hjj;go_wp2
     have hBF:Below w.heap.size w (((((wr.setCell ⟨w.heap.size,3,none⟩ (.slice la L.length lc)).setCell ⟨w.heap.size+1,0,none⟩ (.int .i64 k2)).setCell ⟨w.heap.size+1,1,none⟩ (.string x)).setCell ⟨w.heap.size+1,2,none⟩ (.int .i64 m2)).setCell ⟨w.heap.size+1,3,none⟩ (.slice la L.length lc)) :=
      ((((HB.out.setCell (Nat.le_refl w.heap.size) _).setCell (by show w.heap.size<=w.heap.size+1;omega) _).setCell (by show w.heap.size<=w.heap.size+1;omega) _).setCell (by show w.heap.size<=w.heap.size+1;omega) _).setCell (by show w.heap.size<=w.heap.size+1;omega) _
     refine jT (v:=.tuple #[.agg #[.int .i64 k2,.string x,.int .i64 m2,.slice la L.length lc],.int .i64 nj]) (zro _ _ (by have:=(((((hbr.other (b:=w.heap.size) (o:=3) (by omega) (.slice la L.length lc)).set 0 (.int .i64 k2)).set 1 (.string x)).set 2 (.int .i64 m2)).set 3 (.slice la L.length lc));simpa using this)) rfl ?_;refine ⟨_,by rw [HT.out],?_,hBF⟩;rw [HT.out];have hLe:L.length<=4611686018427387904:=by rw [hLl.out];omega
     have h0:=syn.Kids.lies HKd.out (k:=k2) (x:=x) (m:=m2) (Q:=fun b=>w.heap.size+2<=b/\b<wr.heap.size) (fun b hb=>⟨hb.1,hb.2.1⟩) (fun g e=>by obtain ⟨vs,ho,_⟩:=HKd.out;exact ho.lt g e) hLe;refine h0.to (fun b hb=>⟨by omega,by simp only [jQ];exact hb.2⟩) (fun b hb o=>?_);have n0:b≠w.heap.size:=by omega
     have n1:b≠w.heap.size+1:=by omega
     exact jM (a:=⟨b,o,none⟩) ((jP _ ⟨w.heap.size+1,3,none⟩ _ b n1).trans ((jP _ ⟨w.heap.size+1,2,none⟩ _ b n1).trans ((jP _ ⟨w.heap.size+1,1,none⟩ _ b n1).trans ((jP _ ⟨w.heap.size+1,0,none⟩ _ b n1).trans (jP _ ⟨w.heap.size,3,none⟩ _ b n0)))))
termination_by SizeOf.sizeOf t
decreasing_by exact zdt hj
end pr
namespace pr
open Go.RowKit Go.Shelf
open syn face chk
open lexs (qP)
section
variable {w0:World} {r:Nat}
theorem zpq {g:Tree->Option (List ByteArray)} {Q:Tree->Prop} (hF:Wri w0 r 95 g Q) (hlen:∀ t o,g t=some o->o.length<=8*kB t) (ks:List Tree) (a:Option Addr) (c:Nat) (hl:ks.length<=4611686018427387904) (hlies:ks≠[]->∃ gb o,a=some ⟨gb,o,none⟩/\gb<r/\kY (·<r) w0 ks gb o) (hq:∀ t∈ks,Q t) (hr:w0.heap.size=r) (w:World) (v:Value) (ws:List ByteArray) (hB:Below r w0 w) (hW:WR w r v ws) (hn:(ws.length:Int)+10*kA ks<=799998) : Calls Tryz.prog 94 #[.pointer (some ⟨r,0,none⟩),.slice a ks.length c,.func (.func 95) #[.pointer (some ⟨r,0,none⟩)] #[]] w (WO r w v ws (kW g ks)):=by
 have c24:=kc25;have hrl:=hW.lt;have hcp0:=kX ks;have hC0:=vB hW ⟨#[40]⟩ (by omega);go_enter Tryz.func94,Tryz.ntmps94;go_wp2_with (go_at_call 44;refine hC0.mono ?_;rintro e w1 ⟨rfl,v1,hW1,hF1,hB1⟩);go_loopw [13] (fun u wr=>∃ (j:Nat) (vj:Value) (o:List ByteArray),j<=ks.length/\u=.int .i64 j/\WR wr r vj (ws++[⟨#[40]⟩]++o)/\FrU r v vj w wr/\Below r w wr/\o.length<=9*kA (ks.take j)/\Hid (kU g 0 ks=(kU g j (ks.drop j)).bind fun b=>some (o++b))) (fun u _=>ks.length - (intOf u).toNat)
 case atStart =>
  refine ⟨0,v1,[],jz _,rfl,by simpa using hW1,hF1,hB1,by simp [kA],?_⟩;show _=_;rw [List.drop_zero];cases kU g 0 ks<;>rfl
 case round =>
  clear hC0 hW1 hF1 hB1;obtain ⟨j,vj,o,hj,rfl,hWj,hFj,hBj,hol,HI⟩:=hrel;have hct:=cntL_take ks j;have hctp:=kX (ks.take j);by_cases hlt:j<ks.length
  ·obtain ⟨gb,og,rfl,hgb,hat⟩:=hlies (by intro e;rw [e] at hlt;simp at hlt);obtain ⟨nv,⟨y0,y1,y2,y3,rfl,q0,q1,q2,q3⟩,hln⟩:=hat.get j hlt;obtain ⟨k1,x1,m1,a1,n1,c1,e1⟩:=lies_shape hln;injection e1 with e1;simp only [Array.mk.injEq,jq,and_true] at e1;obtain ⟨rfl,rfl,rfl,rfl⟩:=e1;have hBr:=hB.trans hBj;have hk:∀ i u,w0.cell? ⟨gb,i,none⟩=some u->wr.cell? ⟨gb,i,none⟩=some u:=fun i u h=>by rw [hBr.cell (p:=⟨gb,i,none⟩) hgb];exact h
   replace q0:=hk _ _ q0;replace q1:=hk _ _ q1;replace q2:=hk _ _ q2;replace q3:=hk _ _ q3;have hQj:=hq _ (jH hlt);have hcn:=zb8 hlt;have hcn2:=cntL_take ks (j+1);have HX:=show Hid _ from zhw (g:=g) hlt
   have hA:=(Below.refl wr.heap.size wr).alloc (jE _) (.cells #[.int .i64 k1,.string x1,.int .i64 m1,.slice a1 n1 c1] 25);have hrw:=hWj.lt;have hWa:=hWj.alloc (.cells #[.int .i64 k1,.string x1,.int .i64 m1,.slice a1 n1 c1] 25);have hBa:=hBr.alloc (ji hrw) (.cells #[.int .i64 k1,.string x1,.int .i64 m1,.slice a1 n1 c1] 25);have bN:=kJ.new wr #[.int .i64 k1,.string x1,.int .i64 m1,.slice a1 n1 c1] 25;have hwl:(ws++[(⟨#[40]⟩:ByteArray)]++o).length=ws.length+1+o.length:=by simp;omega
   have HNW:Hid (wr.heap.size≠r/\vj.ownBlock≠some wr.heap.size):=⟨by omega,fun e=>by have:=(hWj.row.lt _ e).2;omega⟩
   by_cases hj0:j=0
   ·have hjn:¬ 0<j:=by omega
    have hC:=hF _ _ hln hQj _ _ _ hBa hWa (by omega)
    cases hg:g ks[j] with
    | none =>
     rw [hg] at hC;have HN:Hid (kW g ks=none):=by show _=_;unfold kW;rw [HI.out,HX.out,hg];rfl
     clear hj0;go_wp2_with (go_at_call 95;refine hC.mono ?_;rintro e w2 ⟨rfl,hb2⟩);refine ⟨rfl,?_⟩;rw [HN.out]
     exact ⟨rfl,(hBj.trans (hA.mono (ji hrw))).trans hb2⟩
    | some l1 =>
     rw [hg] at hC;have hl1:=hlen _ _ hg
     have HI2:Hid (kU g 0 ks=(kU g (j+1) (ks.drop (j+1))).bind fun b=>some ((o++l1)++b)):=by
      show _=_;rw [HI.out,HX.out,hg,jv hj0]
      cases kU g (j+1) (ks.drop (j+1)) with
      | none=>rfl
      | some b=>simp
     clear hj0 hg;go_wp2_with (go_at_call 95;refine hC.mono ?_;rintro e w2 ⟨rfl,v2,hW2,hF2,hb2⟩);go_roundw
     case rel=>exact ⟨j+1,v2,o++l1,by omega,by go_num,by rw [<- jt];exact hW2,hFj.trans ((FrU.below hA r vj).trans hF2),(hBj.trans (hA.mono (ji hrw))).trans hb2,by rw [hcn,jb];push_cast;omega,HI2⟩
     case measure=>simp [intOf];omega
   ·have hjn:0<j:=by omega
    have hCp:=vB hWa ⟨#[44]⟩ (by rw [hwl];omega);rw [jO] at hCp;have hCi:∀ (W:World) (V:Value),WR W r V (ws++[⟨#[40]⟩]++o++[⟨#[44]⟩])->Below r (wr.alloc (.cells #[.int .i64 k1,.string x1,.int .i64 m1,.slice a1 n1 c1] 25)) W->Calls Tryz.prog 95 #[.pointer (some ⟨r,0,none⟩),.agg #[.int .i64 k1,.string x1,.int .i64 m1,.slice a1 n1 c1]] W (WO r W V (ws++[⟨#[40]⟩]++o++[⟨#[44]⟩]) (g ks[j])):=fun W V hW3 hB3=>hF _ _ hln hQj _ _ _ (hBa.trans hB3) hW3 (by rw [jb,hwl];simp only [jd,je];push_cast;omega)
    cases hg:g ks[j] with
    | none =>
     rw [hg] at hCi;have HCi:=show Hid _ from hCi
     clear hCi;have HN:Hid (kW g ks=none):=by show _=_;unfold kW;rw [HI.out,HX.out,hg];rfl
     clear hj0 hg
     go_wp2_with first
      | (go_at_call 44;refine hCp.mono ?_;rintro e w3 ⟨rfl,v3,hW3,hF3,hB3⟩;have bN3:=bN.fr hF3 HNW.out.1 HNW.out.2;have z0:=bN3.cell 0 rfl;have z1:=bN3.cell 1 rfl;have z2:=bN3.cell 2 rfl;have z3:=bN3.cell 3 rfl)
      | (go_at_call 95;refine (HCi.out w3 v3 hW3 hB3).mono ?_;rintro e w2 ⟨rfl,hb2⟩)
     refine ⟨rfl,?_⟩;rw [HN.out]
     exact ⟨rfl,((hBj.trans (hA.mono (ji hrw))).trans hB3).trans hb2⟩
    | some l1 =>
     rw [hg] at hCi;have HCi:=show Hid _ from hCi
     clear hCi;have hl1:=hlen _ _ hg;have hcp:=kR ks[j]
     have HI2:Hid (kU g 0 ks=(kU g (j+1) (ks.drop (j+1))).bind fun b=>some ((o++[⟨#[44]⟩]++l1)++b)):=by
      show _=_;rw [HI.out,HX.out,hg,ju hj0]
      cases kU g (j+1) (ks.drop (j+1)) with
      | none=>rfl
      | some b=>simp
     clear hj0 hg
     go_wp2_with first
      | (go_at_call 44;refine hCp.mono ?_;rintro e w3 ⟨rfl,v3,hW3,hF3,hB3⟩;have bN3:=bN.fr hF3 HNW.out.1 HNW.out.2;have z0:=bN3.cell 0 rfl;have z1:=bN3.cell 1 rfl;have z2:=bN3.cell 2 rfl;have z3:=bN3.cell 3 rfl)
      | (go_at_call 95;refine (HCi.out w3 v3 hW3 hB3).mono ?_;rintro e w2 ⟨rfl,v2,hW2,hF2,hb2⟩)
     go_roundw
     case rel=>exact ⟨j+1,v2,o++[⟨#[44]⟩]++l1,by omega,by go_num,by simpa [jt] using hW2,hFj.trans ((FrU.below hA r vj).trans (hF3.trans hF2)),((hBj.trans (hA.mono (ji hrw))).trans hB3).trans hb2,by rw [hcn,jb,jb];simp only [jd,je];push_cast;omega,HI2⟩
     case measure=>simp [intOf];omega
  ·have hjj:j=ks.length:=by omega
   have hwl:(ws++[(⟨#[40]⟩:ByteArray)]++o).length=ws.length+1+o.length:=by simp;omega
   have hCe:=vB hWj ⟨#[41]⟩ (by rw [hwl];omega)
   have HR:Hid (kW g ks=some ([⟨#[40]⟩]++o++[⟨#[41]⟩])):=by
    show _=_;unfold kW;rw [HI.out,hjj,List.drop_length];simp [kU]
   clear hjj;go_wp2_with (go_at_call 44;refine hCe.mono ?_;rintro e w3 ⟨rfl,v3,hW3,hF3,hB3⟩)
   go_end0
   rw [HR.out];exact ⟨rfl,v3,by simpa [jt] using hW3,hFj.trans hF3,hBj.trans hB3⟩
end
end pr
namespace pr
open Go.RowKit Go.Shelf
open syn face chk
theorem zi3 {g:Tree->Option (List ByteArray)} {ks:List Tree} {j:Nat} (h:j<ks.length):kP g (ks.drop j)=(g ks[j]).bind fun a=>(kP g (ks.drop (j+1))).bind fun b=>some (a++b):=by
 rw [List.drop_eq_getElem_cons h];rfl
section
variable {w0:World} {r f:Nat}
theorem oBlock (hr:w0.heap.size=r) (hP:PH w0) (hS:Wri w0 r 111 (kL f) (okN f)):Wri w0 r 96 (kS (f+1)) (okN (f+1)):=by
 intro t nv hl hq w v ws hB hW hn;have c24:=kc25;obtain ⟨k,x,m,ks⟩:=t;obtain ⟨hx,hks⟩:=hq;rw [vA] at hn;unfold kC at hl;obtain ⟨a,c,rfl,⟨hk1,hk2⟩,hat⟩:=hl;have hrl:=hW.lt;have hL:=xZ hr hP hB [6] k m x a ks.length c hx hk1 (by decide) (fun i hi=>by simp at hi;omega);simp only [List.map_cons,List.map_nil,jd,je,Nat.zero_add] at hL;have HO:Hid (kS (f+1) (.node k x m ks)=if lookK [6] k x m ks.length then (kP (kL f) ks).bind fun b=>some ([⟨#[123]⟩]++b++[⟨#[125]⟩]) else none):=rfl;have hcp:=kX ks;have HNW:Hid (w.heap.size≠r/\v.ownBlock≠some w.heap.size):=⟨by omega,fun e=>by have:=(hW.row.lt _ e).2;omega⟩
 generalize kS (f+1) (.node k x m ks)=OO at *;go_enter Tryz.func96,Tryz.ntmps96;go_wp2_with (fail);refine hL.mono ?_;clear hL;rintro e w3 (⟨hlk,rfl,hb3⟩|⟨hlk,rfl,hb3,bN⟩);·rw [hlk] at HO;obtain rfl:=HO.out;clear hlk;go_wp2;exact ⟨rfl,rfl,hb3.mono (ji hrl)⟩
 rw [hlk] at HO;have HO2:Hid (OO=(kP (kL f) ks).bind fun b=>some ([⟨#[123]⟩]++b++[⟨#[125]⟩])):=HO.out;clear HO hlk;have S0:=Wg.start (hB.trans (hb3.mono (ji hrl))) (hW.below hb3);have hC1:=S0.put ⟨#[123]⟩ (by simp;omega);go_wp2_with (go_at_call 44;refine hC1.mono ?_;rintro e w5 ⟨rfl,v5,S5⟩;have bN5:=S5.box bN HNW.out.1 HNW.out.2;have z3:=bN5.cell 3 rfl);go_loopw [15] (fun u wr=>∃ (j:Nat) (vj:Value) (o:List ByteArray),j<=ks.length/\u=.int .i64 j/\Wg w0 w3 r v ws ([⟨#[123]⟩]++o) wr vj/\o.length<=8*kA (ks.take j)/\Hid (kP (kL f) ks=(kP (kL f) (ks.drop j)).bind fun b=>some (o++b))) (fun u _=>ks.length - (intOf u).toNat)
 case atStart =>
  refine ⟨0,v5,[],jz _,rfl,by simpa using S5,by simp [kA],?_⟩;show _=_;rw [List.drop_zero];cases kP (kL f) ks<;>rfl
 case round =>
  clear hC1 S5 S0 z3 bN5;obtain ⟨j,vj,o,hj,rfl,Sj,hol,HI⟩:=hrel;have hct:=cntL_take ks j;by_cases hlt:j<ks.length
  ·obtain ⟨gb,og,rfl,hgb,hat⟩:=hat (by intro e;rw [e] at hlt;simp at hlt);obtain ⟨ka,xa,ma,aa,na,ca,hln,hcell⟩:=cE hgb hat j hlt;obtain ⟨q0,q1,q2,q3⟩:=hcell _ Sj.b0;have hcn:=zb8 hlt;have hcn2:=cntL_take ks (j+1);have HX:=show Hid _ from zi3 (g:=kL f) hlt
   have hC:=(Sj.alloc (.cells #[.int .i64 ka,.string xa,.int .i64 ma,.slice aa na ca] 25)).wri hS hln (hks _ (jH hlt)) (by simp only [jb,jd,je];push_cast;omega);clear hcell;go_wp2_with (fail);refine hC.mono ?_;clear hC;rintro e w7 (⟨hN,rfl,hb7⟩|⟨l7,v7,hs7,rfl,S7⟩)
   ·have HN:Hid (OO=none):=by show _=_;rw [HO2.out,HI.out,HX.out,hN];rfl
    clear hN;go_wp2;refine ⟨rfl,?_⟩;rw [HN.out];exact ⟨rfl,(hb3.mono (ji hrl)).trans hb7⟩
   ·have hl7:=(fQ f).st _ _ hs7
    have HI2:Hid (kP (kL f) ks=(kP (kL f) (ks.drop (j+1))).bind fun b=>some ((o++l7)++b)):=by
     show _=_;rw [HI.out,HX.out,hs7]
     cases kP (kL f) (ks.drop (j+1)) with
     | none=>rfl
     | some b=>simp
    clear hs7;go_wp2;go_roundw
    case rel=>exact ⟨j+1,v7,o++l7,by omega,by go_num,by rw [<- jt];exact S7,by rw [hcn,jb];push_cast;omega,HI2⟩
    case measure=>simp [intOf];omega
  ·have hjj:j=ks.length:=by omega
   have hCe:=Sj.put ⟨#[125]⟩ (by simp only [jb,jd,je];omega)
   have HR:Hid (OO=some ([⟨#[123]⟩]++o++[⟨#[125]⟩])):=by
    show _=_;rw [HO2.out,HI.out,hjj,List.drop_length];simp [kP]
   clear hjj;go_wp2_with (go_at_call 44;refine hCe.mono ?_;rintro e w7 ⟨rfl,v7,S7⟩)
   go_end0
   rw [HR.out];exact S7.done hb3 (ji hrl)
theorem oPlace (hr:w0.heap.size=r) (hP:PH w0) (hO:xK w0 r (kD f) (okN f)):Wri w0 r 125 (yI f) (okN f):=by
 intro t nv hl hq w v ws hB hW hn;have c24:=kc25;have hl':=hl;have hq':=hq;obtain ⟨k,x,m,ks⟩:=t
 have hx:x.size<4611686018427387904:=by
  cases f with
  | zero=>exact hq.elim
  | succ f=>exact hq.1
 unfold kC at hl';obtain ⟨a,c,rfl,⟨hk1,hk2⟩,-⟩:=hl';have hrl:=hW.lt;have hL:=xZ hr hP hB [16,17] k m x a ks.length c hx hk1 (by decide) (fun i hi=>by simp at hi;omega);simp only [List.map_cons,List.map_nil,jd,je,Nat.zero_add] at hL;have HO:Hid (yI f (.node k x m ks)=if lookK [16,17] k x m ks.length then kD f 0 (.node k x m ks) else none):=rfl;generalize yI f (.node k x m ks)=OO at *;go_enter Tryz.func125,Tryz.ntmps125;go_wp2_with (fail);refine hL.mono ?_;clear hL;rintro e w3 (⟨hlk,rfl,hb3⟩|⟨hlk,rfl,hb3,bN⟩);·rw [hlk] at HO;obtain rfl:=HO.out;clear hlk;go_wp2;exact ⟨rfl,rfl,hb3.mono (ji hrl)⟩
 rw [hlk] at HO;obtain rfl:=HO.out;clear hlk HO;have S0:=Wg.start (hB.trans (hb3.mono (ji hrl))) (hW.below hb3);have hC1:=S0.wri (oExpr hO) hl hq (by simpa using hn);have z0:=bN.cell 0 rfl;have z1:=bN.cell 1 rfl;have z2:=bN.cell 2 rfl;have z3:=bN.cell 3 rfl;generalize kD f 0 (.node k x m ks)=ob at *;go_wp2_with (fail);refine hC1.mono ?_;clear hC1;rintro e w5 (⟨rfl,rfl,hb5⟩|⟨l5,v5,rfl,rfl,S5⟩);·go_wp2;exact ⟨rfl,rfl,(hb3.mono (ji hrl)).trans hb5⟩
 ·go_wp2
  go_end0
  exact S5.done hb3 (ji hrl)
end
section
variable {w0:World} {r f:Nat}
theorem yar (hr:w0.heap.size=r) (hP:PH w0) (hO:xK w0 r (kD f) (okN f)) (x:ByteArray) (m:Int) (t0:Tree) (nv:Value) (hl:kC (·<r) w0 (.node 7 x m [t0]) nv) (h0:okN f t0) (hx:x.size<4611686018427387904) (hlk:lookK kQ 7 x m 1=true) (w:World) (v:Value) (ws:List ByteArray) (hB:Below r w0 w) (hW:WR w r v ws) (hn:(ws.length:Int)+10*(kB t0+1)<=800000) : Calls Tryz.prog 111 #[.pointer (some ⟨r,0,none⟩),nv] w (WO r w v ws (kL (f+1) (.node 7 x m [t0]))):=by
 have c24:=kc25;have hrl:=hW.lt;have p0:=kR t0;obtain ⟨g,o,c,ka,xa,ma,aa,na,ca,rfl,l0,hk⟩:=fC hl;have HK:=show Hid _ from hk
 have hL:=xZ hr hP hB kQ 7 m x (some ⟨g,o,none⟩) 1 c hx (by decide) (by decide) (fun i hi=>by simp [kQ] at hi;omega);have HO:Hid (kL (f+1) (.node 7 x m [t0])=(kD f 0 t0).bind fun e=>some ([kO m]++[x,⟨#[61]⟩]++e++[⟨#[59]⟩])):=by show _=_;unfold kL;rw [jv (show kI kQ (.node 7 x m [t0])=true from hlk)];rfl
 rw [hlk] at hL;simp only [kQ,List.map_cons,List.map_nil,jd,je,Nat.zero_add,Nat.reduceAdd] at hL;clear hl hk hlk;have HNW:Hid (w.heap.size≠r/\v.ownBlock≠some w.heap.size):=⟨by omega,fun e=>by have:=(hW.row.lt _ e).2;omega⟩
 generalize kL (f+1) (.node 7 x m  [t0] )=OO at *;go_enter Tryz.func111,Tryz.ntmps111;go_wp2_with (fail);refine hL.mono ?_;clear hL;intro e w3 hl3;obtain ⟨rfl,hb3,bN⟩:=hl3.yes;clear hl3;have S3:=Wg.start (hB.trans (hb3.mono (ji hrl))) (hW.below hb3);have u0:=bN.cell 0 rfl;have u1:=bN.cell 1 rfl;have u2:=bN.cell 2 rfl;have u3:=bN.cell 3 rfl;have HQ:=HK.out _ S3.b0;go_wp2_with (fail);refine (S3.label m (by simp only [jb,jd,je];omega)).mono ?_;rintro e w5 ⟨rfl,v5,S5⟩;have b5:=S5.box bN HNW.out.1 HNW.out.2;have u1:=b5.cell 1 rfl;have u2:=b5.cell 2 rfl;have u3:=b5.cell 3 rfl;have HQ:=HK.out _ S5.b0;go_wp2_with (fail);refine (S5.put2 x ⟨#[61]⟩ (by simp only [jb,jd,je];omega)).mono ?_;rintro e w7 ⟨rfl,v7,S7⟩;have b7:=S7.box bN HNW.out.1 HNW.out.2;have u1:=b7.cell 1 rfl;have u2:=b7.cell 2 rfl;have u3:=b7.cell 3 rfl;have HQ:=HK.out _ S7.b0;obtain ⟨q0,q1,q2,q3⟩:=HQ;go_wp2_with (fail);refine (S7.wri (oExpr hO) l0 h0 (by simp only [jb,jd,je];push_cast;omega)).mono ?_;rintro e w9 (⟨hN,rfl,hb9⟩|⟨l9,v9,hs9,rfl,S9⟩)
 ·have HN:Hid (OO=none):=by show _=_;rw [HO.out,hN];rfl
  clear hN;go_wp2;refine ⟨rfl,?_⟩;rw [HN.out];exact ⟨rfl,(hb3.mono (ji hrl)).trans hb9⟩
 have hl9:=vM f 0 t0 _ hs9;have b9:=S9.box bN HNW.out.1 HNW.out.2;have u1:=b9.cell 1 rfl;have u2:=b9.cell 2 rfl;have u3:=b9.cell 3 rfl;have HQ:=HK.out _ S9.b0;go_wp2_with (fail);refine (S9.put ⟨#[59]⟩ (by simp only [jb,jd,je];omega)).mono ?_;rintro e w11 ⟨rfl,v11,S11⟩;have b11:=S11.box bN HNW.out.1 HNW.out.2;have u1:=b11.cell 1 rfl;have u2:=b11.cell 2 rfl;have u3:=b11.cell 3 rfl;have HQ:=HK.out _ S11.b0;go_wp2
 go_end0
 rw [HO.out,hs9];exact S11.done hb3 (ji hrl)
theorem zyh (hr:w0.heap.size=r) (hP:PH w0) (hO:xK w0 r (kD f) (okN f)) (x:ByteArray) (m:Int) (t0:Tree) (nv:Value) (hl:kC (·<r) w0 (.node 12 x m [t0]) nv) (h0:okN f t0) (hx:x.size<4611686018427387904) (hlk:lookK kQ 12 x m 1=true) (w:World) (v:Value) (ws:List ByteArray) (hB:Below r w0 w) (hW:WR w r v ws) (hn:(ws.length:Int)+10*(kB t0+1)<=800000) : Calls Tryz.prog 111 #[.pointer (some ⟨r,0,none⟩),nv] w (WO r w v ws (kL (f+1) (.node 12 x m [t0]))):=by
 have c24:=kc25;have hrl:=hW.lt;have p0:=kR t0;obtain ⟨g,o,c,ka,xa,ma,aa,na,ca,rfl,l0,hk⟩:=fC hl;have HK:=show Hid _ from hk
 have hL:=xZ hr hP hB kQ 12 m x (some ⟨g,o,none⟩) 1 c hx (by decide) (by decide) (fun i hi=>by simp [kQ] at hi;omega);have HO:Hid (kL (f+1) (.node 12 x m [t0])=(kD f 0 t0).bind fun e=>some ([⟨#[111,117,116]⟩]++[kO m]++e++[⟨#[59]⟩])):=by show _=_;unfold kL;rw [jv (show kI kQ (.node 12 x m [t0])=true from hlk)];rfl
 rw [hlk] at hL;simp only [kQ,List.map_cons,List.map_nil,jd,je,Nat.zero_add,Nat.reduceAdd] at hL;clear hl hk hlk;have HNW:Hid (w.heap.size≠r/\v.ownBlock≠some w.heap.size):=⟨by omega,fun e=>by have:=(hW.row.lt _ e).2;omega⟩
 generalize kL (f+1) (.node 12 x m  [t0] )=OO at *;go_enter Tryz.func111,Tryz.ntmps111;go_wp2_with (fail);refine hL.mono ?_;clear hL;intro e w3 hl3;obtain ⟨rfl,hb3,bN⟩:=hl3.yes;clear hl3;have S3:=Wg.start (hB.trans (hb3.mono (ji hrl))) (hW.below hb3);have u0:=bN.cell 0 rfl;have u1:=bN.cell 1 rfl;have u2:=bN.cell 2 rfl;have u3:=bN.cell 3 rfl;have HQ:=HK.out _ S3.b0;go_wp2_with (fail);refine (S3.put ⟨#[111,117,116]⟩ (by simp only [jb,jd,je];omega)).mono ?_;rintro e w5 ⟨rfl,v5,S5⟩;have b5:=S5.box bN HNW.out.1 HNW.out.2;have u1:=b5.cell 1 rfl;have u2:=b5.cell 2 rfl;have u3:=b5.cell 3 rfl;have HQ:=HK.out _ S5.b0;go_wp2_with (fail);refine (S5.label m (by simp only [jb,jd,je];omega)).mono ?_;rintro e w7 ⟨rfl,v7,S7⟩;have b7:=S7.box bN HNW.out.1 HNW.out.2;have u1:=b7.cell 1 rfl;have u2:=b7.cell 2 rfl;have u3:=b7.cell 3 rfl;have HQ:=HK.out _ S7.b0;obtain ⟨q0,q1,q2,q3⟩:=HQ;go_wp2_with (fail);refine (S7.wri (oExpr hO) l0 h0 (by simp only [jb,jd,je];push_cast;omega)).mono ?_;rintro e w9 (⟨hN,rfl,hb9⟩|⟨l9,v9,hs9,rfl,S9⟩)
 ·have HN:Hid (OO=none):=by show _=_;rw [HO.out,hN];rfl
  clear hN;go_wp2;refine ⟨rfl,?_⟩;rw [HN.out];exact ⟨rfl,(hb3.mono (ji hrl)).trans hb9⟩
 have hl9:=vM f 0 t0 _ hs9;have b9:=S9.box bN HNW.out.1 HNW.out.2;have u1:=b9.cell 1 rfl;have u2:=b9.cell 2 rfl;have u3:=b9.cell 3 rfl;have HQ:=HK.out _ S9.b0;go_wp2_with (fail);refine (S9.put ⟨#[59]⟩ (by simp only [jb,jd,je];omega)).mono ?_;rintro e w11 ⟨rfl,v11,S11⟩;have b11:=S11.box bN HNW.out.1 HNW.out.2;have u1:=b11.cell 1 rfl;have u2:=b11.cell 2 rfl;have u3:=b11.cell 3 rfl;have HQ:=HK.out _ S11.b0;go_wp2
 go_end0
 rw [HO.out,hs9];exact S11.done hb3 (ji hrl)
theorem zyd (hr:w0.heap.size=r) (hP:PH w0) (hO:xK w0 r (kD f) (okN f)) (x:ByteArray) (m:Int) (t0:Tree) (nv:Value) (hl:kC (·<r) w0 (.node 13 x m [t0]) nv) (h0:okN f t0) (hx:x.size<4611686018427387904) (hlk:lookK kQ 13 x m 1=true) (w:World) (v:Value) (ws:List ByteArray) (hB:Below r w0 w) (hW:WR w r v ws) (hn:(ws.length:Int)+10*(kB t0+1)<=800000) : Calls Tryz.prog 111 #[.pointer (some ⟨r,0,none⟩),nv] w (WO r w v ws (kL (f+1) (.node 13 x m [t0]))):=by
 have c24:=kc25;have hrl:=hW.lt;have p0:=kR t0;obtain ⟨g,o,c,ka,xa,ma,aa,na,ca,rfl,l0,hk⟩:=fC hl;have HK:=show Hid _ from hk
 have hL:=xZ hr hP hB kQ 13 m x (some ⟨g,o,none⟩) 1 c hx (by decide) (by decide) (fun i hi=>by simp [kQ] at hi;omega);have HO:Hid (kL (f+1) (.node 13 x m [t0])=(yI f t0).bind fun e=>some ([⟨#[105,110]⟩]++[kO m]++e++[⟨#[59]⟩])):=by show _=_;unfold kL;rw [jv (show kI kQ (.node 13 x m [t0])=true from hlk)];rfl
 rw [hlk] at hL;simp only [kQ,List.map_cons,List.map_nil,jd,je,Nat.zero_add,Nat.reduceAdd] at hL;clear hl hk hlk;have HNW:Hid (w.heap.size≠r/\v.ownBlock≠some w.heap.size):=⟨by omega,fun e=>by have:=(hW.row.lt _ e).2;omega⟩
 generalize kL (f+1) (.node 13 x m  [t0] )=OO at *;go_enter Tryz.func111,Tryz.ntmps111;go_wp2_with (fail);refine hL.mono ?_;clear hL;intro e w3 hl3;obtain ⟨rfl,hb3,bN⟩:=hl3.yes;clear hl3;have S3:=Wg.start (hB.trans (hb3.mono (ji hrl))) (hW.below hb3);have u0:=bN.cell 0 rfl;have u1:=bN.cell 1 rfl;have u2:=bN.cell 2 rfl;have u3:=bN.cell 3 rfl;have HQ:=HK.out _ S3.b0;go_wp2_with (fail);refine (S3.put ⟨#[105,110]⟩ (by simp only [jb,jd,je];omega)).mono ?_;rintro e w5 ⟨rfl,v5,S5⟩;have b5:=S5.box bN HNW.out.1 HNW.out.2;have u1:=b5.cell 1 rfl;have u2:=b5.cell 2 rfl;have u3:=b5.cell 3 rfl;have HQ:=HK.out _ S5.b0;go_wp2_with (fail);refine (S5.label m (by simp only [jb,jd,je];omega)).mono ?_;rintro e w7 ⟨rfl,v7,S7⟩;have b7:=S7.box bN HNW.out.1 HNW.out.2;have u1:=b7.cell 1 rfl;have u2:=b7.cell 2 rfl;have u3:=b7.cell 3 rfl;have HQ:=HK.out _ S7.b0;obtain ⟨q0,q1,q2,q3⟩:=HQ;go_wp2_with (fail);refine (S7.wri (oPlace hr hP hO) l0 h0 (by simp only [jb,jd,je];push_cast;omega)).mono ?_;rintro e w9 (⟨hN,rfl,hb9⟩|⟨l9,v9,hs9,rfl,S9⟩)
 ·have HN:Hid (OO=none):=by show _=_;rw [HO.out,hN];rfl
  clear hN;go_wp2;refine ⟨rfl,?_⟩;rw [HN.out];exact ⟨rfl,(hb3.mono (ji hrl)).trans hb9⟩
 have hl9:=zcx hs9;have b9:=S9.box bN HNW.out.1 HNW.out.2;have u1:=b9.cell 1 rfl;have u2:=b9.cell 2 rfl;have u3:=b9.cell 3 rfl;have HQ:=HK.out _ S9.b0;go_wp2_with (fail);refine (S9.put ⟨#[59]⟩ (by simp only [jb,jd,je];omega)).mono ?_;rintro e w11 ⟨rfl,v11,S11⟩;have b11:=S11.box bN HNW.out.1 HNW.out.2;have u1:=b11.cell 1 rfl;have u2:=b11.cell 2 rfl;have u3:=b11.cell 3 rfl;have HQ:=HK.out _ S11.b0;go_wp2
 go_end0
 rw [HO.out,hs9];exact S11.done hb3 (ji hrl)
theorem zyt (hr:w0.heap.size=r) (hP:PH w0) (hO:xK w0 r (kD f) (okN f)) (x:ByteArray) (m:Int) (t0:Tree) (nv:Value) (hl:kC (·<r) w0 (.node 14 x m [t0]) nv) (h0:okN f t0) (hx:x.size<4611686018427387904) (hlk:lookK kQ 14 x m 1=true) (w:World) (v:Value) (ws:List ByteArray) (hB:Below r w0 w) (hW:WR w r v ws) (hn:(ws.length:Int)+10*(kB t0+1)<=800000) : Calls Tryz.prog 111 #[.pointer (some ⟨r,0,none⟩),nv] w (WO r w v ws (kL (f+1) (.node 14 x m [t0]))):=by
 have c24:=kc25;have hrl:=hW.lt;have p0:=kR t0;obtain ⟨g,o,c,ka,xa,ma,aa,na,ca,rfl,l0,hk⟩:=fC hl;have HK:=show Hid _ from hk
 have hL:=xZ hr hP hB kQ 14 m x (some ⟨g,o,none⟩) 1 c hx (by decide) (by decide) (fun i hi=>by simp [kQ] at hi;omega);have HO:Hid (kL (f+1) (.node 14 x m [t0])=(kD f 0 t0).bind fun e=>some ([⟨#[114,101,116,117,114,110]⟩]++e++[⟨#[59]⟩])):=by show _=_;unfold kL;rw [jv (show kI kQ (.node 14 x m [t0])=true from hlk)];rfl
 rw [hlk] at hL;simp only [kQ,List.map_cons,List.map_nil,jd,je,Nat.zero_add,Nat.reduceAdd] at hL;clear hl hk hlk;have HNW:Hid (w.heap.size≠r/\v.ownBlock≠some w.heap.size):=⟨by omega,fun e=>by have:=(hW.row.lt _ e).2;omega⟩
 generalize kL (f+1) (.node 14 x m  [t0] )=OO at *;go_enter Tryz.func111,Tryz.ntmps111;go_wp2_with (fail);refine hL.mono ?_;clear hL;intro e w3 hl3;obtain ⟨rfl,hb3,bN⟩:=hl3.yes;clear hl3;have S3:=Wg.start (hB.trans (hb3.mono (ji hrl))) (hW.below hb3);have u0:=bN.cell 0 rfl;have u1:=bN.cell 1 rfl;have u2:=bN.cell 2 rfl;have u3:=bN.cell 3 rfl;have HQ:=HK.out _ S3.b0;go_wp2_with (fail);refine (S3.put ⟨#[114,101,116,117,114,110]⟩ (by simp only [jb,jd,je];omega)).mono ?_;rintro e w7 ⟨rfl,v7,S7⟩;have b7:=S7.box bN HNW.out.1 HNW.out.2;have u1:=b7.cell 1 rfl;have u2:=b7.cell 2 rfl;have u3:=b7.cell 3 rfl;have HQ:=HK.out _ S7.b0;obtain ⟨q0,q1,q2,q3⟩:=HQ;go_wp2_with (fail);refine (S7.wri (oExpr hO) l0 h0 (by simp only [jb,jd,je];push_cast;omega)).mono ?_;rintro e w9 (⟨hN,rfl,hb9⟩|⟨l9,v9,hs9,rfl,S9⟩)
 ·have HN:Hid (OO=none):=by show _=_;rw [HO.out,hN];rfl
  clear hN;go_wp2;refine ⟨rfl,?_⟩;rw [HN.out];exact ⟨rfl,(hb3.mono (ji hrl)).trans hb9⟩
 have hl9:=vM f 0 t0 _ hs9;have b9:=S9.box bN HNW.out.1 HNW.out.2;have u1:=b9.cell 1 rfl;have u2:=b9.cell 2 rfl;have u3:=b9.cell 3 rfl;have HQ:=HK.out _ S9.b0;go_wp2_with (fail);refine (S9.put ⟨#[59]⟩ (by simp only [jb,jd,je];omega)).mono ?_;rintro e w11 ⟨rfl,v11,S11⟩;have b11:=S11.box bN HNW.out.1 HNW.out.2;have u1:=b11.cell 1 rfl;have u2:=b11.cell 2 rfl;have u3:=b11.cell 3 rfl;have HQ:=HK.out _ S11.b0;go_wp2
 go_end0
 rw [HO.out,hs9];exact S11.done hb3 (ji hrl)
end
end pr
end Go.Proofs.YtaadmdlbkhcfnaaGreatDoor
