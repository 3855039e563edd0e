/- Statements, each as the program goes over it. No Go in sight. -/
import Derived.Test.YtaadmdlbkhcfnaaGreatDoorNC13
import Derived.Test.YtaadmdlbkhcfnaaGreatDoorNC03
set_option maxHeartbeats 4000000
set_option linter.unusedVariables false
set_option linter.unusedSimpArgs false
set_option maxRecDepth 100000
namespace Go.Proofs.YtaadmdlbkhcfnaaGreatDoor
namespace pr
open Go.RowKit Go.Shelf
open syn face chk
section
variable {w0:World} {r f:Nat}
theorem ya1 (hr:w0.heap.size=r) (hP:PH w0) (hO:xK w0 r (kD f) (okN f)) (x:ByteArray) (m:Int) (t0:Tree) (nv:Value) (hl:kC (·<r) w0 (.node 9 x m [t0]) nv) (h0:okN f t0) (hx:x.size<4611686018427387904) (hlk:lookK kQ 9 x m 1=true) (w:World) (v:Value) (ws:List ByteArray) (hB:Below r w0 w) (hW:WR w r v ws) (hn:(ws.length:Int)+10*(kB t0+1)<=800000) : Calls Tryz.prog 111 #[.pointer (some ⟨r,0,none⟩),nv] w (WO r w v ws (kL (f+1) (.node 9 x m [t0]))):=by
 have c24:=kc25;have hrl:=hW.lt;have p0:=kR t0;obtain ⟨g,o,c,ka,xa,ma,aa,na,ca,rfl,l0,hk⟩:=fC hl;have HK:=show Hid _ from hk
 have hL:=xZ hr hP hB kQ 9 m x (some ⟨g,o,none⟩) 1 c hx (by decide) (by decide) (fun i hi=>by simp [kQ] at hi;omega);have HO1:Hid (kL (f+1) (.node 9 x m [t0])=(doW f t0).bind fun e=>some ([⟨#[100,111]⟩]++e++[⟨#[59]⟩])):=by show _=_;unfold kL;rw [jv (show kI kQ (.node 9 x m [t0])=true from hlk)];rfl
 rw [hlk] at hL;simp only [kQ,List.map_cons,List.map_nil,jd,je,Nat.zero_add,Nat.reduceAdd] at hL;clear hl hk hlk;obtain ⟨tk,tx,tm,tks⟩:=t0
 have hx0:tx.size<4611686018427387904:=by
  cases f with
  | zero=>exact h0.elim
  | succ f=>exact h0.1
 have l0':=l0;unfold kC at l0';obtain ⟨a',c',e',hkk,-⟩:=l0';injection e' with e';simp only [Array.mk.injEq,jq,and_true,Value.int.injEq,Value.string.injEq,Value.slice.injEq,true_and] at e';obtain ⟨rfl,rfl,rfl,rfl,rfl,rfl⟩:=e';have HNW:Hid (w.heap.size≠r/\v.ownBlock≠some w.heap.size):=⟨by omega,fun e=>by have:=(hW.row.lt _ e).2;omega⟩
 generalize kL (f+1) (.node 9 x m  [.node ka xa ma tks] )=OO at *;go_enter Tryz.func111,Tryz.ntmps111;go_wp2_with (fail);refine hL.mono ?_;clear hL;intro e w3 hl3;obtain ⟨rfl,hb3,bN⟩:=hl3.yes;clear hl3;have S3:=Wg.start (hB.trans (hb3.mono (ji hrl))) (hW.below hb3);have u0:=bN.cell 0 rfl;have u1:=bN.cell 1 rfl;have u2:=bN.cell 2 rfl;have u3:=bN.cell 3 rfl;have HQ:=HK.out _ S3.b0;obtain ⟨q0,q1,q2,q3⟩:=HQ;have hK:=zlz hr hP S3.b0 [18] ka ma xa aa tks.length ca hx0 hkk.1 (by decide) (fun i hi=>by simp at hi;omega);simp only [List.map_cons,List.map_nil,jd,je,Nat.zero_add] at hK;go_wp2_with (fail);refine hK.mono ?_;clear hK;rintro e w4 ⟨(⟨hlk,rfl⟩|⟨hlk,rfl⟩),hb4⟩
 ·have HN:Hid (OO=none):=by show _=_;rw [HO1.out];unfold doW;rw [ju (by rw [show kI [18] (.node ka xa ma tks)=lookK [18] ka xa ma tks.length from rfl,hlk];simp)];rfl
  clear hlk;go_wp2;refine ⟨rfl,?_⟩;rw [HN.out];exact ⟨rfl,(hb3.mono (ji hrl)).trans (hb4.mono (by have:=hb3.size;omega))⟩
 have HO:Hid (OO=(kD f 0 (.node ka xa ma tks)).bind fun e=>some ([⟨#[100,111]⟩]++e++[⟨#[59]⟩])):=by show _=_;rw [HO1.out];unfold doW;rw [jv (show kI [18] (.node ka xa ma tks)=true from hlk)]
 clear hlk HO1;have S4:=S3.below hb4;go_wp2_with (fail);refine (S4.put ⟨#[100,111]⟩ (by simp only [jb,jd,je];omega)).mono ?_;rintro e w7 ⟨rfl,v7,S7⟩;have b7:=S7.box bN HNW.out.1 HNW.out.2;have u1:=b7.cell 1 rfl;have u2:=b7.cell 2 rfl;have u3:=b7.cell 3 rfl;have HQ:=HK.out _ S7.b0;obtain ⟨q0,q1,q2,q3⟩:=HQ;go_wp2_with (fail);refine (S7.wri (oExpr hO) l0 h0 (by simp only [jb,jd,je];push_cast;omega)).mono ?_;rintro e w9 (⟨hN,rfl,hb9⟩|⟨l9,v9,hs9,rfl,S9⟩)
 ·have HN:Hid (OO=none):=by show _=_;rw [HO.out,hN];rfl
  clear hN;go_wp2;refine ⟨rfl,?_⟩;rw [HN.out];exact ⟨rfl,(hb3.mono (ji hrl)).trans hb9⟩
 have hl9:=vM f 0 _ _ hs9;have b9:=S9.box bN HNW.out.1 HNW.out.2;have u1:=b9.cell 1 rfl;have u2:=b9.cell 2 rfl;have u3:=b9.cell 3 rfl;have HQ:=HK.out _ S9.b0;go_wp2_with (fail);refine (S9.put ⟨#[59]⟩ (by simp only [jb,jd,je];omega)).mono ?_;rintro e w11 ⟨rfl,v11,S11⟩;have b11:=S11.box bN HNW.out.1 HNW.out.2;have u1:=b11.cell 1 rfl;have u2:=b11.cell 2 rfl;have u3:=b11.cell 3 rfl;have HQ:=HK.out _ S11.b0;go_wp2
 go_end0
 rw [HO.out,hs9];exact S11.done hb3 (ji hrl)
theorem zc1 {k:Int} {x:ByteArray} {m:Int} {t0 t1:Tree} {ks:List Tree} {nv:Value} (hl:kC (·<r) w0 (.node k x m (t0 :: t1 :: ks)) nv) : ∃ g o c ka xa ma aa na ca kb xb mb ab nb cb,nv=.agg #[.int .i64 k,.string x,.int .i64 m,.slice (some ⟨g,o,none⟩) (ks.length+2) c]/\(ks.length+2<=c/\g<r/\kY (·<r) w0 (t0 :: t1 :: ks) g o)/\kC (·<r) w0 t0 (.agg #[.int .i64 ka,.string xa,.int .i64 ma,.slice aa na ca])/\kC (·<r) w0 t1 (.agg #[.int .i64 kb,.string xb,.int .i64 mb,.slice ab nb cb]) /\ ∀ W,Below r w0 W->W.cell? ⟨g,o,none⟩=some (.int .i64 ka)/\W.cell? ⟨g,o+1,none⟩=some (.string xa)/\W.cell? ⟨g,o+2,none⟩=some (.int .i64 ma)/\W.cell? ⟨g,o+3,none⟩=some (.slice aa na ca)/\W.cell? ⟨g,o+4,none⟩=some (.int .i64 kb)/\W.cell? ⟨g,o+4+1,none⟩=some (.string xb)/\W.cell? ⟨g,o+4+2,none⟩=some (.int .i64 mb)/\W.cell? ⟨g,o+4+3,none⟩=some (.slice ab nb cb):=by
 unfold kC at hl;obtain ⟨a,c,rfl,hk,hat⟩:=hl;obtain ⟨g,o,rfl,hg,hat⟩:=hat (by simp);obtain ⟨ka,xa,ma,aa,na,ca,l0,h0⟩:=cE hg hat 0 (by simp);obtain ⟨kb,xb,mb,ab,nb,cb,l1,h1⟩:=cE hg hat 1 (by simp);simp only [jI,List.getElem_cons_succ,Nat.zero_mul,Nat.one_mul,Nat.add_zero] at l0 l1 h0 h1;refine ⟨g,o,c,ka,xa,ma,aa,na,ca,kb,xb,mb,ab,nb,cb,rfl,⟨by simpa using hk.2,hg,hat⟩,l0,l1,fun W hb=>?_⟩;obtain ⟨a0,a1,a2,a3⟩:=h0 W hb;obtain ⟨b0,b1,b2,b3⟩:=h1 W hb;exact ⟨a0,a1,a2,a3,b0,b1,b2,b3⟩
theorem yax (hr:w0.heap.size=r) (hP:PH w0) (hO:xK w0 r (kD f) (okN f)) (x:ByteArray) (m:Int) (t0 t1:Tree) (nv:Value) (hl:kC (·<r) w0 (.node 8 x m [t0,t1]) nv) (h0:okN f t0) (h1:okN f t1) (hx:x.size<4611686018427387904) (hlk:lookK kQ 8 x m 2=true) (w:World) (v:Value) (ws:List ByteArray) (hB:Below r w0 w) (hW:WR w r v ws) (hn:(ws.length:Int)+10*(kB t0+kB t1+1)<=800000) : Calls Tryz.prog 111 #[.pointer (some ⟨r,0,none⟩),nv] w (WO r w v ws (kL (f+1) (.node 8 x m [t0,t1]))):=by
 have c24:=kc25;have hmf:∀ (fn:Fn) (first cap:Array Value) (w:World),(Instr.makeFunc fn first cap).run Tryz.prog w=.ok (.func fn first cap) w:=fun _ _ _ _=>rfl
 have hrl:=hW.lt;have p0:=kR t0;have p1:=kR t1;obtain ⟨g,o,c,ka,xa,ma,aa,na,ca,kb,xb,mb,ab,nb,cb,rfl,⟨hc2,hg,hat⟩,l0,l1,hk⟩:=zc1 hl;have HK:=show Hid _ from hk
 have hL:=xZ hr hP hB kQ 8 m x (some ⟨g,o,none⟩) 2 c hx (by decide) (by decide) (fun i hi=>by simp [kQ] at hi;omega);have HO:Hid (kL (f+1) (.node 8 x m [t0,t1])=(yI f t0).bind fun p=>(kD f 0 t1).bind fun e=>some (p++[⟨#[61]⟩]++e++[⟨#[59]⟩])):=by show _=_;unfold kL;rw [jv (show kI kQ (.node 8 x m [t0,t1])=true from hlk)];rfl
 rw [hlk] at hL;simp only [kQ,List.map_cons,List.map_nil,jd,je,Nat.zero_add,Nat.reduceAdd] at hL;clear hl hk hlk;have HNW:Hid (w.heap.size≠r/\v.ownBlock≠some w.heap.size):=⟨by omega,fun e=>by have:=(hW.row.lt _ e).2;omega⟩
 generalize kL (f+1) (.node 8 x m  [t0,t1] )=OO at *;go_enter Tryz.func111,Tryz.ntmps111;go_wp2_with (fail);refine hL.mono ?_;clear hL;intro e w3 hl3;obtain ⟨rfl,hb3,bN⟩:=hl3.yes;clear hl3;have S3:=Wg.start (hB.trans (hb3.mono (ji hrl))) (hW.below hb3);have u0:=bN.cell 0 rfl;have u1:=bN.cell 1 rfl;have u2:=bN.cell 2 rfl;have u3:=bN.cell 3 rfl;have HQ:=HK.out _ S3.b0;obtain ⟨q0,q1,q2,q3,q4,q5,q6,q7⟩:=HQ;go_wp2_with (fail);refine (S3.wri (oPlace hr hP hO) l0 h0 (by simp only [jb,jd,je];push_cast;omega)).mono ?_;rintro e w5 (⟨hN,rfl,hb5⟩|⟨l5,v5,hs5,rfl,S5⟩)
 ·have HN:Hid (OO=none):=by show _=_;rw [HO.out,hN];rfl
  clear hN;go_wp2;refine ⟨rfl,?_⟩;rw [HN.out];exact ⟨rfl,(hb3.mono (ji hrl)).trans hb5⟩
 have hl5:=zcx hs5;have b5:=S5.box bN HNW.out.1 HNW.out.2;have u1:=b5.cell 1 rfl;have u2:=b5.cell 2 rfl;have u3:=b5.cell 3 rfl;have HQ:=HK.out _ S5.b0;go_wp2_with (fail);refine (S5.put ⟨#[61]⟩ (by simp only [jb,jd,je];omega)).mono ?_;rintro e w7 ⟨rfl,v7,S7⟩;have b7:=S7.box bN HNW.out.1 HNW.out.2;have u1:=b7.cell 1 rfl;have u2:=b7.cell 2 rfl;have u3:=b7.cell 3 rfl;have HQ:=HK.out _ S7.b0;obtain ⟨q0,q1,q2,q3,q4,q5,q6,q7⟩:=HQ;go_wp2_with (fail);refine (S7.wri (oExpr hO) l1 h1 (by simp only [jb,jd,je];push_cast;omega)).mono ?_;rintro e w9 (⟨hN,rfl,hb9⟩|⟨l9,v9,hs9,rfl,S9⟩)
 ·have HN:Hid (OO=none):=by show _=_;rw [HO.out,hs5,jf,hN];rfl
  clear hN;go_wp2;refine ⟨rfl,?_⟩;rw [HN.out];exact ⟨rfl,(hb3.mono (ji hrl)).trans hb9⟩
 have hl9:=vM f 0 _ _ hs9;have b9:=S9.box bN HNW.out.1 HNW.out.2;have u1:=b9.cell 1 rfl;have u2:=b9.cell 2 rfl;have u3:=b9.cell 3 rfl;have HQ:=HK.out _ S9.b0;go_wp2_with (fail);refine (S9.put ⟨#[59]⟩ (by simp only [jb,jd,je];omega)).mono ?_;rintro e w11 ⟨rfl,v11,S11⟩;have b11:=S11.box bN HNW.out.1 HNW.out.2;have u1:=b11.cell 1 rfl;have u2:=b11.cell 2 rfl;have u3:=b11.cell 3 rfl;have HQ:=HK.out _ S11.b0;go_wp2
 go_end0
 rw [HO.out,hs5,jf,hs9];exact S11.done hb3 (ji hrl)
theorem zfn {t0 t1:Tree} {ks:List Tree} {g o:Nat} (hg:g<r) (h:kY (·<r) w0 (t0 :: t1 :: ks) g o):[t0]≠[]->∃ gb og,(some ⟨g,o,none⟩:Option Addr)=some ⟨gb,og,none⟩/\gb<r/\kY (·<r) w0 [t0] gb og:=fun _=>⟨g,o,rfl,hg,zec 1 h⟩
theorem zzh (hr:w0.heap.size=r) (hP:PH w0) (hO:xK w0 r (kD f) (okN f)) (hBl:Wri w0 r 96 (kS f) (okN f)) (x:ByteArray) (m:Int) (t0 t1:Tree) (nv:Value) (hl:kC (·<r) w0 (.node 11 x m [t0,t1]) nv) (h0:okN f t0) (h1:okN f t1) (hx:x.size<4611686018427387904) (hlk:lookK kQ 11 x m 2=true) (w:World) (v:Value) (ws:List ByteArray) (hB:Below r w0 w) (hW:WR w r v ws) (hn:(ws.length:Int)+10*(kB t0+kB t1+1)<=800000) : Calls Tryz.prog 111 #[.pointer (some ⟨r,0,none⟩),nv] w (WO r w v ws (kL (f+1) (.node 11 x m [t0,t1]))):=by
 have c24:=kc25;have hmf:∀ (fn:Fn) (first cap:Array Value) (w:World),(Instr.makeFunc fn first cap).run Tryz.prog w=.ok (.func fn first cap) w:=fun _ _ _ _=>rfl
 have hrl:=hW.lt;have p0:=kR t0;have p1:=kR t1;obtain ⟨g,o,c,ka,xa,ma,aa,na,ca,kb,xb,mb,ab,nb,cb,rfl,⟨hc2,hg,hat⟩,l0,l1,hk⟩:=zc1 hl;have HK:=show Hid _ from hk
 have hL:=xZ hr hP hB kQ 11 m x (some ⟨g,o,none⟩) 2 c hx (by decide) (by decide) (fun i hi=>by simp [kQ] at hi;omega);have HO:Hid (kL (f+1) (.node 11 x m [t0,t1])=(kW (kD f 0) [t0]).bind fun c=>(kS f t1).bind fun b=>some ([⟨#[119,104,105,108,101]⟩]++c++b)):=by show _=_;unfold kL;rw [jv (show kI kQ (.node 11 x m [t0,t1])=true from hlk)];rfl
 rw [hlk] at hL;simp only [kQ,List.map_cons,List.map_nil,jd,je,Nat.zero_add,Nat.reduceAdd] at hL;clear hl hk hlk;have hc1:1<=c:=by omega
 have HNW:Hid (w.heap.size≠r/\v.ownBlock≠some w.heap.size):=⟨by omega,fun e=>by have:=(hW.row.lt _ e).2;omega⟩
 generalize kL (f+1) (.node 11 x m  [t0,t1] )=OO at *;go_enter Tryz.func111,Tryz.ntmps111;go_wp2_with (fail);refine hL.mono ?_;clear hL;intro e w3 hl3;obtain ⟨rfl,hb3,bN⟩:=hl3.yes;clear hl3;have S3:=Wg.start (hB.trans (hb3.mono (ji hrl))) (hW.below hb3);have u0:=bN.cell 0 rfl;have u1:=bN.cell 1 rfl;have u2:=bN.cell 2 rfl;have u3:=bN.cell 3 rfl;have HQ:=HK.out _ S3.b0;go_wp2_with (fail);refine (S3.put ⟨#[119,104,105,108,101]⟩ (by simp only [jb,jd,je];omega)).mono ?_;rintro e w5 ⟨rfl,v5,S5⟩;have b5:=S5.box bN HNW.out.1 HNW.out.2;have u1:=b5.cell 1 rfl;have u2:=b5.cell 2 rfl;have u3:=b5.cell 3 rfl;have HQ:=HK.out _ S5.b0;go_wp2_with (fail);refine (S5.items hr hO [t0] (some ⟨g,o,none⟩) c (by simp) (zfn hg hat) (fun t ht=>by rw [jy.1 ht];exact h0) (by rw [show kA [t0]=kB t0 from by simp [kA] ];simp only [jb,jd,je];push_cast;omega)).mono ?_;rintro e w7 (⟨hN,rfl,hb7⟩|⟨l7,v7,hs7,rfl,S7⟩)
 ·have HN:Hid (OO=none):=by show _=_;rw [HO.out,hN];rfl
  clear hN;go_wp2;refine ⟨rfl,?_⟩;rw [HN.out];exact ⟨rfl,(hb3.mono (ji hrl)).trans hb7⟩
 have hl7:=bU (fun t o e=>vM f 0 t o e) hs7;have b7:=S7.box bN HNW.out.1 HNW.out.2;have u1:=b7.cell 1 rfl;have u2:=b7.cell 2 rfl;have u3:=b7.cell 3 rfl;have HQ:=HK.out _ S7.b0;rw [show kA [t0]=kB t0 from by simp [kA] ] at hl7;obtain ⟨q0,q1,q2,q3,q4,q5,q6,q7⟩:=HQ;go_wp2_with (fail);refine (S7.wri hBl l1 h1 (by simp only [jb,jd,je];push_cast;omega)).mono ?_;rintro e w9 (⟨hN,rfl,hb9⟩|⟨l9,v9,hs9,rfl,S9⟩)
 ·have HN:Hid (OO=none):=by show _=_;rw [HO.out,hs7,jf,hN];rfl
  clear hN;go_wp2;refine ⟨rfl,?_⟩;rw [HN.out];exact ⟨rfl,(hb3.mono (ji hrl)).trans hb9⟩
 have hl9:=(fQ f).bk _ _ hs9;have b9:=S9.box bN HNW.out.1 HNW.out.2;have u1:=b9.cell 1 rfl;have u2:=b9.cell 2 rfl;have u3:=b9.cell 3 rfl;have HQ:=HK.out _ S9.b0;go_wp2
 go_end0
 rw [HO.out,hs7,jf,hs9];exact S9.done hb3 (ji hrl)
end
section
variable {w0:World} {r f:Nat}
theorem zwl (hr:w0.heap.size=r) (hO:xK w0 r (kD f) (okN f)) (hBl:Wri w0 r 96 (kS f) (okN f)) (x:ByteArray) (m:Int) (t0 t1:Tree) (nv:Value) (hl:kC (·<r) w0 (.node 10 x m [t0,t1]) nv) (h0:okN f t0) (h1:okN f t1) (OO:Option (List ByteArray)) (HO:Hid (OO=(kW (kD f 0) [t0]).bind fun c=>(kS f t1).bind fun b=>some ([⟨#[105,102]⟩]++c++b))) (w:World) (v:Value) (ws:List ByteArray) (hB:Below r w0 w) (hW:WR w r v ws) (hn:(ws.length:Int)+10*(kB t0+kB t1+1)<=800000) : Calls Tryz.prog 123 #[.pointer (some ⟨r,0,none⟩),nv] w (WO r w v ws OO):=by
 have c24:=kc25;have hmf:∀ (fn:Fn) (first cap:Array Value) (w:World),(Instr.makeFunc fn first cap).run Tryz.prog w=.ok (.func fn first cap) w:=fun _ _ _ _=>rfl
 have hrl:=hW.lt;have p0:=kR t0;have p1:=kR t1;obtain ⟨g,o,c,ka,xa,ma,aa,na,ca,kb,xb,mb,ab,nb,cb,rfl,⟨hc2,hg,hat⟩,l0,l1,hk⟩:=zc1 hl;simp only [jd,je,Nat.zero_add,Nat.reduceAdd] at hc2 |-;have HK:=show Hid _ from hk
 have hc1:1<=c:=by omega
 have hb3:=(Below.refl w.heap.size w).alloc (jE _) (.cells #[.int .i64 10,.string x,.int .i64 m,.slice (some ⟨g,o,none⟩) 2 c] 25);have bN:=kJ.new w #[.int .i64 10,.string x,.int .i64 m,.slice (some ⟨g,o,none⟩) 2 c] 25;have HNW:Hid (w.heap.size≠r/\v.ownBlock≠some w.heap.size):=⟨by omega,fun e=>by have:=(hW.row.lt _ e).2;omega⟩
 have S3:=Wg.start (hB.trans (hb3.mono (ji hrl))) (hW.below hb3);have hC0:=S3.put ⟨#[105,102]⟩ (by simp only [jb,jd,je];omega);rw [jO] at hC0;clear hl hk;go_enter Tryz.func123,Tryz.ntmps123;go_wp2_with (fail);refine (hC0).mono ?_;rintro e w5 ⟨rfl,v5,S5⟩;have b5:=S5.box bN HNW.out.1 HNW.out.2;have u1:=b5.cell 1 rfl;have u2:=b5.cell 2 rfl;have u3:=b5.cell 3 rfl;have HQ:=HK.out _ S5.b0;go_wp2_with (fail);refine (S5.items hr hO [t0] (some ⟨g,o,none⟩) c (by simp) (zfn hg hat) (fun t ht=>by rw [jy.1 ht];exact h0) (by rw [show kA [t0]=kB t0 from by simp [kA] ];simp only [jb,jd,je];push_cast;omega)).mono ?_;rintro e w7 (⟨hN,rfl,hb7⟩|⟨l7,v7,hs7,rfl,S7⟩)
 ·have HN:Hid (OO=none):=by show _=_;rw [HO.out,hN];rfl
  clear hN;go_wp2;refine ⟨rfl,?_⟩;rw [HN.out];exact ⟨rfl,(hb3.mono (ji hrl)).trans hb7⟩
 have hl7:=bU (fun t o e=>vM f 0 t o e) hs7;have b7:=S7.box bN HNW.out.1 HNW.out.2;have u1:=b7.cell 1 rfl;have u2:=b7.cell 2 rfl;have u3:=b7.cell 3 rfl;have HQ:=HK.out _ S7.b0;rw [show kA [t0]=kB t0 from by simp [kA] ] at hl7;obtain ⟨q0,q1,q2,q3,q4,q5,q6,q7⟩:=HQ;go_wp2_with (fail);refine (S7.wri hBl l1 h1 (by simp only [jb,jd,je];push_cast;omega)).mono ?_;rintro e w9 (⟨hN,rfl,hb9⟩|⟨l9,v9,hs9,rfl,S9⟩)
 ·have HN:Hid (OO=none):=by show _=_;rw [HO.out,hs7,jf,hN];rfl
  clear hN;go_wp2;refine ⟨rfl,?_⟩;rw [HN.out];exact ⟨rfl,(hb3.mono (ji hrl)).trans hb9⟩
 have hl9:=(fQ f).bk _ _ hs9;have b9:=S9.box bN HNW.out.1 HNW.out.2;have u1:=b9.cell 1 rfl;have u2:=b9.cell 2 rfl;have u3:=b9.cell 3 rfl;have HQ:=HK.out _ S9.b0;go_wp2
 go_end0
 rw [HO.out,hs7,jf,hs9];exact S9.done hb3 (ji hrl)
theorem zw4 (hr:w0.heap.size=r) (hO:xK w0 r (kD f) (okN f)) (hBl:Wri w0 r 96 (kS f) (okN f)) (x:ByteArray) (m:Int) (t0 t1 t2:Tree) (nv:Value) (hl:kC (·<r) w0 (.node 10 x m [t0,t1,t2]) nv) (h0:okN f t0) (h1:okN f t1) (h2:okN f t2) (OO:Option (List ByteArray)) (HO:Hid (OO=(kW (kD f 0) [t0]).bind fun c=>(kS f t1).bind fun b=>(kS f t2).bind fun d=>some ([⟨#[105,102]⟩]++c++b++[⟨#[101,108,115,101]⟩]++d))) (w:World) (v:Value) (ws:List ByteArray) (hB:Below r w0 w) (hW:WR w r v ws) (hn:(ws.length:Int)+10*(kB t0+kB t1+kB t2+1)<=800000) : Calls Tryz.prog 123 #[.pointer (some ⟨r,0,none⟩),nv] w (WO r w v ws OO):=by
 have c24:=kc25;have hmf:∀ (fn:Fn) (first cap:Array Value) (w:World),(Instr.makeFunc fn first cap).run Tryz.prog w=.ok (.func fn first cap) w:=fun _ _ _ _=>rfl
 have hrl:=hW.lt;have p0:=kR t0;have p1:=kR t1;have p2:=kR t2;obtain ⟨g,o,c,ka,xa,ma,aa,na,ca,kb,xb,mb,ab,nb,cb,rfl,⟨hc2,hg,hat⟩,l0,l1,hk⟩:=zc1 hl;simp only [jd,je,Nat.zero_add,Nat.reduceAdd] at hc2 |-;have HK:=show Hid _ from hk
 obtain ⟨kc,xc,mc,ac,nc,cc,l2,hk2⟩:=cE hg hat 2 (by simp);simp only [jI,List.getElem_cons_succ,Nat.reduceMul] at l2 hk2;have HK2:=show Hid _ from hk2
 have hc1:1<=c:=by omega
 have hb3:=(Below.refl w.heap.size w).alloc (jE _) (.cells #[.int .i64 10,.string x,.int .i64 m,.slice (some ⟨g,o,none⟩) 3 c] 25);have bN:=kJ.new w #[.int .i64 10,.string x,.int .i64 m,.slice (some ⟨g,o,none⟩) 3 c] 25;have HNW:Hid (w.heap.size≠r/\v.ownBlock≠some w.heap.size):=⟨by omega,fun e=>by have:=(hW.row.lt _ e).2;omega⟩
 have S3:=Wg.start (hB.trans (hb3.mono (ji hrl))) (hW.below hb3);have hC0:=S3.put ⟨#[105,102]⟩ (by simp only [jb,jd,je];omega);rw [jO] at hC0;clear hl hk hk2;go_enter Tryz.func123,Tryz.ntmps123;go_wp2_with (fail);refine (hC0).mono ?_;rintro e w5 ⟨rfl,v5,S5⟩;have b5:=S5.box bN HNW.out.1 HNW.out.2;have u1:=b5.cell 1 rfl;have u2:=b5.cell 2 rfl;have u3:=b5.cell 3 rfl;have HQ:=HK.out _ S5.b0;go_wp2_with (fail);refine (S5.items hr hO [t0] (some ⟨g,o,none⟩) c (by simp) (zfn hg hat) (fun t ht=>by rw [jy.1 ht];exact h0) (by rw [show kA [t0]=kB t0 from by simp [kA] ];simp only [jb,jd,je];push_cast;omega)).mono ?_;rintro e w7 (⟨hN,rfl,hb7⟩|⟨l7,v7,hs7,rfl,S7⟩)
 ·have HN:Hid (OO=none):=by show _=_;rw [HO.out,hN];rfl
  clear hN;go_wp2;refine ⟨rfl,?_⟩;rw [HN.out];exact ⟨rfl,(hb3.mono (ji hrl)).trans hb7⟩
 have hl7:=bU (fun t o e=>vM f 0 t o e) hs7;have b7:=S7.box bN HNW.out.1 HNW.out.2;have u1:=b7.cell 1 rfl;have u2:=b7.cell 2 rfl;have u3:=b7.cell 3 rfl;have HQ:=HK.out _ S7.b0;rw [show kA [t0]=kB t0 from by simp [kA] ] at hl7;obtain ⟨q0,q1,q2,q3,q4,q5,q6,q7⟩:=HQ;go_wp2_with (fail);refine (S7.wri hBl l1 h1 (by simp only [jb,jd,je];push_cast;omega)).mono ?_;rintro e w9 (⟨hN,rfl,hb9⟩|⟨l9,v9,hs9,rfl,S9⟩)
 ·have HN:Hid (OO=none):=by show _=_;rw [HO.out,hs7,jf,hN];rfl
  clear hN;go_wp2;refine ⟨rfl,?_⟩;rw [HN.out];exact ⟨rfl,(hb3.mono (ji hrl)).trans hb9⟩
 have hl9:=(fQ f).bk _ _ hs9;have b9:=S9.box bN HNW.out.1 HNW.out.2;have u1:=b9.cell 1 rfl;have u2:=b9.cell 2 rfl;have u3:=b9.cell 3 rfl;have HQ:=HK.out _ S9.b0;go_wp2_with (fail);refine (S9.put ⟨#[101,108,115,101]⟩ (by simp only [jb,jd,je];omega)).mono ?_;rintro e w11 ⟨rfl,v11,S11⟩;have b11:=S11.box bN HNW.out.1 HNW.out.2;have u1:=b11.cell 1 rfl;have u2:=b11.cell 2 rfl;have u3:=b11.cell 3 rfl;have HQ:=HK.out _ S11.b0;obtain ⟨q0,q1,q2,q3⟩:=HK2.out _ S11.b0;go_wp2_with (fail);refine (S11.wri hBl l2 h2 (by simp only [jb,jd,je];push_cast;omega)).mono ?_;rintro e w13 (⟨hN,rfl,hb13⟩|⟨l13,v13,hs13,rfl,S13⟩)
 ·have HN:Hid (OO=none):=by show _=_;rw [HO.out,hs7,jf,hs9,jf,hN];rfl
  clear hN;go_wp2;refine ⟨rfl,?_⟩;rw [HN.out];exact ⟨rfl,(hb3.mono (ji hrl)).trans hb13⟩
 have hl13:=(fQ f).bk _ _ hs13;have b13:=S13.box bN HNW.out.1 HNW.out.2;have u1:=b13.cell 1 rfl;have u2:=b13.cell 2 rfl;have u3:=b13.cell 3 rfl;have HQ:=HK.out _ S13.b0;go_wp2
 go_end0
 rw [HO.out,hs7,jf,hs9,jf,hs13];exact S13.done hb3 (ji hrl)
def zom:Tree->Prop
 | .node k _ _ _=>k=10
theorem zc4 {kinds:List Int} {k:Int} {x:ByteArray} {m:Int} {n:Nat} (h:lookK kinds k x m n=true):k∈kinds/\(qT k).2.1<=m/\m<=(qT k).2.2.1/\(qT k).2.2.2.1<=n/\(n:Int)<=(qT k).2.2.2.2/\xB x (qT k).1=true:=by
 unfold lookK at h;simp only [jj,jl] at h;obtain ⟨⟨⟨⟨⟨hc,h1⟩,h2⟩,h3⟩,h4⟩,h5⟩:=h;exact ⟨List.contains_iff_mem.1 hc,h1,h2,h3,h4,h5⟩
theorem zrx:∀ (ks:List Tree),(2:Int)<=ks.length->(ks.length:Int)<=3->(∃ t0 t1,ks=[t0,t1])\/∃ t0 t1 t2,ks=[t0,t1,t2]
 | [t0,t1],_,_=>.inl ⟨t0,t1,rfl⟩
 | [t0,t1,t2],_,_=>.inr ⟨t0,t1,t2,rfl⟩
 | [],a,_=>by simp at a
 | [_],a,_=>by simp at a
 | _ :: _ :: _ :: _ :: _,_,b=>by simp only [jd] at b;omega
theorem zwh (hr:w0.heap.size=r) (hO:xK w0 r (kD f) (okN f)) (hBl:Wri w0 r 96 (kS f) (okN f)):Wri w0 r 123 (kL (f+1)) (fun t=>okN (f+1) t/\zom t/\kI kQ t=true):=by
 intro t nv hl ⟨hq,hi,hlk⟩ w v ws hB hW hn;obtain ⟨k,x,m,ks⟩:=t;obtain rfl:k=10:=hi;obtain ⟨-,-,-,h3,h4,-⟩:=zc4 (show lookK kQ 10 x m ks.length=true from hlk);rw [vA] at hn;rcases zrx ks h3 h4 with ⟨t0,t1,rfl⟩|⟨t0,t1,t2,rfl⟩
 ·exact zwl hr hO hBl x m t0 t1 nv hl (hq.2 t0 (by simp)) (hq.2 t1 (by simp)) _ (by show _=_;unfold kL;rw [jv hlk];rfl) w v ws hB hW (by simp only [kA] at hn;omega)
 ·exact zw4 hr hO hBl x m t0 t1 t2 nv hl (hq.2 t0 (by simp)) (hq.2 t1 (by simp)) (hq.2 t2 (by simp)) _ (by show _=_;unfold kL;rw [jv hlk];rfl) w v ws hB hW (by simp only [kA] at hn;omega)
theorem zwd (hr:w0.heap.size=r) (hP:PH w0) (k:Int) (x:ByteArray) (m:Int) (ks:List Tree) (nv:Value) (hl:kC (·<r) w0 (.node k x m ks) nv) (hx:x.size<4611686018427387904) (hlk:lookK kQ k x m ks.length=false) (w:World) (v:Value) (ws:List ByteArray) (hB:Below r w0 w) (hW:WR w r v ws) : Calls Tryz.prog 111 #[.pointer (some ⟨r,0,none⟩),nv] w (WO r w v ws none):=by
 have c24:=kc25;have hrl:=hW.lt;have hl':=hl;unfold kC at hl';obtain ⟨a,c,rfl,⟨hk1,hk2⟩,-⟩:=hl';have hL:=xZ hr hP hB kQ k m x a ks.length c hx hk1 (by decide) (fun i hi=>by simp [kQ] at hi;omega);rw [hlk] at hL;simp only [kQ,List.map_cons,List.map_nil,jd,je,Nat.zero_add,Nat.reduceAdd] at hL;clear hl hlk;go_enter Tryz.func111,Tryz.ntmps111;go_wp2_with (fail);refine hL.mono ?_;clear hL;rintro e w3 (⟨-,rfl,hb3⟩|⟨hf,-⟩);·go_wp2;exact ⟨rfl,rfl,hb3.mono (ji hrl)⟩
 ·cases hf
theorem zzc (hr:w0.heap.size=r) (hP:PH w0) (hCh:Wri w0 r 123 (kL (f+1)) (fun t=>okN (f+1) t/\zom t/\kI kQ t=true)) (x:ByteArray) (m:Int) (ks:List Tree) (nv:Value) (hl:kC (·<r) w0 (.node 10 x m ks) nv) (hq:okN (f+1) (.node 10 x m ks)) (hlk:lookK kQ 10 x m ks.length=true) (w:World) (v:Value) (ws:List ByteArray) (hB:Below r w0 w) (hW:WR w r v ws) (hn:(ws.length:Int)+10*kB (.node 10 x m ks)<=800000) : Calls Tryz.prog 111 #[.pointer (some ⟨r,0,none⟩),nv] w (WO r w v ws (kL (f+1) (.node 10 x m ks))):=by
 have hx:=hq.1;have hlb:kI kQ (.node 10 x m ks)=true:=hlk;have c24:=kc25;have hrl:=hW.lt;have hl':=hl;unfold kC at hl';obtain ⟨a,c,rfl,⟨hk1,hk2⟩,-⟩:=hl';have hL:=xZ hr hP hB kQ 10 m x a ks.length c hx hk1 (by decide) (fun i hi=>by simp [kQ] at hi;omega);rw [hlk] at hL;simp only [kQ,List.map_cons,List.map_nil,jd,je,Nat.zero_add,Nat.reduceAdd] at hL;go_enter Tryz.func111,Tryz.ntmps111;go_wp2_with (fail);refine hL.mono ?_;clear hL;intro e w3 hl3;obtain ⟨rfl,hb3,bN⟩:=hl3.yes;clear hl3;have S3:=Wg.start (hB.trans (hb3.mono (ji hrl))) (hW.below hb3);have u0:=bN.cell 0 rfl;have u1:=bN.cell 1 rfl;have u2:=bN.cell 2 rfl;have u3:=bN.cell 3 rfl;have hC:=S3.wri hCh hl ⟨hq,rfl,hlb⟩ (by simpa using hn);generalize kL (f+1) (.node 10 x m ks)=OO at *;clear hl hlk hlb hq;go_wp2_with (fail);refine hC.mono ?_;clear hC;rintro e w5 (⟨rfl,rfl,hb5⟩|⟨l5,v5,rfl,rfl,S5⟩);·go_wp2;exact ⟨rfl,rfl,(hb3.mono (ji hrl)).trans hb5⟩
 ·go_wp2
  go_end0
  exact S5.done hb3 (ji hrl)
theorem yag (hr:w0.heap.size=r) (hP:PH w0) (hO:xK w0 r (kD f) (okN f)) (hBl:Wri w0 r 96 (kS f) (okN f)):Wri w0 r 111 (kL (f+1)) (okN (f+1)):=by
 intro t nv hl hq w v ws hB hW hn;obtain ⟨k,x,m,ks⟩:=t;have hn':=hn;rw [vA] at hn
 cases hlk:lookK kQ k x m ks.length with
 | false =>
  have e:kL (f+1) (.node k x m ks)=none:=by unfold kL;rw [ju (by rw [show kI kQ (.node k x m ks)=lookK kQ k x m ks.length from rfl,hlk];simp)]
  rw [e]
  exact zwd hr hP k x m ks nv hl hq.1 hlk w v ws hB hW
 | true =>
  obtain ⟨hk,-,-,h3,h4,-⟩:=zc4 hlk;have hk:k=7\/k=8\/k=9\/k=10\/k=11\/k=12\/k=13\/k=14:=by simpa [kQ] using hk
  have c1:∀ t0,kA [t0]=kB t0:=fun t0=>by simp [kA]
  have c2:∀ t0 t1,kA [t0,t1]=kB t0+kB t1:=fun t0 t1=>by simp [kA]
  rcases hk with rfl | rfl | rfl | rfl | rfl | rfl | rfl | rfl
  ·obtain ⟨t0,rfl⟩:=zau ks h3 h4;exact yar hr hP hO x m t0 nv hl (hq.2 t0 (by simp)) hq.1 hlk w v ws hB hW (by rw [c1] at hn;omega)
  ·obtain ⟨t0,t1,rfl⟩:=zgf ks h3 h4;exact yax hr hP hO x m t0 t1 nv hl (hq.2 t0 (by simp)) (hq.2 t1 (by simp)) hq.1 hlk w v ws hB hW (by rw [c2] at hn;omega)
  ·obtain ⟨t0,rfl⟩:=zau ks h3 h4;exact ya1 hr hP hO x m t0 nv hl (hq.2 t0 (by simp)) hq.1 hlk w v ws hB hW (by rw [c1] at hn;omega)
  ·exact zzc hr hP (zwh hr hO hBl) x m ks nv hl hq hlk w v ws hB hW hn'
  ·obtain ⟨t0,t1,rfl⟩:=zgf ks h3 h4;exact zzh hr hP hO hBl x m t0 t1 nv hl (hq.2 t0 (by simp)) (hq.2 t1 (by simp)) hq.1 hlk w v ws hB hW (by rw [c2] at hn;omega)
  ·obtain ⟨t0,rfl⟩:=zau ks h3 h4;exact zyh hr hP hO x m t0 nv hl (hq.2 t0 (by simp)) hq.1 hlk w v ws hB hW (by rw [c1] at hn;omega)
  ·obtain ⟨t0,rfl⟩:=zau ks h3 h4;exact zyd hr hP hO x m t0 nv hl (hq.2 t0 (by simp)) hq.1 hlk w v ws hB hW (by rw [c1] at hn;omega)
  ·obtain ⟨t0,rfl⟩:=zau ks h3 h4;exact zyt hr hP hO x m t0 nv hl (hq.2 t0 (by simp)) hq.1 hlk w v ws hB hW (by rw [c1] at hn;omega)
theorem zgb (hr:w0.heap.size=r) (hP:PH w0):∀ f,Wri w0 r 111 (kL f) (okN f)/\Wri w0 r 96 (kS f) (okN f)
 | 0=>⟨fun t nv hl hq=>hq.elim,fun t nv hl hq=>hq.elim⟩
 | f+1=>⟨yag hr hP (zm1 hr hP f) (zgb hr hP f).2,oBlock hr hP (zgb hr hP f).1⟩
end
section
variable {w0:World} {r f:Nat}
theorem zrh (hr:w0.heap.size=r) (hP:PH w0) (k:Int) (x:ByteArray) (m:Int) (a:Option Addr) (n c:Nat) (hx:x.size<4611686018427387904) (hk1:n<=4611686018427387904) (hlk:lookK [15] k x m n=false) (w:World) (v:Value) (ws:List ByteArray) (hB:Below r w0 w) (hW:WR w r v ws) : Calls Tryz.prog 75 #[.pointer (some ⟨r,0,none⟩),.agg #[.int .i64 k,.string x,.int .i64 m,.slice a n c]] w (WO r w v ws none):=by
 have c24:=kc25;have hrl:=hW.lt;have hL:=xZ hr hP hB [15] k m x a n c hx hk1 (by decide) (fun i hi=>by simp at hi;omega);rw [hlk] at hL;simp only [List.map_cons,List.map_nil,jd,je,Nat.zero_add] at hL;clear hlk;go_enter Tryz.func75,Tryz.ntmps75;go_wp2_with (fail);refine hL.mono ?_;clear hL;rintro e w3 (⟨-,rfl,hb3⟩|⟨hf,-⟩);·go_wp2;exact ⟨rfl,rfl,hb3.mono (ji hrl)⟩
 ·cases hf
theorem zn5 (hr:w0.heap.size=r) (hP:PH w0):Wri w0 r 75 xS (okN (f+1)):=by
 intro t nv hl hq w v ws hB hW hn;obtain ⟨k,x,m,ks⟩:=t;have p0:=kR (.node k x m ks);unfold kC at hl;obtain ⟨a,c,rfl,⟨hk1,hk2⟩,-⟩:=hl
 cases hlk:lookK [15] k x m ks.length with
 | false =>
  have e:xS (.node k x m ks)=none:=by unfold xS;dsimp only;rw [ju (by rw [show kI [15] (.node k x m ks)=lookK [15] k x m ks.length from rfl,hlk];simp)]
  rw [e]
  exact zrh hr hP k x m a _ c hq.1 hk1 hlk w v ws hB hW
 | true =>
  obtain ⟨hk,h1,h2,-⟩:=zc4 hlk;obtain rfl:k=15:=by simpa using hk
  have e:xS (.node 15 x m ks)=some [vW m]:=by unfold xS;dsimp only;rw [jv (show kI [15] (.node 15 x m ks)=true from hlk)]
  rw [e];exact zh8 hr hP hB hW m x a _ c hlk hq.1 hk1 ⟨h1,h2⟩ (by omega)
theorem cS:∀ m:Nat,m<=11->(bits BinOp.and IntKind.i64 m 2 != 0)=decide (m / 2 % 2=1)/\bits BinOp.and IntKind.i64 m 1=(m:Int) % 2/\bits BinOp.and IntKind.i64 m 12=((m / 4 % 4*4:Nat):Int):=by decide +kernel
def dK (f:Nat) (x:ByteArray) (m:Int) (ps:List Tree) (tb:Tree):Option (List ByteArray):=(kW yK ps).bind fun p=>(kS f tb).bind fun b=>some ([⟨#[112,114,111,99]⟩,x]++p++[kO (m % 2)]++xE m++b)
theorem Wg.params {w W:World} {v V:Value} {ws o:List ByteArray} (h:Wg w0 w r v ws o W V) (hr:w0.heap.size=r) (hP:PH w0) (ks:List Tree) (a:Option Addr) (c:Nat) (hl:ks.length<=4611686018427387904) (hlies:ks≠[]->∃ gb o,a=some ⟨gb,o,none⟩/\gb<r/\kY (·<r) w0 ks gb o) (hq:∀ t∈ks,okN (f+1) t) (hn:(ws.length:Int)+o.length+10*kA ks<=799998) : Calls Tryz.prog 94 #[.pointer (some ⟨r,0,none⟩),.slice a ks.length c,.func (.func 95) #[.pointer (some ⟨r,0,none⟩)] #[]] W (SO w0 w r v ws o (kW yK ks)) :=
 (zpq (zyr (f:=f) hr hP) (fun t o e=>by have:=zfy t o e;omega) ks a c hl hlies hq hr W V _ h.b0 h.wr (by rw [h.len];push_cast;omega)).mono fun e w' g=>h.wo g
theorem zv7 {ps:List Tree} {tb:Tree} {g o:Nat} (hg:g<r) (h:kY (·<r) w0 (ps++[tb]) g o):ps≠[]->∃ gb og,(some ⟨g,o,none⟩:Option Addr)=some ⟨gb,og,none⟩/\gb<r/\kY (·<r) w0 ps gb og:=fun _=>⟨g,o,rfl,hg,by have:=zec ps.length h;rwa [List.take_left] at this⟩
theorem oProc {q:Nat} (hr:w0.heap.size=r) (hP:PH w0) (x:ByteArray) (m:Nat) (hm:m<=11) (ps:List Tree) (tb:Tree) (g o c:Nat) (hg:g<r) (hc:ps.length+1<=c) (hcl:ps.length+1<=4611686018427387904) (hat:kY (·<r) w0 (ps++[tb]) g o) (hps:∀ t∈ps,okN (q+1) t) (htb:okN f tb) (w:World) (v:Value) (ws:List ByteArray) (hB:Below r w0 w) (hW:WR w r v ws) (hn:(ws.length:Int)+10*(kA ps+kB tb)+8<=800000) : Calls Tryz.prog 73 #[.pointer (some ⟨r,0,none⟩),.agg #[.int .i64 4,.string x,.int .i64 m,.slice (some ⟨g,o,none⟩) (ps.length+1) c]] w (WO r w v ws (dK f x m ps tb)):=by
 have c24:=kc25;have hmf:∀ (fn:Fn) (first cap:Array Value) (w:World),(Instr.makeFunc fn first cap).run Tryz.prog w=.ok (.func fn first cap) w:=fun _ _ _ _=>rfl
 have hrl:=hW.lt;have p0:=kX ps;have p1:=kR tb;obtain ⟨-,b1,b12⟩:=cS m hm;have B12:=show Hid _ from b12
 clear b12;obtain ⟨kb,xb,mb,ab,nb,cb,l1,hk⟩:=cE hg hat ps.length (by simp);rw [List.getElem_append_right (jE _)] at l1;simp only [Nat.sub_self,jI] at l1;have HK:=show Hid _ from hk
 have hb3:=(Below.refl w.heap.size w).alloc (jE _) (.cells #[.int .i64 4,.string x,.int .i64 m,.slice (some ⟨g,o,none⟩) (ps.length+1) c] 25);have bN:=kJ.new w #[.int .i64 4,.string x,.int .i64 m,.slice (some ⟨g,o,none⟩) (ps.length+1) c] 25;have HNW:Hid (w.heap.size≠r/\v.ownBlock≠some w.heap.size):=⟨by omega,fun e=>by have:=(hW.row.lt _ e).2;omega⟩
 have S3:=Wg.start (hB.trans (hb3.mono (ji hrl))) (hW.below hb3);have hC0:=S3.put2 ⟨#[112,114,111,99]⟩ x (by simp only [jb,jd,je];omega);rw [jO] at hC0;have HO:Hid (dK f x m ps tb=(kW yK ps).bind fun p=>(kS f tb).bind fun b=>some ([⟨#[112,114,111,99]⟩,x]++p++[kO ((m:Int) % 2)]++xE m++b)):=rfl;have hgl:=zmo m;generalize dK f x m ps tb=OO at *;clear hk;go_enter Tryz.func73,Tryz.ntmps73;go_wp2_with (fail);refine (hC0).mono ?_;rintro e w5 ⟨rfl,v5,S5⟩;have b5:=S5.box bN HNW.out.1 HNW.out.2;have u1:=b5.cell 1 rfl;have u2:=b5.cell 2 rfl;have u3:=b5.cell 3 rfl;have HQ:=HK.out _ S5.b0;go_wp2_with (fail);refine (S5.params (f:=q) hr hP ps (some ⟨g,o,none⟩) c (by omega) (zv7 hg hat) hps (by simp only [jb,jd,je];push_cast;omega)).mono ?_;rintro e w7 (⟨hN,rfl,hb7⟩|⟨l7,v7,hs7,rfl,S7⟩)
 ·have HN:Hid (OO=none):=by show _=_;rw [HO.out,hN];rfl
  clear hN;go_wp2;refine ⟨rfl,?_⟩;rw [HN.out];exact ⟨rfl,(hb3.mono (ji hrl)).trans hb7⟩
 have hl7:=bU zfy hs7;have b7:=S7.box bN HNW.out.1 HNW.out.2;have u1:=b7.cell 1 rfl;have u2:=b7.cell 2 rfl;have u3:=b7.cell 3 rfl;have HQ:=HK.out _ S7.b0;have hCl:=S7.label ((m:Int) % 2) (by simp only [jb,jd,je];omega);go_wp2_with (fail);refine (hCl).mono ?_;rintro e w9 ⟨rfl,v9,S9⟩;have b9:=S9.box bN HNW.out.1 HNW.out.2;have u1:=b9.cell 1 rfl;have u2:=b9.cell 2 rfl;have u3:=b9.cell 3 rfl;have HQ:=HK.out _ S9.b0;have HB:=show Hid _ from (zgb hr hP f).2
 have HG:Hid (xE m=if m / 4 % 4=1 then [⟨#[103,105,118,101,115]⟩,⟨#[108,111,119]⟩] else if m / 4 % 4=2 then [⟨#[103,105,118,101,115]⟩,⟨#[104,105,103,104]⟩] else []):=by show _=_;unfold xE;rw [Int.toNat_natCast]
 by_cases h4:m / 4 % 4=1
 ·have e12:bits BinOp.and IntKind.i64 m 12=4:=by rw [B12.out,h4];rfl
  rw [jv h4] at HG;rw [HG.out] at HO;clear h4 B12 HG;go_wp2_with (fail);refine (S9.put2 ⟨#[103,105,118,101,115]⟩ ⟨#[108,111,119]⟩ (by simp only [jb,jd,je];omega)).mono ?_;rintro e w11 ⟨rfl,v11,S11⟩;have b11:=S11.box bN HNW.out.1 HNW.out.2;have u1:=b11.cell 1 rfl;have u2:=b11.cell 2 rfl;have u3:=b11.cell 3 rfl;have HQ:=HK.out _ S11.b0;obtain ⟨q0,q1,q2,q3⟩:=HQ;go_wp2_with (fail);refine (S11.wri HB.out l1 htb (by simp only [jb,jd,je];push_cast;omega)).mono ?_;rintro e w13 (⟨hN,rfl,hb13⟩|⟨l13,v13,hs13,rfl,S13⟩)
  ·have HN:Hid (OO=none):=by show _=_;rw [HO.out,hs7,jf,hN];rfl
   clear hN;go_wp2;refine ⟨rfl,?_⟩;rw [HN.out];exact ⟨rfl,(hb3.mono (ji hrl)).trans hb13⟩
  have hl13:=(fQ f).bk _ _ hs13;have b13:=S13.box bN HNW.out.1 HNW.out.2;have u1:=b13.cell 1 rfl;have u2:=b13.cell 2 rfl;have u3:=b13.cell 3 rfl;have HQ:=HK.out _ S13.b0;go_wp2
  go_end0
  rw [HO.out,hs7,jf,hs13];exact S13.done hb3 (ji hrl)
 by_cases h8:m / 4 % 4=2
 ·have e12:bits BinOp.and IntKind.i64 m 12=8:=by rw [B12.out,h8];rfl
  rw [ju h4,jv h8] at HG;rw [HG.out] at HO;clear h4 h8 B12 HG;go_wp2_with (fail);refine (S9.put2 ⟨#[103,105,118,101,115]⟩ ⟨#[104,105,103,104]⟩ (by simp only [jb,jd,je];omega)).mono ?_;rintro e w11 ⟨rfl,v11,S11⟩;have b11:=S11.box bN HNW.out.1 HNW.out.2;have u1:=b11.cell 1 rfl;have u2:=b11.cell 2 rfl;have u3:=b11.cell 3 rfl;have HQ:=HK.out _ S11.b0;obtain ⟨q0,q1,q2,q3⟩:=HQ;go_wp2_with (fail);refine (S11.wri HB.out l1 htb (by simp only [jb,jd,je];push_cast;omega)).mono ?_;rintro e w13 (⟨hN,rfl,hb13⟩|⟨l13,v13,hs13,rfl,S13⟩)
  ·have HN:Hid (OO=none):=by show _=_;rw [HO.out,hs7,jf,hN];rfl
   clear hN;go_wp2;refine ⟨rfl,?_⟩;rw [HN.out];exact ⟨rfl,(hb3.mono (ji hrl)).trans hb13⟩
  have hl13:=(fQ f).bk _ _ hs13;have b13:=S13.box bN HNW.out.1 HNW.out.2;have u1:=b13.cell 1 rfl;have u2:=b13.cell 2 rfl;have u3:=b13.cell 3 rfl;have HQ:=HK.out _ S13.b0;go_wp2
  go_end0
  rw [HO.out,hs7,jf,hs13];exact S13.done hb3 (ji hrl)
 ·have e4:(bits BinOp.and IntKind.i64 m 12==4)=false:=by rw [B12.out];exact beq_eq_false_iff_ne.2 (by omega)
  have e8:(bits BinOp.and IntKind.i64 m 12==8)=false:=by rw [B12.out];exact beq_eq_false_iff_ne.2 (by omega)
  rw [ju h4,ju h8] at HG;rw [HG.out] at HO;have n4:¬ bits BinOp.and IntKind.i64 m 12=4:=beq_eq_false_iff_ne.1 e4;have n8:¬ bits BinOp.and IntKind.i64 m 12=8:=beq_eq_false_iff_ne.1 e8;clear h4 h8 B12 HG;obtain ⟨q0,q1,q2,q3⟩:=HQ;go_wp2_with (fail);refine (S9.wri HB.out l1 htb (by simp only [jb,jd,je];push_cast;omega)).mono ?_;rintro e w13 (⟨hN,rfl,hb13⟩|⟨l13,v13,hs13,rfl,S13⟩)
  ·have HN:Hid (OO=none):=by show _=_;rw [HO.out,hs7,jf,hN];rfl
   clear hN;go_wp2;refine ⟨rfl,?_⟩;rw [HN.out];exact ⟨rfl,(hb3.mono (ji hrl)).trans hb13⟩
  have hl13:=(fQ f).bk _ _ hs13;have b13:=S13.box bN HNW.out.1 HNW.out.2;have u1:=b13.cell 1 rfl;have u2:=b13.cell 2 rfl;have u3:=b13.cell 3 rfl;have HQ:=HK.out _ S13.b0;go_wp2
  go_end0
  rw [HO.out,hs7,jf,hs13];have:=S13.done hb3 (ji hrl);rw [List.append_nil];exact this
end
section
variable {w0:World} {r f:Nat}
theorem zxy (hr:w0.heap.size=r) (hP:PH w0) (k:Int) (x:ByteArray) (m:Int) (a:Option Addr) (n c:Nat) (hx:x.size<4611686018427387904) (hk1:n<=4611686018427387904) (hlk:lookK [3,4] k x m n=false) (w:World) (v:Value) (ws:List ByteArray) (hB:Below r w0 w) (hW:WR w r v ws) : Calls Tryz.prog 45 #[.pointer (some ⟨r,0,none⟩),.agg #[.int .i64 k,.string x,.int .i64 m,.slice a n c]] w (WO r w v ws none):=by
 have c24:=kc25;have hrl:=hW.lt;have hL:=xZ hr hP hB [3,4] k m x a n c hx hk1 (by decide) (fun i hi=>by simp at hi;omega);rw [hlk] at hL;simp only [List.map_cons,List.map_nil,jd,je,Nat.zero_add] at hL;clear hlk;go_enter Tryz.func45,Tryz.ntmps45;go_wp2_with (fail);refine hL.mono ?_;clear hL;rintro e w3 (⟨-,rfl,hb3⟩|⟨hf,-⟩);·go_wp2;exact ⟨rfl,rfl,hb3.mono (ji hrl)⟩
 ·cases hf
theorem zl4 {t:Tree} {l:List ByteArray} (h:xS t=some l):(l.length:Int)=1:=by
 obtain ⟨k,x,m,ks⟩:=t;unfold xS at h;dsimp only at h;by_cases hl:kI [15] (.node k x m ks)=true;·rw [jv hl] at h;obtain rfl:=jw h;rfl
 ·rw [ju hl] at h;cases h
theorem ya4 (hr:w0.heap.size=r) (hP:PH w0) (x:ByteArray) (m:Nat) (hm:m<=11) (hpub:¬ m / 2 % 2=1) (nv:Value) (hl:kC (·<r) w0 (.node 3 x m []) nv) (hx:x.size<4611686018427387904) (hlk:lookK [3,4] 3 x m 0=true) (OO:Option (List ByteArray)) (HO:Hid (OO=some ([kO ((m:Int) % 2)]++[x]++[⟨#[59]⟩]))) (w:World) (v:Value) (ws:List ByteArray) (hB:Below r w0 w) (hW:WR w r v ws) (hn:(ws.length:Int)+10*(1)<=800000) : Calls Tryz.prog 45 #[.pointer (some ⟨r,0,none⟩),nv] w (WO r w v ws OO):=by
 have c24:=kc25;have hrl:=hW.lt;obtain ⟨b2,b1,-⟩:=cS m hm;rw [decide_eq_false hpub] at b2;have hl':=hl;unfold kC at hl';obtain ⟨a,c,rfl,hk,-⟩:=hl';have HK:Hid (∀ W:World,Below r w0 W->True):=fun _ _=>trivial
 have hL:=xZ hr hP hB [3,4] 3 m x a 0 c hx (by decide) (by decide) (fun i hi=>by simp at hi;omega);clear hk;rw [hlk] at hL;simp only [List.map_cons,List.map_nil,jd,je,Nat.zero_add] at hL |-;clear hl hlk hpub;have HNW:Hid (w.heap.size≠r/\v.ownBlock≠some w.heap.size):=⟨by omega,fun e=>by have:=(hW.row.lt _ e).2;omega⟩
 go_enter Tryz.func45,Tryz.ntmps45;go_wp2_with (fail);refine hL.mono ?_;clear hL;intro e w3 hl3;obtain ⟨rfl,hb3,bN⟩:=hl3.yes;clear hl3;have S3:=Wg.start (hB.trans (hb3.mono (ji hrl))) (hW.below hb3);have u0:=bN.cell 0 rfl;have u1:=bN.cell 1 rfl;have u2:=bN.cell 2 rfl;have u3:=bN.cell 3 rfl;have HQ:=HK.out _ S3.b0;have hCl:=S3.label ((m:Int) % 2) (by simp only [jb,jd,je];omega);go_wp2_with (fail);refine (hCl).mono ?_;rintro e w7 ⟨rfl,v7,S7⟩;have b7:=S7.box bN HNW.out.1 HNW.out.2;have u1:=b7.cell 1 rfl;have u2:=b7.cell 2 rfl;have u3:=b7.cell 3 rfl;have HQ:=HK.out _ S7.b0;go_wp2_with (fail);refine (S7.put x (by simp only [jb,jd,je];omega)).mono ?_;rintro e w9 ⟨rfl,v9,S9⟩;have b9:=S9.box bN HNW.out.1 HNW.out.2;have u1:=b9.cell 1 rfl;have u2:=b9.cell 2 rfl;have u3:=b9.cell 3 rfl;have HQ:=HK.out _ S9.b0;go_wp2_with (fail);refine (S9.put ⟨#[59]⟩ (by simp only [jb,jd,je];omega)).mono ?_;rintro e w11 ⟨rfl,v11,S11⟩;have b11:=S11.box bN HNW.out.1 HNW.out.2;have u1:=b11.cell 1 rfl;have u2:=b11.cell 2 rfl;have u3:=b11.cell 3 rfl;have HQ:=HK.out _ S11.b0;go_wp2
 go_end0
 rw [HO.out];exact S11.done hb3 (ji hrl)
theorem zz6 (hr:w0.heap.size=r) (hP:PH w0) (x:ByteArray) (m:Nat) (hm:m<=11) (hpub:m / 2 % 2=1) (nv:Value) (hl:kC (·<r) w0 (.node 3 x m []) nv) (hx:x.size<4611686018427387904) (hlk:lookK [3,4] 3 x m 0=true) (OO:Option (List ByteArray)) (HO:Hid (OO=some ([⟨#[112,117,98]⟩]++[kO ((m:Int) % 2)]++[x]++[⟨#[59]⟩]))) (w:World) (v:Value) (ws:List ByteArray) (hB:Below r w0 w) (hW:WR w r v ws) (hn:(ws.length:Int)+10*(1)<=800000) : Calls Tryz.prog 45 #[.pointer (some ⟨r,0,none⟩),nv] w (WO r w v ws OO):=by
 have c24:=kc25;have hrl:=hW.lt;obtain ⟨b2,b1,-⟩:=cS m hm;rw [decide_eq_true hpub] at b2;have hl':=hl;unfold kC at hl';obtain ⟨a,c,rfl,hk,-⟩:=hl';have HK:Hid (∀ W:World,Below r w0 W->True):=fun _ _=>trivial
 have hL:=xZ hr hP hB [3,4] 3 m x a 0 c hx (by decide) (by decide) (fun i hi=>by simp at hi;omega);clear hk;rw [hlk] at hL;simp only [List.map_cons,List.map_nil,jd,je,Nat.zero_add] at hL |-;clear hl hlk hpub;have HNW:Hid (w.heap.size≠r/\v.ownBlock≠some w.heap.size):=⟨by omega,fun e=>by have:=(hW.row.lt _ e).2;omega⟩
 go_enter Tryz.func45,Tryz.ntmps45;go_wp2_with (fail);refine hL.mono ?_;clear hL;intro e w3 hl3;obtain ⟨rfl,hb3,bN⟩:=hl3.yes;clear hl3;have S3:=Wg.start (hB.trans (hb3.mono (ji hrl))) (hW.below hb3);have u0:=bN.cell 0 rfl;have u1:=bN.cell 1 rfl;have u2:=bN.cell 2 rfl;have u3:=bN.cell 3 rfl;have HQ:=HK.out _ S3.b0;go_wp2_with (fail);refine (S3.put ⟨#[112,117,98]⟩ (by simp only [jb,jd,je];omega)).mono ?_;rintro e w5 ⟨rfl,v5,S5⟩;have b5:=S5.box bN HNW.out.1 HNW.out.2;have u1:=b5.cell 1 rfl;have u2:=b5.cell 2 rfl;have u3:=b5.cell 3 rfl;have HQ:=HK.out _ S5.b0;have u0:=b5.cell 0 rfl;have hCl:=S5.label ((m:Int) % 2) (by simp only [jb,jd,je];omega);go_wp2_with (fail);refine (hCl).mono ?_;rintro e w7 ⟨rfl,v7,S7⟩;have b7:=S7.box bN HNW.out.1 HNW.out.2;have u1:=b7.cell 1 rfl;have u2:=b7.cell 2 rfl;have u3:=b7.cell 3 rfl;have HQ:=HK.out _ S7.b0;go_wp2_with (fail);refine (S7.put x (by simp only [jb,jd,je];omega)).mono ?_;rintro e w9 ⟨rfl,v9,S9⟩;have b9:=S9.box bN HNW.out.1 HNW.out.2;have u1:=b9.cell 1 rfl;have u2:=b9.cell 2 rfl;have u3:=b9.cell 3 rfl;have HQ:=HK.out _ S9.b0;go_wp2_with (fail);refine (S9.put ⟨#[59]⟩ (by simp only [jb,jd,je];omega)).mono ?_;rintro e w11 ⟨rfl,v11,S11⟩;have b11:=S11.box bN HNW.out.1 HNW.out.2;have u1:=b11.cell 1 rfl;have u2:=b11.cell 2 rfl;have u3:=b11.cell 3 rfl;have HQ:=HK.out _ S11.b0;go_wp2
 go_end0
 rw [HO.out];exact S11.done hb3 (ji hrl)
theorem zzd (hr:w0.heap.size=r) (hP:PH w0) (x:ByteArray) (m:Nat) (hm:m<=11) (hpub:¬ m / 2 % 2=1) (t0:Tree) (nv:Value) (hl:kC (·<r) w0 (.node 3 x m [t0]) nv) (h0:okN (f+1) t0) (hx:x.size<4611686018427387904) (hlk:lookK [3,4] 3 x m 1=true) (OO:Option (List ByteArray)) (HO:Hid (OO=(xS t0).bind fun n=>some ([kO ((m:Int) % 2)]++[x]++[⟨#[91]⟩]++n++[⟨#[93]⟩]++[⟨#[59]⟩]))) (w:World) (v:Value) (ws:List ByteArray) (hB:Below r w0 w) (hW:WR w r v ws) (hn:(ws.length:Int)+10*(kB t0+1)<=800000) : Calls Tryz.prog 45 #[.pointer (some ⟨r,0,none⟩),nv] w (WO r w v ws OO):=by
 have c24:=kc25;have hrl:=hW.lt;obtain ⟨b2,b1,-⟩:=cS m hm;rw [decide_eq_false hpub] at b2;have p0:=kR t0;obtain ⟨g,o,c,ka,xa,ma,aa,na,ca,rfl,l0,hk⟩:=fC hl;have HK:=show Hid _ from hk
 have hL:=xZ hr hP hB [3,4] 3 m x (some ⟨g,o,none⟩) 1 c hx (by decide) (by decide) (fun i hi=>by simp at hi;omega);clear hk;rw [hlk] at hL;simp only [List.map_cons,List.map_nil,jd,je,Nat.zero_add] at hL |-;clear hl hlk hpub;have HNW:Hid (w.heap.size≠r/\v.ownBlock≠some w.heap.size):=⟨by omega,fun e=>by have:=(hW.row.lt _ e).2;omega⟩
 go_enter Tryz.func45,Tryz.ntmps45;go_wp2_with (fail);refine hL.mono ?_;clear hL;intro e w3 hl3;obtain ⟨rfl,hb3,bN⟩:=hl3.yes;clear hl3;have S3:=Wg.start (hB.trans (hb3.mono (ji hrl))) (hW.below hb3);have u0:=bN.cell 0 rfl;have u1:=bN.cell 1 rfl;have u2:=bN.cell 2 rfl;have u3:=bN.cell 3 rfl;have HQ:=HK.out _ S3.b0;have hCl:=S3.label ((m:Int) % 2) (by simp only [jb,jd,je];omega);go_wp2_with (fail);refine (hCl).mono ?_;rintro e w7 ⟨rfl,v7,S7⟩;have b7:=S7.box bN HNW.out.1 HNW.out.2;have u1:=b7.cell 1 rfl;have u2:=b7.cell 2 rfl;have u3:=b7.cell 3 rfl;have HQ:=HK.out _ S7.b0;go_wp2_with (fail);refine (S7.put x (by simp only [jb,jd,je];omega)).mono ?_;rintro e w9 ⟨rfl,v9,S9⟩;have b9:=S9.box bN HNW.out.1 HNW.out.2;have u1:=b9.cell 1 rfl;have u2:=b9.cell 2 rfl;have u3:=b9.cell 3 rfl;have HQ:=HK.out _ S9.b0;go_wp2_with (fail);refine (S9.put ⟨#[91]⟩ (by simp only [jb,jd,je];omega)).mono ?_;rintro e w11 ⟨rfl,v11,S11⟩;have b11:=S11.box bN HNW.out.1 HNW.out.2;have u1:=b11.cell 1 rfl;have u2:=b11.cell 2 rfl;have u3:=b11.cell 3 rfl;have HQ:=HK.out _ S11.b0;obtain ⟨q0,q1,q2,q3⟩:=HQ;go_wp2_with (fail);refine (S11.wri (zn5 (f:=f) hr hP) l0 h0 (by simp only [jb,jd,je];push_cast;omega)).mono ?_;rintro e w13 (⟨hN,rfl,hb13⟩|⟨l13,v13,hs13,rfl,S13⟩)
 ·have HN:Hid (OO=none):=by show _=_;rw [HO.out,hN];rfl
  clear hN;go_wp2;refine ⟨rfl,?_⟩;rw [HN.out];exact ⟨rfl,(hb3.mono (ji hrl)).trans hb13⟩
 have hl13:=zl4 hs13;have b13:=S13.box bN HNW.out.1 HNW.out.2;have u1:=b13.cell 1 rfl;have u2:=b13.cell 2 rfl;have u3:=b13.cell 3 rfl;have HQ:=HK.out _ S13.b0;go_wp2_with (fail);refine (S13.put ⟨#[93]⟩ (by simp only [jb,jd,je];omega)).mono ?_;rintro e w15 ⟨rfl,v15,S15⟩;have b15:=S15.box bN HNW.out.1 HNW.out.2;have u1:=b15.cell 1 rfl;have u2:=b15.cell 2 rfl;have u3:=b15.cell 3 rfl;have HQ:=HK.out _ S15.b0;go_wp2_with (fail);refine (S15.put ⟨#[59]⟩ (by simp only [jb,jd,je];omega)).mono ?_;rintro e w17 ⟨rfl,v17,S17⟩;have b17:=S17.box bN HNW.out.1 HNW.out.2;have u1:=b17.cell 1 rfl;have u2:=b17.cell 2 rfl;have u3:=b17.cell 3 rfl;have HQ:=HK.out _ S17.b0;go_wp2
 go_end0
 rw [HO.out,hs13];exact S17.done hb3 (ji hrl)
theorem zv8 (hr:w0.heap.size=r) (hP:PH w0) (x:ByteArray) (m:Nat) (hm:m<=11) (hpub:m / 2 % 2=1) (t0:Tree) (nv:Value) (hl:kC (·<r) w0 (.node 3 x m [t0]) nv) (h0:okN (f+1) t0) (hx:x.size<4611686018427387904) (hlk:lookK [3,4] 3 x m 1=true) (OO:Option (List ByteArray)) (HO:Hid (OO=(xS t0).bind fun n=>some ([⟨#[112,117,98]⟩]++[kO ((m:Int) % 2)]++[x]++[⟨#[91]⟩]++n++[⟨#[93]⟩]++[⟨#[59]⟩]))) (w:World) (v:Value) (ws:List ByteArray) (hB:Below r w0 w) (hW:WR w r v ws) (hn:(ws.length:Int)+10*(kB t0+1)<=800000) : Calls Tryz.prog 45 #[.pointer (some ⟨r,0,none⟩),nv] w (WO r w v ws OO):=by
 have c24:=kc25;have hrl:=hW.lt;obtain ⟨b2,b1,-⟩:=cS m hm;rw [decide_eq_true hpub] at b2;have p0:=kR t0;obtain ⟨g,o,c,ka,xa,ma,aa,na,ca,rfl,l0,hk⟩:=fC hl;have HK:=show Hid _ from hk
 have hL:=xZ hr hP hB [3,4] 3 m x (some ⟨g,o,none⟩) 1 c hx (by decide) (by decide) (fun i hi=>by simp at hi;omega);clear hk;rw [hlk] at hL;simp only [List.map_cons,List.map_nil,jd,je,Nat.zero_add] at hL |-;clear hl hlk hpub;have HNW:Hid (w.heap.size≠r/\v.ownBlock≠some w.heap.size):=⟨by omega,fun e=>by have:=(hW.row.lt _ e).2;omega⟩
 go_enter Tryz.func45,Tryz.ntmps45;go_wp2_with (fail);refine hL.mono ?_;clear hL;intro e w3 hl3;obtain ⟨rfl,hb3,bN⟩:=hl3.yes;clear hl3;have S3:=Wg.start (hB.trans (hb3.mono (ji hrl))) (hW.below hb3);have u0:=bN.cell 0 rfl;have u1:=bN.cell 1 rfl;have u2:=bN.cell 2 rfl;have u3:=bN.cell 3 rfl;have HQ:=HK.out _ S3.b0;go_wp2_with (fail);refine (S3.put ⟨#[112,117,98]⟩ (by simp only [jb,jd,je];omega)).mono ?_;rintro e w5 ⟨rfl,v5,S5⟩;have b5:=S5.box bN HNW.out.1 HNW.out.2;have u1:=b5.cell 1 rfl;have u2:=b5.cell 2 rfl;have u3:=b5.cell 3 rfl;have HQ:=HK.out _ S5.b0;have u0:=b5.cell 0 rfl;have hCl:=S5.label ((m:Int) % 2) (by simp only [jb,jd,je];omega);go_wp2_with (fail);refine (hCl).mono ?_;rintro e w7 ⟨rfl,v7,S7⟩;have b7:=S7.box bN HNW.out.1 HNW.out.2;have u1:=b7.cell 1 rfl;have u2:=b7.cell 2 rfl;have u3:=b7.cell 3 rfl;have HQ:=HK.out _ S7.b0;go_wp2_with (fail);refine (S7.put x (by simp only [jb,jd,je];omega)).mono ?_;rintro e w9 ⟨rfl,v9,S9⟩;have b9:=S9.box bN HNW.out.1 HNW.out.2;have u1:=b9.cell 1 rfl;have u2:=b9.cell 2 rfl;have u3:=b9.cell 3 rfl;have HQ:=HK.out _ S9.b0;go_wp2_with (fail);refine (S9.put ⟨#[91]⟩ (by simp only [jb,jd,je];omega)).mono ?_;rintro e w11 ⟨rfl,v11,S11⟩;have b11:=S11.box bN HNW.out.1 HNW.out.2;have u1:=b11.cell 1 rfl;have u2:=b11.cell 2 rfl;have u3:=b11.cell 3 rfl;have HQ:=HK.out _ S11.b0;obtain ⟨q0,q1,q2,q3⟩:=HQ;go_wp2_with (fail);refine (S11.wri (zn5 (f:=f) hr hP) l0 h0 (by simp only [jb,jd,je];push_cast;omega)).mono ?_;rintro e w13 (⟨hN,rfl,hb13⟩|⟨l13,v13,hs13,rfl,S13⟩)
 ·have HN:Hid (OO=none):=by show _=_;rw [HO.out,hN];rfl
  clear hN;go_wp2;refine ⟨rfl,?_⟩;rw [HN.out];exact ⟨rfl,(hb3.mono (ji hrl)).trans hb13⟩
 have hl13:=zl4 hs13;have b13:=S13.box bN HNW.out.1 HNW.out.2;have u1:=b13.cell 1 rfl;have u2:=b13.cell 2 rfl;have u3:=b13.cell 3 rfl;have HQ:=HK.out _ S13.b0;go_wp2_with (fail);refine (S13.put ⟨#[93]⟩ (by simp only [jb,jd,je];omega)).mono ?_;rintro e w15 ⟨rfl,v15,S15⟩;have b15:=S15.box bN HNW.out.1 HNW.out.2;have u1:=b15.cell 1 rfl;have u2:=b15.cell 2 rfl;have u3:=b15.cell 3 rfl;have HQ:=HK.out _ S15.b0;go_wp2_with (fail);refine (S15.put ⟨#[59]⟩ (by simp only [jb,jd,je];omega)).mono ?_;rintro e w17 ⟨rfl,v17,S17⟩;have b17:=S17.box bN HNW.out.1 HNW.out.2;have u1:=b17.cell 1 rfl;have u2:=b17.cell 2 rfl;have u3:=b17.cell 3 rfl;have HQ:=HK.out _ S17.b0;go_wp2
 go_end0
 rw [HO.out,hs13];exact S17.done hb3 (ji hrl)
theorem yas (hr:w0.heap.size=r) (hP:PH w0) (x:ByteArray) (m:Nat) (hm:m<=11) (hpub:¬ m / 2 % 2=1) (ps:List Tree) (tb:Tree) (nv:Value) (hl:kC (·<r) w0 (.node 4 x m (ps++[tb])) nv) (hps:∀ t∈ps,okN (f+1) t) (htb:okN (f+1) tb) (hx:x.size<4611686018427387904) (hlk:lookK [3,4] 4 x m (ps.length+1)=true) (OO:Option (List ByteArray)) (HO:Hid (OO=(dK (f+1) x m ps tb).bind fun q=>some ([]++q))) (w:World) (v:Value) (ws:List ByteArray) (hB:Below r w0 w) (hW:WR w r v ws) (hn:(ws.length:Int)+10*(kA ps+kB tb+1)<=800000) : Calls Tryz.prog 45 #[.pointer (some ⟨r,0,none⟩),nv] w (WO r w v ws OO):=by
 have c24:=kc25;have hrl:=hW.lt;obtain ⟨b2,b1,-⟩:=cS m hm;rw [decide_eq_false hpub] at b2;have p0:=kX ps;have p1:=kR tb;unfold kC at hl;obtain ⟨a,c,rfl,⟨hk1,hk2⟩,hat⟩:=hl;obtain ⟨g,o,rfl,hg,hat⟩:=hat (by simp);simp only [jb,jd,je,Nat.zero_add] at hk1 hk2 |-;have HK:Hid (∀ W:World,Below r w0 W->True):=fun _ _=>trivial
 have hL:=xZ hr hP hB [3,4] 4 m x (some ⟨g,o,none⟩) (ps.length+1) c hx hk1 (by decide) (fun i hi=>by simp at hi;omega);rw [hlk] at hL;simp only [List.map_cons,List.map_nil,jd,je,Nat.zero_add] at hL;clear hlk hpub;have HNW:Hid (w.heap.size≠r/\v.ownBlock≠some w.heap.size):=⟨by omega,fun e=>by have:=(hW.row.lt _ e).2;omega⟩
 go_enter Tryz.func45,Tryz.ntmps45;go_wp2_with (fail);refine hL.mono ?_;clear hL;intro e w3 hl3;obtain ⟨rfl,hb3,bN⟩:=hl3.yes;clear hl3;have S3:=Wg.start (hB.trans (hb3.mono (ji hrl))) (hW.below hb3);have u0:=bN.cell 0 rfl;have u1:=bN.cell 1 rfl;have u2:=bN.cell 2 rfl;have u3:=bN.cell 3 rfl;have HQ:=HK.out _ S3.b0;have hCp:=(oProc hr hP x m hm ps tb g o c  hg hk2 hk1 hat hps htb _ _ _ S3.b0 S3.wr (by simp only [jb,jd,je];push_cast;omega)).mono fun e w' g=>S3.wo g
 generalize dK (f+1) x m ps tb=ob at *;go_wp2_with (fail);refine (hCp).mono ?_;rintro e w7 (⟨hN,rfl,hb7⟩|⟨l7,v7,hs7,rfl,S7⟩)
 ·have HN:Hid (OO=none):=by show _=_;rw [HO.out,hN];rfl
  clear hN;go_wp2;refine ⟨rfl,?_⟩;rw [HN.out];exact ⟨rfl,(hb3.mono (ji hrl)).trans hb7⟩
 have hl7:=id hs7;have b7:=S7.box bN HNW.out.1 HNW.out.2;have u1:=b7.cell 1 rfl;have u2:=b7.cell 2 rfl;have u3:=b7.cell 3 rfl;have HQ:=HK.out _ S7.b0;go_wp2
 go_end0
 rw [HO.out,hs7];exact S7.done hb3 (ji hrl)
theorem zye (hr:w0.heap.size=r) (hP:PH w0) (x:ByteArray) (m:Nat) (hm:m<=11) (hpub:m / 2 % 2=1) (ps:List Tree) (tb:Tree) (nv:Value) (hl:kC (·<r) w0 (.node 4 x m (ps++[tb])) nv) (hps:∀ t∈ps,okN (f+1) t) (htb:okN (f+1) tb) (hx:x.size<4611686018427387904) (hlk:lookK [3,4] 4 x m (ps.length+1)=true) (OO:Option (List ByteArray)) (HO:Hid (OO=(dK (f+1) x m ps tb).bind fun q=>some ([⟨#[112,117,98]⟩]++q))) (w:World) (v:Value) (ws:List ByteArray) (hB:Below r w0 w) (hW:WR w r v ws) (hn:(ws.length:Int)+10*(kA ps+kB tb+1)<=800000) : Calls Tryz.prog 45 #[.pointer (some ⟨r,0,none⟩),nv] w (WO r w v ws OO):=by
 have c24:=kc25;have hrl:=hW.lt;obtain ⟨b2,b1,-⟩:=cS m hm;rw [decide_eq_true hpub] at b2;have p0:=kX ps;have p1:=kR tb;unfold kC at hl;obtain ⟨a,c,rfl,⟨hk1,hk2⟩,hat⟩:=hl;obtain ⟨g,o,rfl,hg,hat⟩:=hat (by simp);simp only [jb,jd,je,Nat.zero_add] at hk1 hk2 |-;have HK:Hid (∀ W:World,Below r w0 W->True):=fun _ _=>trivial
 have hL:=xZ hr hP hB [3,4] 4 m x (some ⟨g,o,none⟩) (ps.length+1) c hx hk1 (by decide) (fun i hi=>by simp at hi;omega);rw [hlk] at hL;simp only [List.map_cons,List.map_nil,jd,je,Nat.zero_add] at hL;clear hlk hpub;have HNW:Hid (w.heap.size≠r/\v.ownBlock≠some w.heap.size):=⟨by omega,fun e=>by have:=(hW.row.lt _ e).2;omega⟩
 go_enter Tryz.func45,Tryz.ntmps45;go_wp2_with (fail);refine hL.mono ?_;clear hL;intro e w3 hl3;obtain ⟨rfl,hb3,bN⟩:=hl3.yes;clear hl3;have S3:=Wg.start (hB.trans (hb3.mono (ji hrl))) (hW.below hb3);have u0:=bN.cell 0 rfl;have u1:=bN.cell 1 rfl;have u2:=bN.cell 2 rfl;have u3:=bN.cell 3 rfl;have HQ:=HK.out _ S3.b0;go_wp2_with (fail);refine (S3.put ⟨#[112,117,98]⟩ (by simp only [jb,jd,je];omega)).mono ?_;rintro e w5 ⟨rfl,v5,S5⟩;have b5:=S5.box bN HNW.out.1 HNW.out.2;have u1:=b5.cell 1 rfl;have u2:=b5.cell 2 rfl;have u3:=b5.cell 3 rfl;have HQ:=HK.out _ S5.b0;have u0:=b5.cell 0 rfl;have hCp:=(oProc hr hP x m hm ps tb g o c  hg hk2 hk1 hat hps htb _ _ _ S5.b0 S5.wr (by simp only [jb,jd,je];push_cast;omega)).mono fun e w' g=>S5.wo g
 generalize dK (f+1) x m ps tb=ob at *;go_wp2_with (fail);refine (hCp).mono ?_;rintro e w7 (⟨hN,rfl,hb7⟩|⟨l7,v7,hs7,rfl,S7⟩)
 ·have HN:Hid (OO=none):=by show _=_;rw [HO.out,hN];rfl
  clear hN;go_wp2;refine ⟨rfl,?_⟩;rw [HN.out];exact ⟨rfl,(hb3.mono (ji hrl)).trans hb7⟩
 have hl7:=id hs7;have b7:=S7.box bN HNW.out.1 HNW.out.2;have u1:=b7.cell 1 rfl;have u2:=b7.cell 2 rfl;have u3:=b7.cell 3 rfl;have HQ:=HK.out _ S7.b0;go_wp2
 go_end0
 rw [HO.out,hs7];exact S7.done hb3 (ji hrl)
end
section
variable {w0:World} {r f:Nat}
theorem ztq:∀ (ks:List Tree),(ks.length:Int)<=1->ks=[]\/∃ t0,ks=[t0]
 | [],_=>.inl rfl
 | [t0],_=>.inr ⟨t0,rfl⟩
 | _ :: _ :: _,b=>by simp only [jd] at b;omega
theorem zty {ks:List Tree} (h:(1:Int)<=ks.length):∃ ps tb,ks=ps++[tb]:=by
 rcases List.eq_nil_or_concat ks with e | ⟨ps,tb,e⟩
 ·rw [e] at h;simp at h
 ·exact ⟨ps,tb,by rw [e,List.concat_eq_append]⟩
theorem yaw (hr:w0.heap.size=r) (hP:PH w0):Wri w0 r 45 (qQ (f+1)) (okN (f+2)):=by
 intro t nv hl hq w v ws hB hW hn;obtain ⟨k,x,m,ks⟩:=t;rw [vA] at hn
 cases hlk:lookK [3,4] k x m ks.length with
 | false =>
  have e:qQ (f+1) (.node k x m ks)=none:=by unfold qQ;dsimp only;rw [ju (by rw [show kI [3,4] (.node k x m ks)=lookK [3,4] k x m ks.length from rfl,hlk];simp)]
  rw [e];unfold kC at hl;obtain ⟨a,c,rfl,⟨hk1,hk2⟩,-⟩:=hl
  exact zxy hr hP k x m a _ c hq.1 hk1 hlk w v ws hB hW
 | true =>
  obtain ⟨hk,h1,h2,h3,h4,-⟩:=zc4 hlk;have hk:k=3\/k=4:=by simpa using hk
  have hlb:kI [3,4] (.node k x m ks)=true:=hlk;rcases hk with rfl | rfl
  ·have h1':0<=m:=h1;have h2':m<=3:=h2;obtain ⟨mn,rfl⟩:∃ mn:Nat,m=(mn:Int):=⟨m.toNat,by omega⟩
   have hmn:mn<=11:=by omega
   rcases ztq ks h4 with rfl|⟨t0,rfl⟩
   ·by_cases hp:mn / 2 % 2=1;·exact zz6 hr hP x mn hmn hp nv hl hq.1 hlk _ (by show _=_;unfold qQ;dsimp only;rw [jv hlb,ju (by decide),Int.toNat_natCast,jv hp]) w v ws hB hW (by simp only [kA] at hn;omega)
    ·exact ya4 hr hP x mn hmn hp nv hl hq.1 hlk _ (by show _=_;unfold qQ;dsimp only;rw [jv hlb,ju (by decide),Int.toNat_natCast,ju hp];rfl) w v ws hB hW (by simp only [kA] at hn;omega)
   ·by_cases hp:mn / 2 % 2=1;·exact zv8 hr hP x mn hmn hp t0 nv hl (hq.2 t0 (by simp)) hq.1 hlk _ (by show _=_;unfold qQ;dsimp only;rw [jv hlb,ju (by decide),Int.toNat_natCast,jv hp]) w v ws hB hW (by simp only [kA] at hn;omega)
    ·exact zzd hr hP x mn hmn hp t0 nv hl (hq.2 t0 (by simp)) hq.1 hlk _ (by show _=_;unfold qQ;dsimp only;rw [jv hlb,ju (by decide),Int.toNat_natCast,ju hp];rfl) w v ws hB hW (by simp only [kA] at hn;omega)
  ·have h1':0<=m:=h1;have h2':m<=11:=h2;obtain ⟨mn,rfl⟩:∃ mn:Nat,m=(mn:Int):=⟨m.toNat,by omega⟩
   have hmn:mn<=11:=by omega
   obtain ⟨ps,tb,rfl⟩:=zty h3;have hlen:(ps++[tb]).length=ps.length+1:=by simp
   have hpr:∀ z:List ByteArray,((kW yK ((ps++[tb]).take ((ps++[tb]).length - 1))).bind fun p=>(kS (f+1) ((ps++[tb]).getD ((ps++[tb]).length - 1) noT)).bind fun b=>some (z++[⟨#[112,114,111,99]⟩,x]++p++[kO ((mn:Int) % 2)]++xE mn++b))=(dK (f+1) x mn ps tb).bind fun q=>some (z++q):=fun z=>by
    rw [hlen,Nat.add_sub_cancel,List.take_left,show (ps++[tb]).getD ps.length noT=tb from by simp [List.getD_eq_getElem?_getD]];unfold dK
    cases kW yK ps with
    | none=>rfl
    | some p =>
     cases kS (f+1) tb with
     | none=>rfl
     | some b=>simp [jt]
   have hps:∀ t∈ps,okN (f+1) t:=fun t ht=>hq.2 t (by simp [ht])
   have htb:okN (f+1) tb:=hq.2 tb (by simp);have hc:kA (ps++[tb])=kA ps+kB tb:=by rw [cntL_app];simp [kA]
   rw [hc] at hn;by_cases hp:mn / 2 % 2=1;·exact zye hr hP x mn hmn hp ps tb nv hl hps htb hq.1 (by rw [hlen] at hlk;exact hlk) _ (by show _=_;rw [<- hpr];unfold qQ;dsimp only;rw [jv hlb,jv rfl,Int.toNat_natCast,jv hp]) w v ws hB hW (by omega)
   ·exact yas hr hP x mn hmn hp ps tb nv hl hps htb hq.1 (by rw [hlen] at hlk;exact hlk) _ (by show _=_;rw [<- hpr];unfold qQ;dsimp only;rw [jv hlb,jv rfl,Int.toNat_natCast,ju hp]) w v ws hB hW (by omega)
def yai (w0:World) (r:Nat) (ks:List Tree) (u:Value):Prop:=∃ a c,u=.slice a ks.length c/\(ks.length<=4611686018427387904/\ks.length<=c)/\(ks≠[]->∃ g o,a=some ⟨g,o,none⟩/\g<r/\kY (·<r) w0 ks g o)
def zop:Value->Nat
 | .slice _ n _=>n
 | _=>0
theorem oModule (hr:w0.heap.size=r) (hP:PH w0):Wri w0 r 24 (xG (f+1)) (okN (f+3)):=by
 intro t nv hl hq w v ws hB hW hn;have c24:=kc25;obtain ⟨k,x,m,ks⟩:=t;obtain ⟨hx,hks⟩:=hq;rw [vA] at hn;unfold kC at hl;obtain ⟨a,c,rfl,⟨hk1,hk2⟩,hat⟩:=hl;have hrl:=hW.lt;have hL:=xZ hr hP hB [1] k m x a ks.length c hx hk1 (by decide) (fun i hi=>by simp at hi;omega);simp only [List.map_cons,List.map_nil,jd,je,Nat.zero_add] at hL;have HO:Hid (xG (f+1) (.node k x m ks)=if lookK [1] k x m ks.length then (kP yQ (ks.takeWhile kT)).bind fun a=>(kP (qQ (f+1)) (ks.dropWhile kT)).bind fun b=>some ([⟨#[109,111,100,117,108,101]⟩,x,⟨#[59]⟩]++a++b) else none):=rfl;have hcp:=kX ks;have HNW:Hid (w.heap.size≠r/\v.ownBlock≠some w.heap.size):=⟨by omega,fun e=>by have:=(hW.row.lt _ e).2;omega⟩
 generalize xG (f+1) (.node k x m ks)=OO at *;go_enter Tryz.func24,Tryz.ntmps24;go_wp2_with (fail);refine hL.mono ?_;clear hL;rintro e w3 (⟨hlk,rfl,hb3⟩|⟨hlk,rfl,hb3,bN⟩);·rw [hlk] at HO;obtain rfl:=HO.out;clear hlk;go_wp2;exact ⟨rfl,rfl,hb3.mono (ji hrl)⟩
 rw [hlk] at HO;have HO2:Hid (OO=(kP yQ (ks.takeWhile kT)).bind fun a=>(kP (qQ (f+1)) (ks.dropWhile kT)).bind fun b=>some ([⟨#[109,111,100,117,108,101]⟩,x,⟨#[59]⟩]++a++b)):=HO.out;clear HO hlk;have S0:=Wg.start (hB.trans (hb3.mono (ji hrl))) (hW.below hb3);have hC1:=S0.put3 ⟨#[109,111,100,117,108,101]⟩ x ⟨#[59]⟩ (by simp;omega);have u1:=bN.cell 1 rfl;go_wp2_with (go_at_call 44;refine hC1.mono ?_;rintro e w5 ⟨rfl,v5,S5⟩;have bN5:=S5.box bN HNW.out.1 HNW.out.2;have z3:=bN5.cell 3 rfl);go_loopw [4] (fun u wr=>∃ (ks':List Tree) (vj:Value) (o:List ByteArray),yai w0 r ks' u/\Wg w0 w3 r v ws ([⟨#[109,111,100,117,108,101]⟩,x,⟨#[59]⟩]++o) wr vj/\(o.length:Int)+8*kA ks'<=8*kA ks/\kA ks'<=kA ks/\Hid ((∀ t∈ks',okN (f+2) t)/\OO=(kP yQ (ks'.takeWhile kT)).bind fun a=>(kP (qQ (f+1)) (ks'.dropWhile kT)).bind fun b=>some ([⟨#[109,111,100,117,108,101]⟩,x,⟨#[59]⟩]++o++a++b))) (fun u _=>zop u)
 case atStart =>
  exact ⟨ks,v5,[],⟨a,c,rfl,⟨hk1,hk2⟩,hat⟩,by simpa using S5,by simp,Int.le_refl _,hks,by rw [HO2.out];simp⟩
 case round =>
  clear hC1 S5 S0 z3 bN5 hat hk1 hk2;obtain ⟨ks',vj,o,⟨a',c',rfl,⟨hl1,hl2⟩,hat'⟩,Sj,hol,hcl,HI⟩:=hrel
  cases ks' with
  | nil =>
   have HR:Hid (OO=some ([⟨#[109,111,100,117,108,101]⟩,x,⟨#[59]⟩]++o)):=by show _=_;rw [HI.out.2];simp [kP]
   simp only [je];go_wp2;go_loopw [43] (fun u w8=>u=.int .i64 0/\Wg w0 w3 r v ws ([⟨#[109,111,100,117,108,101]⟩,x,⟨#[59]⟩]++o) w8 vj) (fun u _=>0)
   case atStart=>exact ⟨rfl,Sj⟩
   case round =>
    clear Sj;obtain ⟨rfl,Sj⟩:=hrel;go_wp2
    go_end0
    rw [HR.out]
    exact Sj.done hb3 (ji hrl)
  | cons t q =>
   obtain ⟨g,og,rfl,hg,hat⟩:=hat' (by simp);obtain ⟨ka,xa,ma,aa,na,ca,hln,hcell⟩:=cE hg hat 0 (by simp);simp only [Nat.zero_mul,Nat.add_zero,jI] at hln hcell;have HC:=show Hid _ from hcell
   obtain ⟨q0,q1,q2,q3⟩:=hcell _ Sj.b0;clear hcell hat';have hln':=hln;obtain ⟨tk,tx,tm,tks⟩:=t;unfold kC at hln';obtain ⟨a',c'',e',hkk,-⟩:=hln';injection e' with e';simp only [Array.mk.injEq,jq,and_true,Value.int.injEq,Value.string.injEq,Value.slice.injEq,true_and] at e';obtain ⟨rfl,rfl,rfl,rfl,rfl,rfl⟩:=e';have hxa:xa.size<4611686018427387904:=(HI.out.1 _ (jJ ..)).1;have hcq:kA (.node ka xa ma tks :: q)=kB (.node ka xa ma tks)+kA q:=by simp [kA]
   have hcp1:=kR (.node ka xa ma tks);have hcp2:=kX q;simp only [jd] at hl1 hl2 |-;by_cases hk2:ka=2
   ·subst hk2;have hK:=zlz hr hP Sj.b0 [2] 2 ma xa aa tks.length ca hxa hkk.1 (by decide) (fun i hi=>by simp at hi;omega);simp only [List.map_cons,List.map_nil,jd,je,Nat.zero_add] at hK;have HT:Hid ((Tree.node 2 xa ma tks :: q).takeWhile kT=.node 2 xa ma tks :: q.takeWhile kT/\(Tree.node 2 xa ma tks :: q).dropWhile kT=q.dropWhile kT):=⟨rfl,rfl⟩
    go_wp2_with (fail);refine hK.mono ?_;clear hK;rintro e w7 ⟨(⟨hlk,rfl⟩|⟨hlk,rfl⟩),hb7⟩
    ·have HN:Hid (OO=none):=by
      show _=_;rw [HI.out.2,HT.out.1];unfold kP yQ;dsimp only;rw [ju (by rw [show kI [2] (.node 2 xa ma tks)=lookK [2] 2 xa ma tks.length from rfl,hlk];simp)];rfl
     clear hlk;go_wp2;refine ⟨rfl,?_⟩;rw [HN.out];exact ⟨rfl,(hb3.mono (ji hrl)).trans (Sj.b.trans (hb7.mono (ji Sj.wr.lt)))⟩
    have S7:=Sj.below hb7
    have HI2:Hid (OO=(kP yQ (q.takeWhile kT)).bind fun a=>(kP (qQ (f+1)) (q.dropWhile kT)).bind fun b=>some ([⟨#[109,111,100,117,108,101]⟩,x,⟨#[59]⟩]++(o++[⟨#[105,109,112,111,114,116]⟩,xa,⟨#[59]⟩])++a++b)):=by
     show _=_;rw [HI.out.2,HT.out.1,HT.out.2];rw [show kP yQ (.node 2 xa ma tks :: q.takeWhile kT)=(yQ (.node 2 xa ma tks)).bind fun a=>(kP yQ (q.takeWhile kT)).bind fun b=>some (a++b) from rfl,show yQ (.node 2 xa ma tks)=some [⟨#[105,109,112,111,114,116]⟩,xa,⟨#[59]⟩] from by unfold yQ;dsimp only;rw [jv (show kI [2] (.node 2 xa ma tks)=true from hlk)]]
     cases kP yQ (q.takeWhile kT) with
     | none=>rfl
     | some a =>
      cases kP (qQ (f+1)) (q.dropWhile kT) with
      | none=>rfl
      | some b=>simp [jt]
    clear hlk;obtain ⟨q0,q1,q2,q3⟩:=HC.out _ S7.b0;go_wp2_with (fail);refine (S7.put3 ⟨#[105,109,112,111,114,116]⟩ xa ⟨#[59]⟩ (by simp only [jb,jd,je];omega)).mono ?_;rintro e w9 ⟨rfl,v9,S9⟩;go_wp2;go_roundw
    case rel =>
     refine ⟨q,v9,o++[⟨#[105,109,112,111,114,116]⟩,xa,⟨#[59]⟩],⟨_,_,rfl,⟨by omega,by omega⟩,fun hne=>?_⟩,by rw [<- jt];exact S9,by simp only [jb,jd,je];push_cast;omega,by omega,fun t ht=>HI.out.1 t (jF _ ht),HI2.out⟩;have hql:0<q.length:=List.length_pos_iff.2 hne;rw [ju (by omega)];unfold kY at hat
     exact ⟨g,og+4,rfl,hg,hat.2⟩
    case measure=>simp [zop]
   ·have HT:Hid ((Tree.node ka xa ma tks :: q).takeWhile kT=[]/\(Tree.node ka xa ma tks :: q).dropWhile kT=.node ka xa ma tks :: q):=by
     have:kT (.node ka xa ma tks)=false:=beq_eq_false_iff_ne.2 hk2;exact ⟨by rw [List.takeWhile_cons,this];rfl,by rw [List.dropWhile_cons,this];rfl⟩
    have S0:=Sj;have hk2b:(ka==2)=false:=beq_eq_false_iff_ne.2 hk2;clear Sj q1 q2 q3 HC hln hxa;go_wp2;go_loopw [43] (fun u w8=>∃ (j:Nat) (vk:Value) (p:List ByteArray),j<=q.length+1/\u=.int .i64 j/\Wg w0 w3 r v ws ([⟨#[109,111,100,117,108,101]⟩,x,⟨#[59]⟩]++o++p) w8 vk/\p.length<=8*kA ((Tree.node ka xa ma tks :: q).take j)/\Hid (OO=(kP (qQ (f+1)) ((Tree.node ka xa ma tks :: q).drop j)).bind fun b=>some ([⟨#[109,111,100,117,108,101]⟩,x,⟨#[59]⟩]++o++p++b))) (fun u _=>q.length+1 - (intOf u).toNat)
    case atStart =>
     refine ⟨0,vj,[],jz _,rfl,by simpa using S0,by simp [kA],?_⟩;show _=_;rw [HI.out.2,HT.out.1,HT.out.2];simp [kP]
    case round =>
     clear S0;obtain ⟨j,vk,p,hj,rfl,Sj,hpl,HP⟩:=hrel;have hct:=cntL_take (Tree.node ka xa ma tks :: q) j;by_cases hlt:j<q.length+1
     ·have hlt':j<(Tree.node ka xa ma tks :: q).length:=hlt;obtain ⟨kb,xb,mb,ab,nb,cb,hln,hcell⟩:=cE hg hat j hlt';obtain ⟨q0,q1,q2,q3⟩:=hcell _ Sj.b0;have hcn:=zb8 hlt';have hcn2:=cntL_take (Tree.node ka xa ma tks :: q) (j+1);have HX:=show Hid _ from zi3 (g:=qQ (f+1)) hlt'
      have hC:=(Sj.alloc (.cells #[.int .i64 kb,.string xb,.int .i64 mb,.slice ab nb cb] 25)).wri (yaw hr hP) hln (HI.out.1 _ (jH hlt')) (by simp only [jb,jd,je];push_cast;omega);clear hcell;go_wp2_with (fail);refine hC.mono ?_;clear hC;rintro e w7 (⟨hN,rfl,hb7⟩|⟨l7,v7,hs7,rfl,S7⟩)
      ·have HN:Hid (OO=none):=by show _=_;rw [HP.out,HX.out,hN];rfl
       clear hN;go_wp2;refine ⟨rfl,?_⟩;rw [HN.out];exact ⟨rfl,(hb3.mono (ji hrl)).trans hb7⟩
      ·have hl7:=zko _ _ hs7
       have HP2:Hid (OO=(kP (qQ (f+1)) ((Tree.node ka xa ma tks :: q).drop (j+1))).bind fun b=>some ([⟨#[109,111,100,117,108,101]⟩,x,⟨#[59]⟩]++o++(p++l7)++b)):=by
        show _=_;rw [HP.out,HX.out,hs7]
        cases kP (qQ (f+1)) ((Tree.node ka xa ma tks :: q).drop (j+1)) with
        | none=>rfl
        | some b=>simp
       clear hs7;go_wp2;go_roundw
       case rel=>exact ⟨j+1,v7,p++l7,by omega,by go_num,by rw [<- jt];exact S7,by rw [hcn,jb];push_cast;omega,HP2⟩
       case measure=>simp [intOf];omega
     ·have hjj:j=(Tree.node ka xa ma tks :: q).length:=by simp only [jd];omega
      have HR:Hid (OO=some ([⟨#[109,111,100,117,108,101]⟩,x,⟨#[59]⟩]++o++p)):=by
       show _=_;rw [HP.out,hjj,List.drop_length];simp [kP]
      clear hjj;go_wp2
      go_end0
      rw [HR.out];exact Sj.done hb3 (ji hrl)
end
theorem zpt (p:Addr) (w:World) : CallsD Tryz.prog 23 #[.pointer (some p)] .returning w fun e u' w'=>e=.returned (.tuple #[])/\u'=.returning/\w'=w:=by
 have hnn:∀ w:World,(binOp BinOp.eql 20 .nilIface .nilIface).run Tryz.prog w=.ok (.bool true) w:=fun _=>by kernel_rfl
 refine callsD_of_wpS Tryz.func23 rfl fun c₀ cs hu=>?_
 refine zcf (by simp [recoverD,hu]) ?_;simp only [Tryz.ntmps23,List.size_toArray,jd,je,Nat.reduceAdd,Nat.reduceSub,Array.replicate_succ,Array.replicate_zero,List.push_toArray,List.append_toArray,js,jK,Act.put,List.setIfInBounds_toArray,List.set_cons_succ,List.set_cons_zero];refine wpS_of_wp (wp_mono (Q:=fun e a w'=>e=.normal/\a.defers=[]/\w'=w) ?_ ?_);·go_wp2
 ·rintro e a w' ⟨rfl,h1,rfl⟩;exact ⟨h1,_,rfl,.tuple #[],by simp [results,Tryz.results23],rfl,hu,rfl⟩
theorem zzk (fb:Nat) (w:World) (hb:kJ w fb #[.int .i64 0] 26) : CallsD Tryz.prog 23 #[.pointer (some ⟨fb,0,none⟩)] (.panicking Mis) w fun e u' w'=>e=.returned (.tuple #[])/\u'=.panicking [{ v:=.iface 73 (.agg #[]),recovered:=true }]/\w'.cell? ⟨fb,0,none⟩=some (.int .i64 2)/\Fr fb w w':=by
 have hfb:=hb.lt;have h0:=hb.cell 0 rfl;have f0:=hb.fz 0;clear hb;have c0:=kc73;have hnn:∀ w:World,(binOp BinOp.eql 20 (.iface 73 (.agg #[])) .nilIface).run Tryz.prog w=.ok (.bool false) w:=fun _=>by kernel_rfl
 have hta:∀ w:World,(Instr.typeAssert (.iface 73 (.agg #[])) 20 73 true).run Tryz.prog w=.ok (.tuple #[.agg #[],.bool true]) w:=fun _=>by kernel_rfl
 unfold Mis;refine callsD_of_wpS Tryz.func23 rfl fun c₀ cs hu=>?_
 refine za8 (v:=.iface 73 (.agg #[])) (cs':={ c₀ with mode:=.panicking [{ v:=.iface 73 (.agg #[]),recovered:=true }] } :: cs) (by simp [recoverD,hu]) ?_;simp only [Tryz.ntmps23,List.size_toArray,jd,je,Nat.reduceAdd,Nat.reduceSub,Array.replicate_succ,Array.replicate_zero,List.push_toArray,List.append_toArray,js,jK,Act.put,List.setIfInBounds_toArray,List.set_cons_succ,List.set_cons_zero];refine wpS_of_wp (wp_mono (Q:=fun e q w'=>e=.normal/\q.defers=[]/\w'.cell? ⟨fb,0,none⟩=some (.int .i64 2)/\Fr fb w w') ?_ ?_);·go_wp2;exact ((Fr.refl _ _).set _ _).alloc _
 ·rintro e q w' ⟨rfl,h1,h2,h3⟩;exact ⟨h1,_,rfl,.tuple #[],by simp [results,Tryz.results23],rfl,rfl,h2,h3⟩
def WrE (w:World) (o:Option (List ByteArray)) (e:Ending) (w':World):Prop :=
 Below w.heap.size w w'/\match o with
  | none=>e=.returned (.tuple #[.slice none 0 0,.int .i64 2])
  | some l=>∃ v B,e=.returned (.tuple #[v,.int .i64 0])/\w'.ownsRow B 9 1 v l.length (yF l)
theorem zyx (w:World) (hP:PH w) (t:Tree) (nv:Value) (hl:kC (·<w.heap.size) w t nv) (hq:okN 18 t) (hn:10*kB t<=800000) : Calls Tryz.prog 12 #[nv] w (WrE w (xG 16 t)):=by
 have c24:=kc25;have hmf:∀ (fn:Fn) (first cap:Array Value) (w:World),(Instr.makeFunc fn first cap).run Tryz.prog w=.ok (.func fn first cap) w:=fun _ _ _ _=>rfl
 obtain ⟨k,x,m,a,n,c,rfl⟩:=lies_shape hl;obtain ⟨N,hN⟩:∃ N,N=w.heap.size:=⟨_,rfl⟩
 obtain ⟨wA,hwA⟩:∃ wA,wA=(w.alloc (.cells #[.int .i64 k,.string x,.int .i64 m,.slice a n c] 25)).alloc (.cells #[.int .i64 0] 26):=⟨_,rfl⟩
 have hD:wA.heap.size=N+1+1:=by rw [hwA,hN];simp
 have hbA:Below N w wA:=by rw [hwA,hN];exact (bal _).alloc (by simp) _
 have bG:kJ wA (N+1) #[.int .i64 0] 26:=by
  have:=kJ.new (w.alloc (.cells #[.int .i64 k,.string x,.int .i64 m,.slice a n c] 25)) #[.int .i64 0] 26;rw [jO] at this;rw [hwA,hN];exact this
 have hPA:=hP.below (hN▸hbA);have hlA:kC (·<N+1+1) wA t (.agg #[.int .i64 k,.string x,.int .i64 m,.slice a n c]):=hl.to (fun b hb=>by show b<N+1+1;have:b<w.heap.size:=hb;omega) (fun b hb o=>hbA.cell (p:=⟨b,o,none⟩) (by show b<N;rw [hN];exact hb))
 obtain ⟨wB,hwB⟩:∃ wB,wB=wA.alloc (.cells #[.slice none 0 0] 75):=⟨_,rfl⟩
 have hBB:Below (N+1+1) wA wB:=by rw [hwB];exact (Below.refl _ _).alloc (by omega) _
 have hWB:WR wB (N+1+1) (.slice none 0 0) []:=by
  refine ⟨?_,World.ownsRow_nil _ _ _ _⟩;rw [hwB,<- hD];exact kJ.new _ _ _
 have hC:=oModule (f:=15) hD hPA t _ hlA hq wB _ [] hBB hWB (by simpa using hn);rw [hwA] at hwB;go_enter_defers Tryz.func12,Tryz.ntmps12;go_wp2_with (fail);have HNe:Hid (N=w.heap.size):=hN;rw [<- hN];clear hN;rw [<- hwB];refine hC.mono ?_;clear hC hwB hwA hlA hl hPA hP hq hn;generalize xG 16 t=OO at *
 cases OO with
 | none =>
  rintro e w5 ⟨rfl,hb5⟩;have bG5:kJ w5 (N+1) #[.int .i64 0] 26:=((hBB.trans hb5).block (N+1) (by omega)).trans bG;have key:=zzk (N+1) w5 bG5;have HK:Hid (Below N w w5):=hbA.trans ((hBB.trans hb5).mono (by omega));clear hb5;go_wp2;refine leaves_cons (f:=23) (args:=#[.pointer (some ⟨N+1,0,none⟩)]) (by simp) (by simp [go_sem]) ?_;refine key.mono ?_;rintro e u' w6 ⟨rfl,rfl,c0,hF6⟩;have hNe:=HNe.out;have HK6:Below N w w6:=⟨hF6.os.trans HK.out.os,hF6.tape.trans HK.out.tape,hF6.output.trans HK.out.output,jp HK.out.size hF6.size,fun j hj=>(hF6.block j (by have:=HK.out.size;omega) (by simp;omega)).trans (HK.out.block j hj)⟩
  refine ⟨.tuple #[.slice none 0 0,.int .i64 2],?_,?_⟩;·simp [results,Tryz.results12,go_sem,c0]
  ·exact ⟨by rw [<- hNe];exact HK6,rfl⟩
 | some l =>
  rintro e w5 ⟨rfl,v5,hW5,hF5,hb5⟩;have bG5:kJ w5 (N+1) #[.int .i64 0] 26:=((hBB.trans hb5).block (N+1) (by omega)).trans bG;have HK:Hid (Below N w (w5.setCell ⟨N+1,0,none⟩ (.int .i64 0))):=(hbA.trans ((hBB.trans hb5).mono (by omega))).setCell (by show N<=N+1;omega) _
  have HR:Hid ((w5.setCell ⟨N+1,0,none⟩ (.int .i64 0)).ownsRow (N+1+1+1) 9 1 v5 l.length (yF l)):=by
   have:=hW5.row;rw [js] at this;exact jU (a:=⟨N+1,0,none⟩) this (fun e=>by have h1:=(this.lt _ e).1;have h2:N+1+1+1<=N+1:=h1;omega) _
  have z0:=hW5.box.cell 0 rfl;have y0:=bG5.cell 0 rfl;have f0:=bG5.fz 0;obtain ⟨va,vc,rfl⟩:=hW5.shape;clear hb5 hF5 hW5;go_wp2;refine leaves_cons (f:=23) (args:=#[.pointer (some ⟨N+1,0,none⟩)]) (by simp) (by simp [go_sem]) ?_;refine (zpt _ _).mono ?_;rintro e u' w9 ⟨rfl,rfl,hw9⟩;subst hw9;refine ⟨.tuple #[.slice va ([]++l).length vc,.int .i64 0],?_,?_⟩;·simp [results,Tryz.results12,go_sem,y0]
  ·exact ⟨by rw [<- HNe.out];exact HK.out,_,_,rfl,HR.out⟩
theorem zno:∀ (f:Nat) (t:Tree),zV t<=f->ShT 4611686018427387904 t->okN f t
 | 0,.node k x m ks,h,_=>by have:=zac ks;unfold zV at h;omega
 | f+1,.node k x m ks,h,hs=>by
  unfold ShT at hs;have hd:zM ks<=f:=by unfold zV at h;omega
  refine ⟨hs.1,?_⟩
  have key:∀ (l:List Tree),zM l<=f->ShT.ShL 4611686018427387904 l->∀ t∈l,okN f t:=by
   intro l
   induction l with
   | nil=>intro _ _ t ht;cases ht
   | cons a r ih =>
    intro h1 h2 t ht;unfold ShT.ShL at h2;unfold zM at h1;rcases List.mem_cons.1 ht with rfl | ht
    ·exact zno f _ (by omega) h2.1
    ·exact ih (by omega) h2.2 t ht
  exact key ks hd hs.2
theorem Tryz.extra:Builder.Extra Tryz.prog Tryz.laysJoin_ren where
 sizeBuilder:=by kernel_rfl
 liesBuilder:=by kernel_rfl
 t5:=Tryz.laysFmt.t5
 a5:=Tryz.laysFmt.a5
 z5:=Tryz.laysFmt.z5
 v5:=Tryz.laysFmt.v5
 infoByte:=by kernel_rfl
 cellsByte:=by kernel_rfl
 sizeByte:=by kernel_rfl
 neB5:=by decide
theorem ze4:∀ (ws:List ByteArray),Lib.join (ws.map (·.data.toList)) [32]=zA ws
 | []=>rfl
 | [y]=>by simp [Lib.join,zA,List.intercalate]
 | y :: z :: r=>by
  have ih:=ze4 (z :: r);show _=y.data.toList++32 :: zA (z :: r);rw [<- ih];simp [Lib.join,List.intercalate,List.intersperse]
theorem zym {w:World} {B:Nat} {v:Value} {l:List ByteArray} (h:w.ownsRow B 9 1 v l.length (yF l)) (h0:0<l.length):∃ g c,v=.slice (some ⟨g,0,none⟩) l.length c/\l.length<=c/\g<w.heap.size/\∀ (j:Nat) x,l[j]?=some x->w.cell? ⟨g,0+j,none⟩=some (.string x):=by
 rcases h.2 with ⟨rfl,hn⟩|⟨g,cap,cur,rfl,_,_,h1,h2,_⟩
 ·omega
 ·refine ⟨g,cap,rfl,h1,(h.lt g rfl).2,fun j x hx=>?_⟩;have hj:j<l.length:=(List.getElem?_eq_some_iff.1 hx).1;have:=h.cellAt j (by omega);rw [Nat.zero_add,this];unfold yF;rw [List.getElem?_map,hx];rfl
theorem zwb {f:Nat} {t:Tree} {l:List ByteArray} (h:xG f t=some l):0<l.length:=by
 obtain ⟨k,x,m,ks⟩:=t;unfold xG at h;dsimp only at h;by_cases hl:kI [1] (.node k x m ks)=true
 ·rw [jv hl] at h
  cases h1:kP yQ (ks.takeWhile kT) with
  | none=>rw [h1] at h;cases h
  | some a =>
   rw [h1] at h
   cases h2:kP (qQ f) (ks.dropWhile kT) with
   | none=>simp only [jf,h2] at h;cases h
   | some b =>
    simp only [jf,h2,jh] at h;subst h;simp
 ·rw [ju hl] at h;cases h
def PrE (w:World) (o:List UInt8 × Int) (e:Ending) (w':World):Prop:=e=.returned (.tuple #[.string ⟨o.1.toArray⟩,.int .i64 o.2])/\Below w.heap.size w w'
theorem zzm (w:World) (hP:PH w) (t:Tree) (nv:Value) (hl:kC (·<w.heap.size) w t nv) (hs:ShT 4611686018427387904 t) : Calls Tryz.prog 6 #[nv] w (PrE w (xQ t)):=by
 have c24:=kc25;obtain ⟨k,x,m,a,n,c,rfl⟩:=lies_shape hl;have hA:=(Below.refl w.heap.size w).alloc (jE _) (.cells #[.int .i64 k,.string x,.int .i64 m,.slice a n c] 25);have bN:=kJ.new w #[.int .i64 k,.string x,.int .i64 m,.slice a n c] 25;have hlA:=hl.below hA;have hC1:=zmz t _ _ hlA
 have HP:Hid (xQ t=if vC t then (match xG 16 t with
  | none=>(([],2):List UInt8 × Int)
  | some w=>if 3000<(zA w).length then ([],1) else (zA w,0)) else ([],1)):=rfl
 generalize hPP:xQ t=PP at *;clear hPP;go_enter Tryz.func6,Tryz.ntmps6;go_wp2_with (fail);refine hC1.mono ?_;clear hC1;rintro e w2 ⟨rfl,hb2⟩;have hbB:=hA.trans (hb2.mono hA.size)
 cases hf:vC t with
 | false =>
  rw [hf] at HP;obtain rfl:=HP.out;clear hf;go_wp2;go_ret2
  exact ⟨rfl,hbB⟩
 | true =>
  obtain ⟨hc5,hd⟩:=zf6 t hf;have hok:okN 18 t:=zno 18 t (by omega) hs;rw [hf] at HP
  have HP2:Hid (PP=(match xG 16 t with
   | none=>(([],2):List UInt8 × Int)
   | some w=>if 3000<(zA w).length then ([],1) else (zA w,0))):=HP.out
  have hC2:=zyx w2 (hP.below hbB) t _ (hlA.below hb2) hok (by omega);have bN2:=bN.below hb2;have z0:=bN2.cell 0 rfl;have z1:=bN2.cell 1 rfl;have z2:=bN2.cell 2 rfl;have z3:=bN2.cell 3 rfl;have Hc:=show Hid _ from hc5
  clear hf HP hd hok hs hl hlA hc5
  cases hm:xG 16 t with
  | none =>
   rw [hm] at hC2 HP2;obtain rfl:=HP2.out;clear hm;go_wp2_with (fail);refine hC2.mono ?_;clear hC2;rintro e w3 ⟨hb3,rfl⟩;go_wp2;go_ret2
   exact ⟨rfl,hbB.trans (hb3.mono hbB.size)⟩
  | some l =>
   rw [hm] at hC2 HP2;have hlen:=zqj hm;have h0:=zwb hm;have hj:=zio l (zel hm);have hcl:=Hc.out;clear hm;go_wp2_with (fail);refine hC2.mono ?_;clear hC2;rintro e w3 ⟨hb3,v,B,rfl,hR⟩;obtain ⟨g,cc,rfl,hcc,hg,hcell⟩:=zym hR h0;have hJ:=Any.strings_Join Tryz.laysJoin Tryz.extra g 0 cc l ⟨#[32]⟩ w3 hcell hg (by omega) hcc (by rw [show ((⟨#[32]⟩:ByteArray).data.toList)=[32] from rfl,ze4];omega);rw [show ((⟨#[32]⟩:ByteArray).data.toList)=[32] from rfl,ze4] at hJ;have hbC:=hbB.trans (hb3.mono hbB.size);have hsz:((⟨(zA l).toArray⟩:ByteArray).size)=(zA l).length:=by show (zA l).toArray.size=_;simp
   have HS:=show Hid _ from hsz
   clear hcell hR hlen hj hsz;go_wp2_with (fail);refine hJ.mono ?_;clear hJ;rintro e w4 ⟨rfl,hb4⟩;by_cases h3:3000<(zA l).length;·rw [jv h3] at HP2;obtain rfl:=HP2.out;have hd:decide (3000<((⟨(zA l).toArray⟩:ByteArray).size:Int))=true:=decide_eq_true (by rw [HS.out];omega);clear h3;generalize (⟨(zA l).toArray⟩:ByteArray)=y at *;go_wp2;go_ret2;exact ⟨rfl,hbC.trans (hb4.mono hbC.size)⟩
   ·rw [ju h3] at HP2;have hd:decide (3000<((⟨(zA l).toArray⟩:ByteArray).size:Int))=false:=decide_eq_false (by rw [HS.out];omega);clear h3;have HE:Hid (PP=(zA l,0)):=HP2.out;have HY:Hid (∃ y:ByteArray,y=⟨(zA l).toArray⟩):=⟨_,rfl⟩
    generalize hy:(⟨(zA l).toArray⟩:ByteArray)=y at *;have HYe:=show Hid _ from hy
    clear hy HS HY;go_wp2;go_ret2;refine ⟨?_,hbC.trans (hb4.mono hbC.size)⟩;rw [HE.out,<- HYe.out];rfl
end pr
namespace chk
open Go.RowKit Go.Shelf
open syn face
theorem vU (L:List Loc):(kN L).length=L.length:=by unfold kN;rw [List.length_map]
theorem zr8 (L:List Loc) (n:Nat):(kN L).take n=kN (L.take n):=by unfold kN;rw [List.map_take]
theorem zxk {w:World} {B:Nat} {T:TypeId} {k n c:Nat} {a:Option Addr} {xs:List Value} (h:w.ownsRow B T k (.slice a n c) n xs):n<=c:=by
 rcases h.2 with ⟨e,hn⟩|⟨g,cap,cur,e,h3,h4,h5,h6,_⟩
 ·omega
 ·injection e with _ _ e2;omega
section
variable {E:Env} {p:Pr} {w0:World} {D Kb kn:Nat} {kf:KF}
theorem oBlock (k:Int) (x:ByteArray) (m:Int) (ks:List Tree) (hb:BlT (.node k x m ks)) (hS:zgd E p w0 D Kb kn kf ks):zgk E p w0 D Kb kn kf (.node k x m ks):=by
 intro ctx deep first L u v w at_ hv hInv hLab h20 hctx hdeep h h0 hm
 have c24:=kc25;have hst:∀ t∈ks,StT t:=by cases hb with | mk h=>exact h
 rw [xC] at hm;have hcp:=kX ks;unfold kC at hv;obtain ⟨a,c,rfl,hl,hk⟩:=hv;obtain ⟨ua,uc,rfl,hucl,hug⟩:=lexs.own_shape h.rl;rw [vU] at h |-;have hub:(Value.slice ua L.length uc).ownBlock≠some w.heap.size:=fun e=>by have:=(h.rl.lt _ e).2;omega
 have hd:=h.lt
 have HR:Hid (blF E p ctx (deep+1) (.node k x m ks) L at_=match zE E p ctx (deep+1) ks L (at_+1) with
   | .bad c b=>.bad c b
   | .ok q=>.ok (q.1.take L.length,q.2)):=by
  show _=_;unfold blF;rw [zmi E p ctx (deep+1) (by omega)];cases zE E p ctx (deep+1) ks L (at_+1)<;>rfl
 obtain ⟨R,hR⟩:∃ R,blF E p ctx (deep+1) (.node k x m ks) L at_=R:=⟨_,rfl⟩
 rw [hR] at HR |-;clear hR;have hI0:=h.alloc (.cells #[.int .i64 k,.string x,.int .i64 m,.slice a ks.length c] 25);have hf0:=(FrU.refl D (.slice ua L.length uc) w).alloc (.cells #[.int .i64 k,.string x,.int .i64 m,.slice a ks.length c] 25);have hBg:=hI0.begin h0 (by omega);have HA:Hid (∀ q,zE E p ctx (deep+1) ks L (at_+1)=.ok q->Ext (deep+1) L q.1):=fun q hq=>(zga E p ks _ _ _ _ _ hst hq).1
 have hC:=fun W hI1=>hS ctx (deep+1) L.length L (.slice ua L.length uc) a c W (at_+1) hk hInv.enter hLab h20 hctx (by omega) hI1 (by omega) (by omega)
 generalize zE E p ctx (deep+1) ks L (at_+1)=X at *;clear hk hS hst hb
 cases X with
 | bad cc bb =>
  have HB:Hid (R=.bad cc bb):=HR.out;go_enter Tryz.func108,Tryz.ntmps108
  go_wp2_with first
   | (go_at_call 39;refine hBg.mono ?_;rintro e w1 ⟨rfl,hw1⟩;have hI1:CS w0 w1 D Kb kn kf (kN L) (.slice ua L.length uc) (at_+1):=by { rw [hw1];exact hI0.setAt _ };have hQ1:Q4 w.heap.size (.int .i64 k) (.string x) (.int .i64 m) (.slice a ks.length c) w1:=by { rw [hw1];exact Q4.other (by omega) ⟨by simp,by simp,by simp,by simp⟩ _ _ };clear hw1;obtain ⟨q0,q1,q2,q3⟩:=id hQ1;have m6:=hI1.c6)
   | (go_at_call 69;refine (hC _ hI1).mono ?_;rintro e w2 ⟨rfl,hb2⟩)
  exact ⟨rfl,SR.mkBad HB.out hb2⟩
 | ok q =>
  obtain ⟨L2,a2⟩:=q;have hE:=HA.out _ rfl;have HB:Hid (R=.ok (L,a2)):=HR.out.trans (by show Res.ok (L2.take L.length,a2)=_;rw [hE.take]);have hle:=hE.len;have htk:=hE.take;go_enter Tryz.func108,Tryz.ntmps108
  go_wp2_with first
   | (go_at_call 39;refine hBg.mono ?_;rintro e w1 ⟨rfl,hw1⟩;have hI1:CS w0 w1 D Kb kn kf (kN L) (.slice ua L.length uc) (at_+1):=by { rw [hw1];exact hI0.setAt _ };have hQ1:Q4 w.heap.size (.int .i64 k) (.string x) (.int .i64 m) (.slice a ks.length c) w1:=by { rw [hw1];exact Q4.other (by omega) ⟨by simp,by simp,by simp,by simp⟩ _ _ };have hf1:FrU D (.slice ua L.length uc) (.slice ua L.length uc) w w1:=by { rw [hw1];exact hf0.set _ _ (fun _ e=>e) };clear hw1;obtain ⟨q0,q1,q2,q3⟩:=id hQ1;have m6:=hI1.c6)
   | (go_at_call 69;refine (hC _ hI1).mono ?_;rintro e w2 ⟨rfl,u2,hI2,hf2⟩;obtain ⟨ua2,uc2,rfl,hucl2,hug2⟩:=lexs.own_shape hI2.rl;have hI2':=hI2;rw [vU] at hI2 hf2 hucl2;have m62:=hI2.c6;have mf2:=hI2.fz 6;have hcap2:L2.length<=uc2:=zxk (by have:=hI2.rl;rw [vU] at this;exact this))
  go_end0
  have hcut:=hI2'.cut (n:=L.length) (by rw [vU];exact hle);rw [zr8,htk] at hcut;exact SR.mkOk HB.out hcut (FrU.set (u1:=.slice ua2 L2.length uc2) (hf1.trans hf2) 6 _ (fun b e=>by cases ua2<;>exact e))
end
end chk
namespace chk
open syn face
structure Tab (E:Env) (L:List Loc) (kf:ByteArray->Option FV) (vs:List VarD):Prop where
 ok:cC E
 lab:xD L
 hv:∀ x,zG x->(vJ kf vs x).map (fun v=>(v.label,v.size))=cD E L x
 hp:∀ x,zG x->uP kf x=procF E x
section
variable {E:Env} {L:List Loc} {kf:ByteArray->Option FV} {vs:List VarD}
theorem Tab.lv (h:Tab E L kf vs) {x:ByteArray} {v:VarD} (hx:zG x) (hv:vJ kf vs x=some v):Lab v.label/\0<=v.size:=by
 have:=h.hv x hx;rw [hv] at this;exact zk7 h.ok h.lab this.symm
theorem Tab.lp (h:Tab E L kf vs) {x:ByteArray} {p:ProcD} (hx:zG x) (hp:uP kf x=some p):(∀ l∈p.params,Lab l)/\Lab p.writes/\Lab p.given:=by
 have:=h.hp x hx;rw [hp] at this;exact zjv h.ok this.symm
theorem Tab.agr (h:Tab E L kf vs) (ctx:Int):Agr E L ctx kf vs :=
 zzp h.hv h.hp (fun x v hx hv=>h.lv hx hv) (fun x p hx hp=>⟨(h.lp hx hp).1,(h.lp hx hp).2.1⟩)
theorem zmt (h:Tab E L kf vs) (ctx:Int) {k:Int} {x:ByteArray} {m:Int} {ks:List Tree} (hp:PlT (.node k x m ks)) (a:Int):(plF E L ctx (.node k x m ks) a=match plP kf vs k x a (exL E L ctx ks (a+1)) with
  | .bad c b=>.bad c b
  | .ok q=>.ok (q.1.label,q.2.1,q.2.2))/\∀ q,plP kf vs k x a (exL E L ctx ks (a+1))=.ok q->Lab q.1.label/\Lab q.2.1:=by
 cases hp with
 | nam hx =>
  have e:=h.hv x hx;have hlv:=fun v=>h.lv (v:=v) hx
  have hX:exL E L ctx [] (a+1)=.ok ([],a+1):=by simp only [exL]
  simp only [plF,plP,hX];unfold vR;rw [jv rfl,<- e]
  cases hq:vJ kf vs x with
  | none=>exact ⟨rfl,fun q h=>by cases h⟩
  | some v =>
   obtain ⟨h1,h2⟩:=hlv v hq;dsimp only [Option.map_some];by_cases h3:v.size=0;·rw [jv h3,jv (by simp [h3])];exact ⟨rfl,fun q h=>by cases h;exact ⟨h1,.inl rfl⟩⟩
   ·rw [ju h3,ju (by simp;omega)]
    exact ⟨rfl,fun q h=>by cases h⟩
 | item hx he =>
  rename_i t;have e:=h.hv x hx;have hlv:=fun v=>h.lv (v:=v) hx
  have hlt:=fun q=>zb0 (ctx:=ctx) (alone:=false) (t:=t) (a:=a+1) (q:=q) h.ok h.lab
  simp only [plF,zbv]
  cases hX:exF E L ctx false t (a+1) with
  | bad c b=>exact ⟨rfl,fun q h=>by cases h⟩
  | ok q =>
   have hl:=hlt q hX;simp only [plP];unfold vR;rw [ju (by decide),jv rfl,<- e]
   cases hq:vJ kf vs x with
   | none=>exact ⟨rfl,fun q h=>by cases h⟩
   | some v =>
    obtain ⟨h1,h2⟩:=hlv v hq;dsimp only [Option.map_some];by_cases h3:0<v.size;·rw [jv h3,jv (by simp [h3])];refine ⟨?_,fun q h=>by cases h;exact ⟨h1,hl⟩⟩;show Res.ok (v.label,jn 0 q.1,q.2)=Res.ok (v.label,q.1,q.2);rw [jn0 hl]
    ·rw [ju h3,ju (by simp;omega)];exact ⟨rfl,fun q h=>by cases h⟩
section
variable (p:Pr) (ctx deep a:Int)
theorem zyc (h:Tab E L kf vs) (hc:Lab ctx) {first:Nat} (hI:InvL L deep first) (x:ByteArray) (l:Bool) (e:Tree):stF E p ctx deep false (.node 7 x (bI l) [e]) L a=match exF E L ctx false e (a+1) with
  | .bad c b=>.bad c b
  | .ok q=>if ((kN L).drop first).any (fun o=>eqS o.name x)=true then .bad 5 a else if 20<=L.length then .bad 1 a else if zS (bI l) [q.1,ctx]=false then .bad 7 a else .ok (L++[⟨x,bI l,deep⟩],q.2):=by
 unfold stF;rw [ju (by decide)];unfold uS;rw [jv rfl,zbv,hI.any]
 cases hX:exF E L ctx false e (a+1) with
 | bad c b=>rfl
 | ok q =>
  have hl:=zb0 h.ok h.lab hX;dsimp only;rw [show uB [q.1] 0=q.1 from jn0 hl];simp only [znp (fG l) hl hc]
theorem zzg (h:Tab E L kf vs) (hc:Lab ctx) {k:Int} {x:ByteArray} {m:Int} {ks:List Tree} (hp:PlT (.node k x m ks)) (e:Tree):stF E p ctx deep false (.node 8 empty 0 [.node k x m ks,e]) L a=match plP kf vs k x (a+1) (exL E L ctx ks (a+1+1)) with
  | .bad c b=>.bad c b
  | .ok q=>match exF E L ctx false e q.2.2 with
   | .bad c b=>.bad c b
   | .ok s=>if zS q.1.label [s.1,q.2.1,ctx]=false then .bad 7 a else .ok (L,s.2):=by
 unfold stF;rw [ju (by decide)];unfold uS;rw [ju (by decide),jv rfl];obtain ⟨h1,h2⟩:=zmt h ctx hp (a+1);dsimp only;rw [h1]
 cases hX:plP kf vs k x (a+1) (exL E L ctx ks (a+1+1)) with
 | bad c b=>rfl
 | ok q =>
  obtain ⟨l1,l2⟩:=h2 q hX;dsimp only
  cases hY:exF E L ctx false e q.2.2 with
  | bad c b=>rfl
  | ok s =>
   have hl:=zb0 h.ok h.lab hY;dsimp only;simp only [zm3 l1 hl l2 hc]
theorem yah (h:Tab E L kf vs) {x:ByteArray} {m:Int} {ks:List Tree} (hx:zG x):stF E p ctx deep false (.node 9 empty 0 [.node 18 x m ks]) L a=match clP kf ctx true x (a+1) (exL E L ctx ks (a+1+1)) with
  | .bad c b=>.bad c b
  | .ok q=>.ok (L,q.2):=by
 unfold stF;rw [ju (by decide)];unfold uS;rw [ju (by decide),ju (by decide),jv rfl];dsimp only;rw [(h.agr ctx).call hx];cases clP kf ctx true x (a+1) (exL E L ctx ks (a+1+1))<;>rfl
theorem zzi (h:Tab E L kf vs) (hc:Lab ctx) (l:Bool) (e:Tree):stF E p ctx deep false (.node 12 empty (bI l) [e]) L a=match exF E L ctx false e (a+1) with
  | .bad c b=>.bad c b
  | .ok q=>if zS (bI l) [q.1,ctx]=false then .bad 7 a else .ok (L,q.2):=by
 unfold stF;rw [ju (by decide)];unfold uS;rw [ju (by decide),ju (by decide),ju (by decide),jv rfl,zbv]
 cases hX:exF E L ctx false e (a+1) with
 | bad c b=>rfl
 | ok q =>
  have hl:=zb0 h.ok h.lab hX;dsimp only;rw [show uB [q.1] 0=q.1 from jn0 hl];simp only [znp (fG l) hl hc]
theorem yat (h:Tab E L kf vs) (hc:Lab ctx) (l:Bool) {k:Int} {x:ByteArray} {m:Int} {ks:List Tree} (hp:PlT (.node k x m ks)):stF E p ctx deep false (.node 13 empty (bI l) [.node k x m ks]) L a=match plP kf vs k x (a+1) (exL E L ctx ks (a+1+1)) with
  | .bad c b=>.bad c b
  | .ok q=>if zS (bI l) [ctx]=false then .bad 7 a else if zS q.1.label [bI l,q.2.1,ctx]=false then .bad 7 a else .ok (L,q.2.2):=by
 unfold stF;rw [ju (by decide)];unfold uS;rw [ju (by decide),ju (by decide),ju (by decide),ju (by decide),jv rfl];obtain ⟨h1,h2⟩:=zmt h ctx hp (a+1);dsimp only;rw [h1]
 cases hX:plP kf vs k x (a+1) (exL E L ctx ks (a+1+1)) with
 | bad c b=>rfl
 | ok q =>
  obtain ⟨l1,l2⟩:=h2 q hX;dsimp only;simp only [znh (fG l) hc,zm3 l1 (fG l) l2 hc]
theorem zy1 (e:Tree):stF E p ctx deep false (.node 14 empty 0 [e]) L a=match exF E L ctx false e (a+1) with
  | .bad c b=>.bad c b
  | .ok q=>.bad 2 a:=by
 unfold stF;rw [ju (by decide)];unfold uS;rw [ju (by decide),ju (by decide),ju (by decide),ju (by decide),ju (by decide),zbv]
 cases hX:exF E L ctx false e (a+1) with
 | bad c b=>rfl
 | ok q=>simp
theorem zwy (h:Tab E L kf vs) (hg:p.gives=true) (hl:Lab p.given) (e:Tree):stF E p ctx deep true (.node 14 empty 0 [e]) L a=match exF E L ctx false e (a+1) with
  | .bad c b=>.bad c b
  | .ok q=>if zS p.given [q.1]=false then .bad 7 a else .ok (L,q.2):=by
 unfold stF;rw [ju (by decide)];unfold uS;rw [ju (by decide),ju (by decide),ju (by decide),ju (by decide),ju (by decide),zbv,hg]
 cases hX:exF E L ctx false e (a+1) with
 | bad c b=>rfl
 | ok q =>
  have hl2:=zb0 h.ok h.lab hX;dsimp only;rw [show uB [q.1] 0=q.1 from jn0 hl2,ju (by simp)];simp only [znh hl hl2]
theorem yak {k:Int} (hk:k=10\/k=11) (x:ByteArray) (m:Int) (e:Tree) (r:List Tree):stF E p ctx deep false (.node k x m (e :: r)) L a=match exF E L ctx false e (a+1) with
  | .bad c b=>.bad c b
  | .ok q=>vE E p (jn ctx q.1) (deep+1) r L q.2:=by
 unfold stF;rw [jv hk];dsimp only;cases exF E L ctx false e (a+1)<;>rfl
end
end
end chk
end Go.Proofs.YtaadmdlbkhcfnaaGreatDoor
