/- What the program's May answers: a contract. The names that are known lie in a map of its own. -/
import Derived.Test.YtaadmdlbkhcfnaaGreatDoorNC09
set_option maxHeartbeats 4000000
set_option linter.unusedVariables false
set_option linter.unusedSimpArgs false
set_option maxRecDepth 100000
namespace Go.Proofs.YtaadmdlbkhcfnaaGreatDoor
namespace face
open Go.RowKit
open lexs (qP)
open syn (kK eqS)
theorem zt0 (v:ProcD) (u:Value) (w:World) (hw:qP w) (hu:yU w u v.params) : Calls Tryz.prog 16 #[yJ v u] w fun e w'=>e=.returned (.bool (gJ v))/\Below w.heap.size w w':=by
 have c6:Tryz.prog.cellsOf 62=6:=fL;obtain ⟨x,P,ps,wt,gs,gn⟩:=v;unfold yJ;obtain ⟨a,c,rfl,hl,hk⟩:=hu;simp only at hl hk |-;have hB:=(Below.refl w.heap.size w).alloc (jE _) (.cells #[.string x,.bool P,.slice a ps.length c,.int .i64 wt,.bool gs,.int .i64 gn] 62);have hN:=zay x _ (qP.below hw hB);obtain ⟨V,hV⟩:∃ V,V=gJ ⟨x,P,ps,wt,gs,gn⟩:=⟨_,rfl⟩
 rw [<- hV];have HV:Hid (V=(kK x&&(P&&(decide (ps.length<=5)&&(ps.all xH&&(xH wt&&(xH gn&&(gs||gn==0)))))))):=hV;clear hV;cases hn:kK x
 case false =>
  have HF:Hid (V=false):=by show _=_;rw [HV.out,hn];rfl
  go_enter Tryz.func16,Tryz.ntmps16;go_wp2_with (go_at_call 14;refine hN.mono ?_;rw [hn];rintro e w2 ⟨rfl,hb2⟩);go_ret;exact ⟨vP HF.out.symm,hB.trans (hb2.mono (by simp))⟩
 cases hp:P
 case false =>
  subst hp;have HF:Hid (V=false):=by show _=_;rw [HV.out,hn];rfl
  go_enter Tryz.func16,Tryz.ntmps16;go_wp2_with (go_at_call 14;refine hN.mono ?_;rw [hn];rintro e w2 ⟨rfl,hb2⟩;have q1:w2.cell? ⟨w.heap.size,1,none⟩=some (.bool false):=xN hb2 1);go_ret;exact ⟨vP HF.out.symm,hB.trans (hb2.mono (by simp))⟩
 subst hp;by_cases h5:ps.length<=5
 case neg =>
  have HF:Hid (V=false):=by show _=_;rw [HV.out,hn,decide_eq_false h5];rfl
  go_enter Tryz.func16,Tryz.ntmps16;go_wp2_with (go_at_call 14;refine hN.mono ?_;rw [hn];rintro e w2 ⟨rfl,hb2⟩;have q1:w2.cell? ⟨w.heap.size,1,none⟩=some (.bool true):=xN hb2 1;have q2:w2.cell? ⟨w.heap.size,2,none⟩=some (.slice a ps.length c):=xN hb2 2);go_ret;exact ⟨vP HF.out.symm,hB.trans (hb2.mono (by simp))⟩
 have HV2:Hid (V=(ps.all xH&&(xH wt&&(xH gn&&(gs||gn==0))))):=by show _=_;rw [HV.out,hn,decide_eq_true h5];rfl
 clear HV;go_enter Tryz.func16,Tryz.ntmps16;go_wp2_with (go_at_call 14;refine hN.mono ?_;rw [hn];rintro e w2 ⟨rfl,hb2⟩;have q1:w2.cell? ⟨w.heap.size,1,none⟩=some (.bool true):=xN hb2 1;have q2:w2.cell? ⟨w.heap.size,2,none⟩=some (.slice a ps.length c):=xN hb2 2);have q3:w2.cell? ⟨w.heap.size,3,none⟩=some (.int .i64 wt):=xN hb2 3;have q4:w2.cell? ⟨w.heap.size,4,none⟩=some (.bool gs):=xN hb2 4;have q5:w2.cell? ⟨w.heap.size,5,none⟩=some (.int .i64 gn):=xN hb2 5;have hbw:Below w.heap.size w w2:=hB.trans (hb2.mono (by simp));go_loopw [23] (fun t wq=>∃ j:Nat,j<=ps.length/\t=.int .i64 j/\wq=w2/\Hid (∀ i (h:i<ps.length),i<j->xH ps[i]=true)) (fun t _=>ps.length - (intOf t).toNat)
 case atStart=>exact ⟨0,jz _,rfl,rfl,fun i _ h=>by omega⟩
 case round =>
  obtain ⟨j,hj,rfl,rfl,HN⟩:=hrel;by_cases hlt:j<ps.length
  ·obtain ⟨g,o,rfl,hc⟩:=hk (by intro e;rw [e] at hlt;simp at hlt);have q:=keep (hc j hlt) hbw;cases he:xH ps[j]
   ·have HF:Hid (V=false):=by show _=_;rw [HV2.out,zgh j hlt he];rfl
    generalize ps[j]=y at he q;go_wp2_with (go_at_call 29;refine (dH _ _).mono ?_;rw [he];rintro e w3 ⟨rfl,hw3⟩;obtain rfl:=hw3.symm);go_ret;exact ⟨vP HF.out.symm,hbw⟩
   ·have HE:Hid (xH ps[j]=true):=he;generalize ps[j]=y at he q;go_wp2_with (go_at_call 29;refine (dH _ _).mono ?_;rw [he];rintro e w3 ⟨rfl,hw3⟩;obtain rfl:=hw3.symm);go_roundw
    case rel=>exact ⟨j+1,by omega,by go_num,trivial,fun i h h1=>by
     rcases jL i j with h3 | h3
     ·exact HN.out i h h3
     ·have:i=j:=by omega
      subst this
      exact HE.out⟩
    case measure=>simp [intOf];omega
  ·have HA:Hid (V=(xH wt&&(xH gn&&(gs||gn==0)))):=by show _=_;rw [HV2.out,zf5 (fun i h=>HN.out i h (by omega))];rfl
   clear HV2 HN;cases h1:xH wt
   ·have HF:Hid (V=false):=by show _=_;rw [HA.out,h1];rfl
    go_wp2_with (go_at_call 29;refine (dH _ _).mono ?_;rw [h1];rintro e w3 ⟨rfl,hw3⟩;obtain rfl:=hw3.symm);go_ret;exact ⟨vP HF.out.symm,hbw⟩
   cases h2:xH gn
   ·have HF:Hid (V=false):=by show _=_;rw [HA.out,h1,h2];rfl
    go_wp2_with (go_at_call 29;refine (dH _ _).mono ?_;(first | rw [h1] | rw [h2]);rintro e w3 ⟨rfl,hw3⟩;obtain rfl:=hw3.symm);go_ret;exact ⟨vP HF.out.symm,hbw⟩
   cases h3:gs
   ·subst h3;have HF:Hid (V=(gn==0)):=by show _=_;rw [HA.out,h1,h2];rfl
    go_wp2_with (go_at_call 29;refine (dH _ _).mono ?_;(first | rw [h1] | rw [h2]);rintro e w3 ⟨rfl,hw3⟩;obtain rfl:=hw3.symm);go_ret;exact ⟨vP HF.out.symm,hbw⟩
   ·subst h3;have HF:Hid (V=true):=by show _=_;rw [HA.out,h1,h2];rfl
    go_wp2_with (go_at_call 29;refine (dH _ _).mono ?_;(first | rw [h1] | rw [h2]);rintro e w3 ⟨rfl,hw3⟩;obtain rfl:=hw3.symm);go_ret;exact ⟨vP HF.out.symm,hbw⟩
end face
namespace face
open Go.RowKit Go.Maps Go.WideMaps
open lexs (qP)
open syn (kK eqS)
structure Inv (w wr:World) (B:Nat) (x:ByteArray) (vv pv:Value) (l:List ByteArray):Prop where
 below:Below w.heap.size w wr
 c0:wr.cell? ⟨w.heap.size,0,none⟩=some (.string x)
 c1:wr.cell? ⟨w.heap.size,1,none⟩=some vv
 c2:wr.cell? ⟨w.heap.size,2,none⟩=some pv
 lt:w.heap.size<B
 own:wr.ownsMap Tryz.prog 9 (unitElem (H:=Unit)) B l.length (setD l)
theorem Inv.next {w wr w2:World} {B:Nat} {x:ByteArray} {vv pv:Value} {l:List ByteArray} (h:Inv w wr B x vv pv l) (hb:Below wr.heap.size wr w2):Inv w w2 B x vv pv l :=
 ⟨h.below.trans (hb.mono h.below.size),keep h.c0 hb,keep h.c1 hb,keep h.c2 hb,h.lt,h.own.kept (za7 hb) (by simp)⟩
theorem Inv.put {w wr w2:World} {B:Nat} {x y:ByteArray} {vv pv:Value} {l:List ByteArray} (h:Inv w wr B x vv pv l) (hg:wr.grownBy w2 (some B)) (ho:w2.ownsMap Tryz.prog 9 (unitElem (H:=Unit)) B (l.length+1) ((setD l).put (yM y) (.agg []))) : Inv w w2 B x vv pv (l++[y]):=by
 have hne:some w.heap.size≠some B:=by have:=h.lt;simp;omega
 refine ⟨h.below.grown hg h.below.size (fun k hk=>?_),zef hg h.c0 hne,zef hg h.c1 hne,zef hg h.c2 hne,h.lt,?_⟩;·cases hk;exact ji h.lt
 ·rw [zji,jb];exact ho
theorem zbl {w w2:World} {o:Obj} (hb:Below (w.alloc o).heap.size (w.alloc o) w2):Below w.heap.size w w2 :=
 (bal o).trans (hb.mono (by simp))
theorem zpr {v:VarD} (h:gP v=true):kK v.name=true:=by
 unfold gP at h;simp only [jj] at h;exact h.1
theorem zo6 {v:ProcD} (h:gJ v=true):kK v.name=true:=by
 unfold gJ at h;simp only [jj] at h;exact h.1
theorem zi7 {α β:Type} (f:α->β) (l:List α) (j:Nat) (h:j<l.length):(l.take (j+1)).map f=(l.take j).map f++[f l[j]]:=by
 rw [List.take_add_one,List.map_append,List.getElem?_eq_getElem h];rfl
theorem ybe (f:FaceD) (u:Value) (w:World) (hw:qP w) (hu:yZ w u f) : Calls Tryz.prog 7 #[u] w fun e w'=>e=.returned (.bool (cF f))/\Below w.heap.size w w':=by
 have c3:Tryz.prog.cellsOf 41=3:=gN;have c4:Tryz.prog.cellsOf 57=4:=cell4;have c6:Tryz.prog.cellsOf 62=6:=fL;have hmm:=@run_makeMap Tryz.prog;obtain ⟨vv,pv,rfl,hvs,hps⟩:=hu;obtain ⟨x,vs,ps⟩:=f;simp only at hvs hps |-;obtain ⟨a,c,rfl,hl,hk⟩:=hvs;obtain ⟨b,d,rfl,hl2,hk2⟩:=hps;have hB:=(Below.refl w.heap.size w).alloc (jE _) (.cells #[.string x,.slice a vs.length c,.slice b ps.length d] 41);have hN:=zay x _ (qP.below hw hB);obtain ⟨V,hV⟩:∃ V,V=cF ⟨x,vs,ps⟩:=⟨_,rfl⟩
 rw [<- hV];have HV:Hid (V=(kK x&&(decide (vs.length+ps.length<=20)&&(vs.all gP&&(ps.all gJ&&xA [] (zma ⟨x,vs,ps⟩)))))):=hV;clear hV;cases hn:kK x
 case false =>
  have HF:Hid (V=false):=by show _=_;rw [HV.out,hn];rfl
  go_enter Tryz.func7,Tryz.ntmps7;go_wp2_with (go_at_call 14;refine hN.mono ?_;rw [hn];rintro e w2 ⟨rfl,hb2⟩);go_ret;exact ⟨vP HF.out.symm,hB.trans (hb2.mono (by simp))⟩
 by_cases h20:vs.length+ps.length<=20
 case neg =>
  have HF:Hid (V=false):=by show _=_;rw [HV.out,hn,decide_eq_false h20];rfl
  have h20':20<(vs.length:Int)+(ps.length:Int):=by omega
  have hwr:wrap64 ((vs.length:Int)+(ps.length:Int))=(vs.length:Int)+(ps.length:Int):=by unfold wrap64;omega
  go_enter Tryz.func7,Tryz.ntmps7;go_wp2_with (go_at_call 14;refine hN.mono ?_;rw [hn];rintro e w2 ⟨rfl,hb2⟩);go_ret;exact ⟨vP HF.out.symm,hB.trans (hb2.mono (by simp))⟩
 have HV2:Hid (V=(vs.all gP&&(ps.all gJ&&xA [] (vs.map (·.name)++ps.map (·.name))))):=by show _=_;rw [HV.out,hn,decide_eq_true h20];rfl
 clear HV;have h20':(vs.length:Int)+(ps.length:Int)<=20:=by omega
 have hwr:wrap64 ((vs.length:Int)+(ps.length:Int))=(vs.length:Int)+(ps.length:Int):=by unfold wrap64;omega
 go_enter Tryz.func7,Tryz.ntmps7;go_wp2_with (go_at_call 14;refine hN.mono ?_;rw [hn];rintro e w2 ⟨rfl,hb2⟩;have q0:w2.cell? ⟨w.heap.size,0,none⟩=some (.string x):=xN hb2 0;have q1:w2.cell? ⟨w.heap.size,1,none⟩=some (.slice a vs.length c):=xN hb2 1;have q2:w2.cell? ⟨w.heap.size,2,none⟩=some (.slice b ps.length d):=xN hb2 2;have r1:=fun ob=>xU q1 ob);have hbw:Below w.heap.size w w2:=zbl hb2;have hlt2:w.heap.size<w2.heap.size:=jR _ _ q0
 have hI0:Inv w (w2.alloc (.map #[] 0)) w2.heap.size x (.slice a vs.length c) (.slice b ps.length d) ((vs.take 0).map (·.name)) :=
  ⟨hbw.alloc hbw.size _,xU q0 _,xU q1 _,xU q2 _,hlt2,World.ownsMap_made _ _ _ _⟩
 generalize w2.heap.size=B at hI0 hlt2 |-;go_loopw [28] (fun t wr=>∃ j:Nat,j<=vs.length/\t=.int .i64 j/\Inv w wr B x (.slice a vs.length c) (.slice b ps.length d) ((vs.take j).map (·.name))/\Hid (∀ i (h:i<vs.length),i<j->gP vs[i]=true)) (fun t _=>vs.length - (intOf t).toNat)
 case atStart=>exact ⟨0,jz _,rfl,hI0,fun i _ h=>by omega⟩
 case round =>
  obtain ⟨j,hj,rfl,hI,HN⟩:=hrel;clear hI0 q0 q1 q2 r1 hb2 hbw;by_cases hlt:j<vs.length
  ·obtain ⟨g,o,rfl,hc⟩:=hk (by intro e;rw [e] at hlt;simp at hlt);obtain ⟨k0,k1,k2,k3⟩:=hc j hlt;have q0:=keep k0 hI.below;have q1:=keep k1 hI.below;have q2:=keep k2 hI.below;have q3:=keep k3 hI.below;clear k0 k1 k2 k3;have hM:=zvr vs[j] (wr.alloc (.cells #[.string vs[j].name,.bool vs[j].pub,.int .i64 vs[j].label,.int .i64 vs[j].size] 57)) (qP.below (qP.below hw hI.below) (bal _));unfold qN at hM;cases he:gP vs[j]
   ·have HF:Hid (V=false):=by show _=_;rw [HV2.out,zgh j hlt he];rfl
    rw [he] at hM;go_wp2_with (go_at_call 15;refine hM.mono ?_;rintro e w3 ⟨rfl,hb3⟩);go_ret;exact ⟨vP HF.out.symm,(hI.next (zbl hb3)).below⟩
   ·have HE:Hid (gP vs[j]=true):=he;rw [he] at hM;have hkey:=zlb (zpr he);have hlen:((vs.take j).map (·.name)).length<maxLen:=by unfold maxLen;simp;omega
    go_wp2_with first
     | (go_at_call 15;refine hM.mono ?_;rintro e w3 ⟨rfl,hb3⟩;have hI3:=hI.next (zbl hb3);have r0:w3.cell? ⟨wr.heap.size,0,none⟩=some (.string vs[j].name):=xN hb3 0)
     | (at_mapUpdate;refine wpList_mapUpdate_own _ rfl _ _ _ 55 rfl 9 59 fT Tryz.underlying55 (unitElem (H:=Unit)) B _ _ rfl hI3.own hlen _ _ _ rfl rfl hkey _ [] unitElem_mk ?_;intro w5 hown5 hgrow5)
     | go_in
    go_roundw
    case rel=>exact ⟨j+1,by omega,by go_num,by rw [zi7 _ _ _ hlt];exact hI3.put hgrow5 hown5,fun i h h1=>by
     rcases jL i j with h3 | h3
     ·exact HN.out i h h3
     ·have:i=j:=by omega
      subst this
      exact HE.out⟩
    case measure=>simp [intOf];omega
  ·have HA:Hid (V=(ps.all gJ&&xA [] (vs.map (·.name)++ps.map (·.name)))):=by show _=_;rw [HV2.out,zf5 (fun i h=>HN.out i h (by omega))];rfl
   clear HV2 HN hk;rw [jG (by omega)] at hI;have q2:=hI.c2;go_wp2;go_loopw [43] (fun t wr=>∃ j:Nat,j<=ps.length/\t=.int .i64 j/\Inv w wr B x (.slice a vs.length c) (.slice b ps.length d) (vs.map (·.name)++(ps.take j).map (·.name))/\Hid (∀ i (h:i<ps.length),i<j->gJ ps[i]=true)) (fun t _=>ps.length - (intOf t).toNat)
   case atStart=>exact ⟨0,jz _,rfl,by simpa using hI,fun i _ h=>by omega⟩
   case round =>
    clear hI q2;obtain ⟨j,hj,rfl,hI,HN⟩:=hrel;by_cases hlt:j<ps.length
    ·obtain ⟨g,o,rfl,hc⟩:=hk2 (by intro e;rw [e] at hlt;simp at hlt);obtain ⟨k0,k1,⟨y,k2,hy⟩,k3,k4,k5⟩:=hc j hlt;have hy':=hy;obtain ⟨ay,cy,rfl,_,_⟩:=hy';have q0:=keep k0 hI.below;have q1:=keep k1 hI.below;have q2:=keep k2 hI.below;have q3:=keep k3 hI.below;have q4:=keep k4 hI.below;have q5:=keep k5 hI.below;clear k0 k1 k2 k3 k4 k5;have hA1:=(Below.refl wr.heap.size wr).alloc (jE _) (.cells #[.string ps[j].name,.bool ps[j].pub,.slice ay ps[j].params.length cy,.int .i64 ps[j].writes,.bool ps[j].gives,.int .i64 ps[j].given] 62);have hM:=zt0 ps[j] _ _ (qP.below (qP.below hw hI.below) hA1) ((hy.below hI.below).below hA1);clear hA1;unfold yJ at hM;cases he:gJ ps[j]
     ·have HF:Hid (V=false):=by show _=_;rw [HA.out,zgh j hlt he];rfl
      rw [he] at hM;go_wp2_with (go_at_call 16;refine hM.mono ?_;rintro e w3 ⟨rfl,hb3⟩);go_ret;exact ⟨vP HF.out.symm,(hI.next (zbl hb3)).below⟩
     ·have HE:Hid (gJ ps[j]=true):=he;rw [he] at hM;have hkey:=zlb (zo6 he);have hlen:(vs.map (·.name)++(ps.take j).map (·.name)).length<maxLen:=by unfold maxLen;simp;omega
      go_wp2_with first
       | (go_at_call 16;refine hM.mono ?_;rintro e w3 ⟨rfl,hb3⟩;have hI3:=hI.next (zbl hb3);have r0:w3.cell? ⟨wr.heap.size,0,none⟩=some (.string ps[j].name):=xN hb3 0)
       | (at_mapUpdate;refine wpList_mapUpdate_own _ rfl _ _ _ 55 rfl 9 59 fT Tryz.underlying55 (unitElem (H:=Unit)) B _ _ rfl hI3.own hlen _ _ _ rfl rfl hkey _ [] unitElem_mk ?_;intro w5 hown5 hgrow5)
       | go_in
      go_roundw
      case rel=>exact ⟨j+1,by omega,by go_num,by rw [zi7 _ _ _ hlt,<- jt];exact hI3.put hgrow5 hown5,fun i h h1=>by
       rcases jL i j with h3 | h3
       ·exact HN.out i h h3
       ·have:i=j:=by omega
        subst this
        exact HE.out⟩
      case measure=>simp [intOf];omega
    ·rw [jG (by omega)] at hI
     have HB:Hid (V=((Maps.size (setD (vs.map (·.name)++ps.map (·.name))):Int)==(vs.length:Int)+(ps.length:Int))):=by
      show _=_;rw [HA.out,zf5 (fun i h=>HN.out i h (by omega)),<- zjz];simp only [jb,List.length_map,Bool.true_and];rw [Bool.eq_iff_iff];simp only [beq_iff_eq];omega
     have hown:=hI.own;have hfin:=hI.below;clear HN HA hI hk2;generalize (vs.map (·.name)++ps.map (·.name)).length=L at hown
     generalize setD (vs.map (·.name)++ps.map (·.name))=D at hown HB
     go_wp2_with first
      | (at_len;refine wpList_len_own _ rfl _ 55 rfl 9 59 Tryz.underlying55 (unitElem (H:=Unit)) B _ _ rfl hown ?_)
      | go_in
     go_ret;exact ⟨vP HB.out.symm,hfin⟩
end face
end Go.Proofs.YtaadmdlbkhcfnaaGreatDoor
