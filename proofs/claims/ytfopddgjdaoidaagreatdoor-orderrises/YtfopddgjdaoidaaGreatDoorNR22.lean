/- What the program's Check answers: its plain function, what is given. -/
import Derived.Test.YtfopddgjdaoidaaGreatDoorNR21
set_option linter.unusedVariables false
set_option linter.unusedSimpArgs false
set_option maxRecDepth 100000
namespace Go.Proofs.YtfopddgjdaoidaaGreatDoor
namespace face
open Go.RowKit
open lexs (Tok scan cellsOf tok_cells own_shape scan_own HasErr Scans)
open syn (isName reserved eqS empty)
theorem eqS_lit (y:ByteArray) (l:List UInt8):eqS y ⟨l.toArray⟩=(y.toList==l):=by unfold eqS;rw [ByteArray.toList_eq ⟨l.toArray⟩]
theorem eqS_comm (x y:ByteArray):eqS x y=eqS y x:=by unfold eqS;rw [Bool.eq_iff_iff];simp only [beq_iff_eq];exact eq_comm
theorem reserved_any (x:ByteArray):(reserved.any fun y=>eqS y x)=((x.toList==[100,111])||(x.toList==[101,108,115,101])||(x.toList==[103,105,118,101,115])||(x.toList==[104,105,103,104])||(x.toList==[105,102])||(x.toList==[105,109,112,111,114,116])||(x.toList==[105,110])||(x.toList==[108,111,119])||(x.toList==[109,111,100,117,108,101])||(x.toList==[111,117,116])||(x.toList==[112,114,111,99])||(x.toList==[112,117,98])||(x.toList==[114,101,116,117,114,110])||(x.toList==[119,104,105,108,101])):=by
 have h:(reserved.any fun y=>eqS y x)=(reserved.any fun y=>eqS x y):=by
  rw [Bool.eq_iff_iff,List.any_eq_true,List.any_eq_true]
  constructor
  ·rintro ⟨y,h1,h2⟩;exact ⟨y,h1,by rw [eqS_comm];exact h2⟩
  ·rintro ⟨y,h1,h2⟩;exact ⟨y,h1,by rw [eqS_comm];exact h2⟩
 rw [h]
 unfold reserved
 simp only [List.any_cons,List.any_nil,Bool.or_false]
 rw [show eqS x ⟨#[100,111]⟩=(x.toList==[100,111]) from eqS_lit x [100,111],show eqS x ⟨#[101,108,115,101]⟩=(x.toList==[101,108,115,101]) from eqS_lit x [101,108,115,101],show eqS x ⟨#[103,105,118,101,115]⟩=(x.toList==[103,105,118,101,115]) from eqS_lit x [103,105,118,101,115],show eqS x ⟨#[104,105,103,104]⟩=(x.toList==[104,105,103,104]) from eqS_lit x [104,105,103,104],show eqS x ⟨#[105,102]⟩=(x.toList==[105,102]) from eqS_lit x [105,102],show eqS x ⟨#[105,109,112,111,114,116]⟩=(x.toList==[105,109,112,111,114,116]) from eqS_lit x [105,109,112,111,114,116],show eqS x ⟨#[105,110]⟩=(x.toList==[105,110]) from eqS_lit x [105,110],show eqS x ⟨#[108,111,119]⟩=(x.toList==[108,111,119]) from eqS_lit x [108,111,119],show eqS x ⟨#[109,111,100,117,108,101]⟩=(x.toList==[109,111,100,117,108,101]) from eqS_lit x [109,111,100,117,108,101],show eqS x ⟨#[111,117,116]⟩=(x.toList==[111,117,116]) from eqS_lit x [111,117,116],show eqS x ⟨#[112,114,111,99]⟩=(x.toList==[112,114,111,99]) from eqS_lit x [112,114,111,99],show eqS x ⟨#[112,117,98]⟩=(x.toList==[112,117,98]) from eqS_lit x [112,117,98],show eqS x ⟨#[114,101,116,117,114,110]⟩=(x.toList==[114,101,116,117,114,110]) from eqS_lit x [114,101,116,117,114,110],show eqS x ⟨#[119,104,105,108,101]⟩=(x.toList==[119,104,105,108,101]) from eqS_lit x [119,104,105,108,101]]
 simp only [Bool.or_assoc]
theorem oisName (k a:Int) (x:ByteArray) (w:World) :
  Calls Tryz.prog 70 #[.agg #[.int .i64 k,.string x,.int .i64 a]] w fun e w'=>e=.returned (.bool (!(reserved.any fun y=>eqS y x)&&k==1))∧Below w.heap.size w w':=by
 have c29:=kc99
 rw [reserved_any]
 cases h0:(x.toList==[100,111])
 case true =>
  simp only [Bool.true_or,Bool.or_true,Bool.false_or,Bool.not_true,Bool.false_and]
  go_enter Tryz.func70,Tryz.ntmps70
  go_wp2
  go_ret
  exact ⟨rfl,bal _⟩
 cases h1:(x.toList==[101,108,115,101])
 case true =>
  simp only [Bool.true_or,Bool.or_true,Bool.false_or,Bool.not_true,Bool.false_and]
  go_enter Tryz.func70,Tryz.ntmps70
  go_wp2
  go_ret
  exact ⟨rfl,bal _⟩
 cases h2:(x.toList==[103,105,118,101,115])
 case true =>
  simp only [Bool.true_or,Bool.or_true,Bool.false_or,Bool.not_true,Bool.false_and]
  go_enter Tryz.func70,Tryz.ntmps70
  go_wp2
  go_ret
  exact ⟨rfl,bal _⟩
 cases h3:(x.toList==[104,105,103,104])
 case true =>
  simp only [Bool.true_or,Bool.or_true,Bool.false_or,Bool.not_true,Bool.false_and]
  go_enter Tryz.func70,Tryz.ntmps70
  go_wp2
  go_ret
  exact ⟨rfl,bal _⟩
 cases h4:(x.toList==[105,102])
 case true =>
  simp only [Bool.true_or,Bool.or_true,Bool.false_or,Bool.not_true,Bool.false_and]
  go_enter Tryz.func70,Tryz.ntmps70
  go_wp2
  go_ret
  exact ⟨rfl,bal _⟩
 cases h5:(x.toList==[105,109,112,111,114,116])
 case true =>
  simp only [Bool.true_or,Bool.or_true,Bool.false_or,Bool.not_true,Bool.false_and]
  go_enter Tryz.func70,Tryz.ntmps70
  go_wp2
  go_ret
  exact ⟨rfl,bal _⟩
 cases h6:(x.toList==[105,110])
 case true =>
  simp only [Bool.true_or,Bool.or_true,Bool.false_or,Bool.not_true,Bool.false_and]
  go_enter Tryz.func70,Tryz.ntmps70
  go_wp2
  go_ret
  exact ⟨rfl,bal _⟩
 cases h7:(x.toList==[108,111,119])
 case true =>
  simp only [Bool.true_or,Bool.or_true,Bool.false_or,Bool.not_true,Bool.false_and]
  go_enter Tryz.func70,Tryz.ntmps70
  go_wp2
  go_ret
  exact ⟨rfl,bal _⟩
 cases h8:(x.toList==[109,111,100,117,108,101])
 case true =>
  simp only [Bool.true_or,Bool.or_true,Bool.false_or,Bool.not_true,Bool.false_and]
  go_enter Tryz.func70,Tryz.ntmps70
  go_wp2
  go_ret
  exact ⟨rfl,bal _⟩
 cases h9:(x.toList==[111,117,116])
 case true =>
  simp only [Bool.true_or,Bool.or_true,Bool.false_or,Bool.not_true,Bool.false_and]
  go_enter Tryz.func70,Tryz.ntmps70
  go_wp2
  go_ret
  exact ⟨rfl,bal _⟩
 cases h10:(x.toList==[112,114,111,99])
 case true =>
  simp only [Bool.true_or,Bool.or_true,Bool.false_or,Bool.not_true,Bool.false_and]
  go_enter Tryz.func70,Tryz.ntmps70
  go_wp2
  go_ret
  exact ⟨rfl,bal _⟩
 cases h11:(x.toList==[112,117,98])
 case true =>
  simp only [Bool.true_or,Bool.or_true,Bool.false_or,Bool.not_true,Bool.false_and]
  go_enter Tryz.func70,Tryz.ntmps70
  go_wp2
  go_ret
  exact ⟨rfl,bal _⟩
 cases h12:(x.toList==[114,101,116,117,114,110])
 case true =>
  simp only [Bool.true_or,Bool.or_true,Bool.false_or,Bool.not_true,Bool.false_and]
  go_enter Tryz.func70,Tryz.ntmps70
  go_wp2
  go_ret
  exact ⟨rfl,bal _⟩
 cases h13:(x.toList==[119,104,105,108,101])
 case true =>
  simp only [Bool.true_or,Bool.or_true,Bool.false_or,Bool.not_true,Bool.false_and]
  go_enter Tryz.func70,Tryz.ntmps70
  go_wp2
  go_ret
  exact ⟨rfl,bal _⟩
 simp only [Bool.or_false,Bool.not_false,Bool.true_and]
 go_enter Tryz.func70,Tryz.ntmps70
 go_wp2
 go_ret
 exact ⟨rfl,bal _⟩
theorem cell_alloc {w:World} {a:Addr} {v:Value} (h:w.cell? a=some v) (ob:Obj):(w.alloc ob).cell? a=some v:=by
 rw [(bal ob).cell (World.block_lt_of_cell? w a h)];exact h
set_option maxHeartbeats 1000000 in
theorem oName (x:ByteArray) (w:World) (hw:HasErr w) :
  Calls Tryz.prog 32 #[.string x] w fun e w'=>e=.returned (.bool (isName x))∧Below w.heap.size w w':=by
 have c29:=kc99
 rw [← tells_eq]
 have hS:=scan_own x w hw
 obtain ⟨V,hV⟩:∃ V,V=tells x:=⟨_,rfl⟩
 rw [← hV]
 have HV:Hid (V=tells x):=hV
 clear hV
 generalize hR:(scan x.data.toList)=R at hS
 have HR:Hid (scan x.data.toList=R):=hR
 clear hR
 generalize hL:R.toks=L at hS
 have HL:Hid (R.toks=L):=hL
 clear hL
 generalize R.code=C,R.place=P at hS
 match L,HL,hS with
 | [],HL,hS =>
  have HF:Hid (V=false):=by show _=_;rw [HV.out];unfold tells;rw [HR.out,HL.out];rfl
  go_enter Tryz.func32,Tryz.ntmps32
  go_wp2_with (go_at_call 26;refine hS.mono ?_;rintro e w1 ⟨v,rfl,hown,hb⟩;obtain ⟨a,c,rfl,_,_⟩:=own_shape hown)
  go_ret
  exact ⟨by rw [HF.out];rfl,hb.alloc hb.size _⟩
 | [t],HL,hS =>
  have HF:Hid (V=(ownName t&&eqS (raw t) x)):=by show _=_;rw [HV.out];unfold tells;rw [HR.out,HL.out];rfl
  cases ho:(!(reserved.any fun y=>eqS y (raw t))&&t.kind==1)
  ·have HG:Hid (V=false):=by show _=_;rw [HF.out];unfold ownName;rw [ho];rfl
   go_enter Tryz.func32,Tryz.ntmps32
   go_wp2_with first
    | (go_at_call 26;refine hS.mono ?_;rintro e w1 ⟨v,rfl,hown,hb⟩;obtain ⟨a,c,rfl,_,hg⟩:=own_shape hown;obtain ⟨g,rfl⟩:=hg (by simp);obtain ⟨q0,q1,q2⟩:=tok_cells hown (k:=0) (by simp);simp only [Nat.zero_mul,Nat.zero_add,List.getElem_cons_zero] at q0 q1 q2;have r0:=fun (ob:Obj)=>cell_alloc q0 ob;have r1:=fun (ob:Obj)=>cell_alloc q1 ob;have r2:=fun (ob:Obj)=>cell_alloc q2 ob)
    | (go_at_call 70;refine (oisName _ _ _ _).mono ?_;rw [show (⟨t.text.toArray⟩:ByteArray)=raw t from rfl,ho];rintro e w2 ⟨rfl,hb2⟩)
   go_ret
   exact ⟨by rw [HG.out];rfl,lexs.below_next hb hb2⟩
  ·cases he:((raw t).toList==x.toList)
   all_goals
    have HG:Hid (V=((raw t).toList==x.toList)):=by show _=_;rw [HF.out];show ((!(reserved.any fun y=>eqS y (raw t))&&t.kind==1)&&eqS (raw t) x)=_;rw [ho];rfl
    rw [he] at HG
    go_enter Tryz.func32,Tryz.ntmps32
    go_wp2_with first
     | (go_at_call 26;refine hS.mono ?_;rintro e w1 ⟨v,rfl,hown,hb⟩;obtain ⟨a,c,rfl,_,hg⟩:=own_shape hown;obtain ⟨g,rfl⟩:=hg (by simp);obtain ⟨q0,q1,q2⟩:=tok_cells hown (k:=0) (by simp);simp only [Nat.zero_mul,Nat.zero_add,List.getElem_cons_zero] at q0 q1 q2;rw [show (⟨t.text.toArray⟩:ByteArray)=raw t from rfl] at q1;have hgl:=World.block_lt_of_cell? _ _ q1;have r0:=fun (ob:Obj)=>cell_alloc q0 ob;have r1:=fun (ob:Obj)=>cell_alloc q1 ob;have r2:=fun (ob:Obj)=>cell_alloc q2 ob)
     | (go_at_call 70;refine (oisName _ _ _ _).mono ?_;rw [ho];rintro e w2 ⟨rfl,hb2⟩;have q3:=(hb2.cell (p:=⟨g,1,none⟩) (by rw [World.size_alloc];show g<_;have:g<w1.heap.size:=hgl;omega));rw [r1] at q3)
    go_ret
    exact ⟨by rw [HG.out];rfl,lexs.below_next hb hb2⟩
 | t :: t' :: r,HL,hS =>
  have HF:Hid (V=false):=by show _=_;rw [HV.out];unfold tells;rw [HR.out,HL.out];rfl
  go_enter Tryz.func32,Tryz.ntmps32
  go_wp2_with (go_at_call 26;refine hS.mono ?_;rintro e w1 ⟨v,rfl,hown,hb⟩;obtain ⟨a,c,rfl,_,_⟩:=own_shape hown)
  go_ret
  exact ⟨by rw [HF.out];rfl,hb.alloc hb.size _⟩
end face
namespace face
open Go.RowKit
open lexs (HasErr)
open syn (isName eqS)
theorem oLabel (n:Int) (w:World):Calls Tryz.prog 71 #[.int .i64 n] w fun e w'=>e=.returned (.bool (labelB n))∧w'=w:=by
 unfold labelB
 cases h0:(n==0)
 ·cases h1:(n==1)
  all_goals
   go_enter Tryz.func71,Tryz.ntmps71
   go_wp2
   go_ret
   exact ⟨rfl,rfl⟩
 ·go_enter Tryz.func71,Tryz.ntmps71
  go_wp2
  go_ret
  exact ⟨rfl,rfl⟩
theorem HasErr.below {w w':World} (h:HasErr w) (hb:Below w.heap.size w w'):HasErr w':=by
 obtain ⟨v,hc,hv⟩:=h
 exact ⟨v,keep hc hb,hv⟩
theorem box_cell {w w2:World} {cs:Array Value} {T:TypeId} (hb:Below (w.alloc (.cells cs T)).heap.size (w.alloc (.cells cs T)) w2) (k:Nat):w2.cell? ⟨w.heap.size,k,none⟩=cs[k]?:=by
 rw [hb.cell (p:=⟨w.heap.size,k,none⟩) (by simp)]
 simp
set_option maxHeartbeats 1000000 in
theorem oMayVar (v:VarD) (w:World) (hw:HasErr w) :
  Calls Tryz.prog 33 #[varV v] w fun e w'=>e=.returned (.bool (mayVarB v))∧Below w.heap.size w w':=by
 have c4:Tryz.prog.cellsOf 76=4:=cell4
 obtain ⟨x,p,l,z⟩:=v
 unfold varV
 have hB:=(Below.refl w.heap.size w).alloc (jE _) (.cells #[.string x,.bool p,.int .i64 l,.int .i64 z] 76)
 have hN:=oName x _ (HasErr.below hw hB)
 obtain ⟨V,hV⟩:∃ V,V=mayVarB ⟨x,p,l,z⟩:=⟨_,rfl⟩
 rw [← hV]
 have HV:Hid (V=(isName x&&(p&&(labelB l&&(decide (0≤z)&&decide (z≤64)))))):=hV
 clear hV
 cases hn:isName x
 case false =>
  have HF:Hid (V=false):=by show _=_;rw [HV.out,hn];rfl
  go_enter Tryz.func33,Tryz.ntmps33
  go_wp2_with (go_at_call 32;refine hN.mono ?_;rw [hn];rintro e w2 ⟨rfl,hb2⟩)
  go_ret
  exact ⟨ret_b HF.out.symm,hB.trans (hb2.mono (by simp))⟩
 cases hp:p
 case false =>
  subst hp
  have HF:Hid (V=false):=by show _=_;rw [HV.out,hn];rfl
  go_enter Tryz.func33,Tryz.ntmps33
  go_wp2_with (go_at_call 32;refine hN.mono ?_;rw [hn];rintro e w2 ⟨rfl,hb2⟩;have q1:w2.cell? ⟨w.heap.size,1,none⟩=some (.bool false):=box_cell hb2 1)
  go_ret
  exact ⟨ret_b HF.out.symm,hB.trans (hb2.mono (by simp))⟩
 subst hp
 cases hl:labelB l
 case false =>
  have HF:Hid (V=false):=by show _=_;rw [HV.out,hn,hl];rfl
  go_enter Tryz.func33,Tryz.ntmps33
  go_wp2_with first
   | (go_at_call 32;refine hN.mono ?_;rw [hn];rintro e w2 ⟨rfl,hb2⟩;have q1:w2.cell? ⟨w.heap.size,1,none⟩=some (.bool true):=box_cell hb2 1;have q2:w2.cell? ⟨w.heap.size,2,none⟩=some (.int .i64 l):=box_cell hb2 2)
   | (go_at_call 71;refine (oLabel _ _).mono ?_;rw [hl];rintro e w3 ⟨rfl,hw3⟩;obtain rfl:=hw3.symm)
  go_ret
  exact ⟨ret_b HF.out.symm,hB.trans (hb2.mono (by simp))⟩
 by_cases h0:0≤z
 ·by_cases h64:z≤64
  all_goals
   have HF:Hid (V=decide (z≤64)):=by show _=_;rw [HV.out,hn,hl,decide_eq_true h0];rfl
   go_enter Tryz.func33,Tryz.ntmps33
   go_wp2_with first
    | (go_at_call 32;refine hN.mono ?_;rw [hn];rintro e w2 ⟨rfl,hb2⟩;have q1:w2.cell? ⟨w.heap.size,1,none⟩=some (.bool true):=box_cell hb2 1;have q2:w2.cell? ⟨w.heap.size,2,none⟩=some (.int .i64 l):=box_cell hb2 2;have q3:w2.cell? ⟨w.heap.size,3,none⟩=some (.int .i64 z):=box_cell hb2 3)
    | (go_at_call 71;refine (oLabel _ _).mono ?_;rw [hl];rintro e w3 ⟨rfl,hw3⟩;obtain rfl:=hw3.symm)
   go_ret
   exact ⟨ret_b (by rw [HF.out]<;>simp [h64]),hB.trans (hb2.mono (by simp))⟩
 ·have HF:Hid (V=false):=by show _=_;rw [HV.out,hn,hl,decide_eq_false h0];rfl
  go_enter Tryz.func33,Tryz.ntmps33
  go_wp2_with first
   | (go_at_call 32;refine hN.mono ?_;rw [hn];rintro e w2 ⟨rfl,hb2⟩;have q1:w2.cell? ⟨w.heap.size,1,none⟩=some (.bool true):=box_cell hb2 1;have q2:w2.cell? ⟨w.heap.size,2,none⟩=some (.int .i64 l):=box_cell hb2 2;have q3:w2.cell? ⟨w.heap.size,3,none⟩=some (.int .i64 z):=box_cell hb2 3)
   | (go_at_call 71;refine (oLabel _ _).mono ?_;rw [hl];rintro e w3 ⟨rfl,hw3⟩;obtain rfl:=hw3.symm)
  go_ret
  exact ⟨ret_b HF.out.symm,hB.trans (hb2.mono (by simp))⟩
/-! slices.Equal of numbers -/
set_option maxHeartbeats 2000000 in
theorem oMayProc (v:ProcD) (u:Value) (w:World) (hw:HasErr w) (hu:IntsIn w u v.params) :
  Calls Tryz.prog 34 #[procV v u] w fun e w'=>e=.returned (.bool (mayProcB v))∧Below w.heap.size w w':=by
 have c6:Tryz.prog.cellsOf 80=6:=cell6
 obtain ⟨x,P,ps,wt,gs,gn⟩:=v
 unfold procV
 obtain ⟨a,c,rfl,hl,hk⟩:=hu
 simp only at hl hk ⊢
 have hB:=(Below.refl w.heap.size w).alloc (jE _) (.cells #[.string x,.bool P,.slice a ps.length c,.int .i64 wt,.bool gs,.int .i64 gn] 80)
 have hN:=oName x _ (HasErr.below hw hB)
 obtain ⟨V,hV⟩:∃ V,V=mayProcB ⟨x,P,ps,wt,gs,gn⟩:=⟨_,rfl⟩
 rw [← hV]
 have HV:Hid (V=(isName x&&(P&&(decide (ps.length≤5)&&(ps.all labelB&&(labelB wt&&(labelB gn&&(gs||gn==0)))))))):=hV
 clear hV
 cases hn:isName x
 case false =>
  have HF:Hid (V=false):=by show _=_;rw [HV.out,hn];rfl
  go_enter Tryz.func34,Tryz.ntmps34
  go_wp2_with (go_at_call 32;refine hN.mono ?_;rw [hn];rintro e w2 ⟨rfl,hb2⟩)
  go_ret
  exact ⟨ret_b HF.out.symm,hB.trans (hb2.mono (by simp))⟩
 cases hp:P
 case false =>
  subst hp
  have HF:Hid (V=false):=by show _=_;rw [HV.out,hn];rfl
  go_enter Tryz.func34,Tryz.ntmps34
  go_wp2_with (go_at_call 32;refine hN.mono ?_;rw [hn];rintro e w2 ⟨rfl,hb2⟩;have q1:w2.cell? ⟨w.heap.size,1,none⟩=some (.bool false):=box_cell hb2 1)
  go_ret
  exact ⟨ret_b HF.out.symm,hB.trans (hb2.mono (by simp))⟩
 subst hp
 by_cases h5:ps.length≤5
 case neg =>
  have HF:Hid (V=false):=by show _=_;rw [HV.out,hn,decide_eq_false h5];rfl
  go_enter Tryz.func34,Tryz.ntmps34
  go_wp2_with (go_at_call 32;refine hN.mono ?_;rw [hn];rintro e w2 ⟨rfl,hb2⟩;have q1:w2.cell? ⟨w.heap.size,1,none⟩=some (.bool true):=box_cell hb2 1;have q2:w2.cell? ⟨w.heap.size,2,none⟩=some (.slice a ps.length c):=box_cell hb2 2)
  go_ret
  exact ⟨ret_b HF.out.symm,hB.trans (hb2.mono (by simp))⟩
 have HV2:Hid (V=(ps.all labelB&&(labelB wt&&(labelB gn&&(gs||gn==0))))):=by show _=_;rw [HV.out,hn,decide_eq_true h5];rfl
 clear HV
 go_enter Tryz.func34,Tryz.ntmps34
 go_wp2_with (go_at_call 32;refine hN.mono ?_;rw [hn];rintro e w2 ⟨rfl,hb2⟩;have q1:w2.cell? ⟨w.heap.size,1,none⟩=some (.bool true):=box_cell hb2 1;have q2:w2.cell? ⟨w.heap.size,2,none⟩=some (.slice a ps.length c):=box_cell hb2 2)
 have q3:w2.cell? ⟨w.heap.size,3,none⟩=some (.int .i64 wt):=box_cell hb2 3
 have q4:w2.cell? ⟨w.heap.size,4,none⟩=some (.bool gs):=box_cell hb2 4
 have q5:w2.cell? ⟨w.heap.size,5,none⟩=some (.int .i64 gn):=box_cell hb2 5
 have hbw:Below w.heap.size w w2:=hB.trans (hb2.mono (by simp))
 go_loopw [23] (fun t wq=>∃ j:Nat,j≤ps.length∧t=.int .i64 j∧wq=w2∧Hid (∀ i (h:i<ps.length),i<j→labelB ps[i]=true)) (fun t _=>ps.length - (intOf t).toNat)
 case atStart=>exact ⟨0,Nat.zero_le _,rfl,rfl,fun i _ h=>by omega⟩
 case round =>
  obtain ⟨j,hj,rfl,rfl,HN⟩:=hrel
  by_cases hlt:j<ps.length
  ·obtain ⟨g,o,rfl,hc⟩:=hk (by intro e;rw [e] at hlt;simp at hlt)
   have q:=keep (hc j hlt) hbw
   cases he:labelB ps[j]
   ·have HF:Hid (V=false):=by show _=_;rw [HV2.out,all_no j hlt he];rfl
    generalize ps[j]=y at he q
    go_wp2_with (go_at_call 71;refine (oLabel _ _).mono ?_;rw [he];rintro e w3 ⟨rfl,hw3⟩;obtain rfl:=hw3.symm)
    go_ret
    exact ⟨ret_b HF.out.symm,hbw⟩
   ·have HE:Hid (labelB ps[j]=true):=he
    generalize ps[j]=y at he q
    go_wp2_with (go_at_call 71;refine (oLabel _ _).mono ?_;rw [he];rintro e w3 ⟨rfl,hw3⟩;obtain rfl:=hw3.symm)
    go_roundw
    case rel=>exact ⟨j+1,by omega,by go_num,trivial,fun i h h1=>by
     rcases Nat.lt_or_ge i j with h3 | h3
     ·exact HN.out i h h3
     ·have:i=j:=by omega
      subst this
      exact HE.out⟩
    case measure=>simp [intOf];omega
  ·have HA:Hid (V=(labelB wt&&(labelB gn&&(gs||gn==0)))):=by show _=_;rw [HV2.out,all_yes (fun i h=>HN.out i h (by omega))];rfl
   clear HV2 HN
   cases h1:labelB wt
   ·have HF:Hid (V=false):=by show _=_;rw [HA.out,h1];rfl
    go_wp2_with (go_at_call 71;refine (oLabel _ _).mono ?_;rw [h1];rintro e w3 ⟨rfl,hw3⟩;obtain rfl:=hw3.symm)
    go_ret
    exact ⟨ret_b HF.out.symm,hbw⟩
   cases h2:labelB gn
   ·have HF:Hid (V=false):=by show _=_;rw [HA.out,h1,h2];rfl
    go_wp2_with (go_at_call 71;refine (oLabel _ _).mono ?_;(first | rw [h1] | rw [h2]);rintro e w3 ⟨rfl,hw3⟩;obtain rfl:=hw3.symm)
    go_ret
    exact ⟨ret_b HF.out.symm,hbw⟩
   cases h3:gs
   ·subst h3
    have HF:Hid (V=(gn==0)):=by show _=_;rw [HA.out,h1,h2];rfl
    go_wp2_with (go_at_call 71;refine (oLabel _ _).mono ?_;(first | rw [h1] | rw [h2]);rintro e w3 ⟨rfl,hw3⟩;obtain rfl:=hw3.symm)
    go_ret
    exact ⟨ret_b HF.out.symm,hbw⟩
   ·subst h3
    have HF:Hid (V=true):=by show _=_;rw [HA.out,h1,h2];rfl
    go_wp2_with (go_at_call 71;refine (oLabel _ _).mono ?_;(first | rw [h1] | rw [h2]);rintro e w3 ⟨rfl,hw3⟩;obtain rfl:=hw3.symm)
    go_ret
    exact ⟨ret_b HF.out.symm,hbw⟩
end face
namespace face
open Go.RowKit Go.Maps Go.WideMaps
open lexs (HasErr)
open syn (isName eqS)
structure Inv (w wr:World) (B:Nat) (x:ByteArray) (vv pv:Value) (l:List ByteArray):Prop where
 below:Below w.heap.size w wr
 c0:wr.cell? ⟨w.heap.size,0,none⟩=some (.string x)
 c1:wr.cell? ⟨w.heap.size,1,none⟩=some vv
 c2:wr.cell? ⟨w.heap.size,2,none⟩=some pv
 lt:w.heap.size<B
 own:wr.ownsMap Tryz.prog 9 (unitElem (H:=Unit)) B l.length (setD l)
theorem Inv.next {w wr w2:World} {B:Nat} {x:ByteArray} {vv pv:Value} {l:List ByteArray} (h:Inv w wr B x vv pv l) (hb:Below wr.heap.size wr w2):Inv w w2 B x vv pv l :=
 ⟨h.below.trans (hb.mono h.below.size),keep h.c0 hb,keep h.c1 hb,keep h.c2 hb,h.lt,h.own.kept (grown_of_below hb) (by simp)⟩
theorem Inv.put {w wr w2:World} {B:Nat} {x y:ByteArray} {vv pv:Value} {l:List ByteArray} (h:Inv w wr B x vv pv l) (hg:wr.grownBy w2 (some B)) (ho:w2.ownsMap Tryz.prog 9 (unitElem (H:=Unit)) B (l.length+1) ((setD l).put (keyL y) (.agg []))) :
  Inv w w2 B x vv pv (l++[y]):=by
 have hne:some w.heap.size≠some B:=by have:=h.lt;simp;omega
 refine ⟨h.below.grown hg h.below.size (fun k hk=>?_),grown_cell hg h.c0 hne,grown_cell hg h.c1 hne,grown_cell hg h.c2 hne,h.lt,?_⟩
 ·cases hk
  exact Nat.le_of_lt h.lt
 ·rw [setD_snoc,List.length_append]
  exact ho
theorem below_box {w w2:World} {o:Obj} (hb:Below (w.alloc o).heap.size (w.alloc o) w2):Below w.heap.size w w2 :=
 (bal o).trans (hb.mono (by simp))
theorem mayVar_name {v:VarD} (h:mayVarB v=true):isName v.name=true:=by
 unfold mayVarB at h
 simp only [Bool.and_eq_true] at h
 exact h.1
theorem mayProc_name {v:ProcD} (h:mayProcB v=true):isName v.name=true:=by
 unfold mayProcB at h
 simp only [Bool.and_eq_true] at h
 exact h.1
theorem take_next {α β:Type} (f:α→β) (l:List α) (j:Nat) (h:j<l.length):(l.take (j+1)).map f=(l.take j).map f++[f l[j]]:=by
 rw [List.take_add_one,List.map_append,List.getElem?_eq_getElem h]
 rfl
set_option maxHeartbeats 4000000 in
theorem oMay (f:FaceD) (u:Value) (w:World) (hw:HasErr w) (hu:FaceIn w u f) :
  Calls Tryz.prog 18 #[u] w fun e w'=>e=.returned (.bool (mayB f))∧Below w.heap.size w w':=by
 have c3:Tryz.prog.cellsOf 44=3:=cell3
 have c4:Tryz.prog.cellsOf 76=4:=cell4
 have c6:Tryz.prog.cellsOf 80=6:=cell6
 have hmm:=@run_makeMap Tryz.prog
 obtain ⟨vv,pv,rfl,hvs,hps⟩:=hu
 obtain ⟨x,vs,ps⟩:=f
 simp only at hvs hps ⊢
 obtain ⟨a,c,rfl,hl,hk⟩:=hvs
 obtain ⟨b,d,rfl,hl2,hk2⟩:=hps
 have hB:=(Below.refl w.heap.size w).alloc (jE _) (.cells #[.string x,.slice a vs.length c,.slice b ps.length d] 44)
 have hN:=oName x _ (HasErr.below hw hB)
 obtain ⟨V,hV⟩:∃ V,V=mayB ⟨x,vs,ps⟩:=⟨_,rfl⟩
 rw [← hV]
 have HV:Hid (V=(isName x&&(decide (vs.length+ps.length≤20)&&(vs.all mayVarB&&(ps.all mayProcB&&apartB [] (namesOf ⟨x,vs,ps⟩)))))):=hV
 clear hV
 cases hn:isName x
 case false =>
  have HF:Hid (V=false):=by show _=_;rw [HV.out,hn];rfl
  go_enter Tryz.func18,Tryz.ntmps18
  go_wp2_with (go_at_call 32;refine hN.mono ?_;rw [hn];rintro e w2 ⟨rfl,hb2⟩)
  go_ret
  exact ⟨ret_b HF.out.symm,hB.trans (hb2.mono (by simp))⟩
 by_cases h20:vs.length+ps.length≤20
 case neg =>
  have HF:Hid (V=false):=by show _=_;rw [HV.out,hn,decide_eq_false h20];rfl
  have h20':20<(vs.length:Int)+(ps.length:Int):=by omega
  have hwr:wrap64 ((vs.length:Int)+(ps.length:Int))=(vs.length:Int)+(ps.length:Int):=by unfold wrap64;omega
  go_enter Tryz.func18,Tryz.ntmps18
  go_wp2_with (go_at_call 32;refine hN.mono ?_;rw [hn];rintro e w2 ⟨rfl,hb2⟩)
  go_ret
  exact ⟨ret_b HF.out.symm,hB.trans (hb2.mono (by simp))⟩
 have HV2:Hid (V=(vs.all mayVarB&&(ps.all mayProcB&&apartB [] (vs.map (·.name)++ps.map (·.name))))):=by show _=_;rw [HV.out,hn,decide_eq_true h20];rfl
 clear HV
 have h20':(vs.length:Int)+(ps.length:Int)≤20:=by omega
 have hwr:wrap64 ((vs.length:Int)+(ps.length:Int))=(vs.length:Int)+(ps.length:Int):=by unfold wrap64;omega
 go_enter Tryz.func18,Tryz.ntmps18
 go_wp2_with (go_at_call 32;refine hN.mono ?_;rw [hn];rintro e w2 ⟨rfl,hb2⟩;have q0:w2.cell? ⟨w.heap.size,0,none⟩=some (.string x):=box_cell hb2 0;have q1:w2.cell? ⟨w.heap.size,1,none⟩=some (.slice a vs.length c):=box_cell hb2 1;have q2:w2.cell? ⟨w.heap.size,2,none⟩=some (.slice b ps.length d):=box_cell hb2 2;have r1:=fun ob=>cell_new q1 ob)
 have hbw:Below w.heap.size w w2:=below_box hb2
 have hlt2:w.heap.size<w2.heap.size:=World.block_lt_of_cell? _ _ q0
 have hI0:Inv w (w2.alloc (.map #[] 0)) w2.heap.size x (.slice a vs.length c) (.slice b ps.length d) ((vs.take 0).map (·.name)) :=
  ⟨hbw.alloc hbw.size _,cell_new q0 _,cell_new q1 _,cell_new q2 _,hlt2,World.ownsMap_made _ _ _ _⟩
 generalize w2.heap.size=B at hI0 hlt2 ⊢
 go_loopw [28] (fun t wr=>∃ j:Nat,j≤vs.length∧t=.int .i64 j∧Inv w wr B x (.slice a vs.length c) (.slice b ps.length d) ((vs.take j).map (·.name))∧Hid (∀ i (h:i<vs.length),i<j→mayVarB vs[i]=true)) (fun t _=>vs.length - (intOf t).toNat)
 case atStart=>exact ⟨0,Nat.zero_le _,rfl,hI0,fun i _ h=>by omega⟩
 case round =>
  obtain ⟨j,hj,rfl,hI,HN⟩:=hrel
  clear hI0 q0 q1 q2 r1 hb2 hbw
  by_cases hlt:j<vs.length
  ·obtain ⟨g,o,rfl,hc⟩:=hk (by intro e;rw [e] at hlt;simp at hlt)
   obtain ⟨k0,k1,k2,k3⟩:=hc j hlt
   have q0:=keep k0 hI.below
   have q1:=keep k1 hI.below
   have q2:=keep k2 hI.below
   have q3:=keep k3 hI.below
   clear k0 k1 k2 k3
   have hM:=oMayVar vs[j] (wr.alloc (.cells #[.string vs[j].name,.bool vs[j].pub,.int .i64 vs[j].label,.int .i64 vs[j].size] 76)) (HasErr.below (HasErr.below hw hI.below) (bal _))
   unfold varV at hM
   cases he:mayVarB vs[j]
   ·have HF:Hid (V=false):=by show _=_;rw [HV2.out,all_no j hlt he];rfl
    rw [he] at hM
    go_wp2_with (go_at_call 33;refine hM.mono ?_;rintro e w3 ⟨rfl,hb3⟩)
    go_ret
    exact ⟨ret_b HF.out.symm,(hI.next (below_box hb3)).below⟩
   ·have HE:Hid (mayVarB vs[j]=true):=he
    rw [he] at hM
    have hkey:=key_name (mayVar_name he)
    have hlen:((vs.take j).map (·.name)).length<maxLen:=by unfold maxLen;simp;omega
    go_wp2_with first
     | (go_at_call 33;refine hM.mono ?_;rintro e w3 ⟨rfl,hb3⟩;have hI3:=hI.next (below_box hb3);have r0:w3.cell? ⟨wr.heap.size,0,none⟩=some (.string vs[j].name):=box_cell hb3 0)
     | (at_mapUpdate;refine wpList_mapUpdate_own _ rfl _ _ _ 74 rfl 9 78 lawS Tryz.underlying74 (unitElem (H:=Unit)) B _ _ rfl hI3.own hlen _ _ _ rfl rfl hkey _ [] unitElem_mk ?_;intro w5 hown5 hgrow5)
     | go_in
    go_roundw
    case rel=>exact ⟨j+1,by omega,by go_num,by rw [take_next _ _ _ hlt];exact hI3.put hgrow5 hown5,fun i h h1=>by
     rcases Nat.lt_or_ge i j with h3 | h3
     ·exact HN.out i h h3
     ·have:i=j:=by omega
      subst this
      exact HE.out⟩
    case measure=>simp [intOf];omega
  ·have HA:Hid (V=(ps.all mayProcB&&apartB [] (vs.map (·.name)++ps.map (·.name)))):=by show _=_;rw [HV2.out,all_yes (fun i h=>HN.out i h (by omega))];rfl
   clear HV2 HN hk
   rw [List.take_of_length_le (by omega)] at hI
   have q2:=hI.c2
   go_wp2
   go_loopw [43] (fun t wr=>∃ j:Nat,j≤ps.length∧t=.int .i64 j∧Inv w wr B x (.slice a vs.length c) (.slice b ps.length d) (vs.map (·.name)++(ps.take j).map (·.name))∧Hid (∀ i (h:i<ps.length),i<j→mayProcB ps[i]=true)) (fun t _=>ps.length - (intOf t).toNat)
   case atStart=>exact ⟨0,Nat.zero_le _,rfl,by simpa using hI,fun i _ h=>by omega⟩
   case round =>
    clear hI q2
    obtain ⟨j,hj,rfl,hI,HN⟩:=hrel
    by_cases hlt:j<ps.length
    ·obtain ⟨g,o,rfl,hc⟩:=hk2 (by intro e;rw [e] at hlt;simp at hlt)
     obtain ⟨k0,k1,⟨y,k2,hy⟩,k3,k4,k5⟩:=hc j hlt
     have hy':=hy
     obtain ⟨ay,cy,rfl,_,_⟩:=hy'
     have q0:=keep k0 hI.below
     have q1:=keep k1 hI.below
     have q2:=keep k2 hI.below
     have q3:=keep k3 hI.below
     have q4:=keep k4 hI.below
     have q5:=keep k5 hI.below
     clear k0 k1 k2 k3 k4 k5
     have hA1:=(Below.refl wr.heap.size wr).alloc (jE _) (.cells #[.string ps[j].name,.bool ps[j].pub,.slice ay ps[j].params.length cy,.int .i64 ps[j].writes,.bool ps[j].gives,.int .i64 ps[j].given] 80)
     have hM:=oMayProc ps[j] _ _ (HasErr.below (HasErr.below hw hI.below) hA1) ((hy.below hI.below).below hA1)
     clear hA1
     unfold procV at hM
     cases he:mayProcB ps[j]
     ·have HF:Hid (V=false):=by show _=_;rw [HA.out,all_no j hlt he];rfl
      rw [he] at hM
      go_wp2_with (go_at_call 34;refine hM.mono ?_;rintro e w3 ⟨rfl,hb3⟩)
      go_ret
      exact ⟨ret_b HF.out.symm,(hI.next (below_box hb3)).below⟩
     ·have HE:Hid (mayProcB ps[j]=true):=he
      rw [he] at hM
      have hkey:=key_name (mayProc_name he)
      have hlen:(vs.map (·.name)++(ps.take j).map (·.name)).length<maxLen:=by unfold maxLen;simp;omega
      go_wp2_with first
       | (go_at_call 34;refine hM.mono ?_;rintro e w3 ⟨rfl,hb3⟩;have hI3:=hI.next (below_box hb3);have r0:w3.cell? ⟨wr.heap.size,0,none⟩=some (.string ps[j].name):=box_cell hb3 0)
       | (at_mapUpdate;refine wpList_mapUpdate_own _ rfl _ _ _ 74 rfl 9 78 lawS Tryz.underlying74 (unitElem (H:=Unit)) B _ _ rfl hI3.own hlen _ _ _ rfl rfl hkey _ [] unitElem_mk ?_;intro w5 hown5 hgrow5)
       | go_in
      go_roundw
      case rel=>exact ⟨j+1,by omega,by go_num,by rw [take_next _ _ _ hlt,← List.append_assoc];exact hI3.put hgrow5 hown5,fun i h h1=>by
       rcases Nat.lt_or_ge i j with h3 | h3
       ·exact HN.out i h h3
       ·have:i=j:=by omega
        subst this
        exact HE.out⟩
      case measure=>simp [intOf];omega
    ·rw [List.take_of_length_le (by omega)] at hI
     have HB:Hid (V=((Maps.size (setD (vs.map (·.name)++ps.map (·.name))):Int)==(vs.length:Int)+(ps.length:Int))):=by
      show _=_
      rw [HA.out,all_yes (fun i h=>HN.out i h (by omega)),← setD_size]
      simp only [List.length_append,List.length_map,Bool.true_and]
      rw [Bool.eq_iff_iff]
      simp only [beq_iff_eq]
      omega
     have hown:=hI.own
     have hfin:=hI.below
     clear HN HA hI hk2
     generalize (vs.map (·.name)++ps.map (·.name)).length=L at hown
     generalize setD (vs.map (·.name)++ps.map (·.name))=D at hown HB
     go_wp2_with first
      | (at_len;refine wpList_len_own _ rfl _ 74 rfl 9 78 Tryz.underlying74 (unitElem (H:=Unit)) B _ _ rfl hown ?_)
      | go_in
     go_ret
     exact ⟨ret_b HB.out.symm,hfin⟩
end face
namespace chk
open Go.RowKit Go.Shelf Go.Maps
open syn face
def badF:List FaceD→List FaceD→Bool
 | _,[]=>false
 | seen,f :: r=>(seen.any (fun q=>eqS q.module f.module)||!mayB f)||badF (seen++[f]) r
def nz (q:Int × Int):Int × Int:=if q.1=0 then (0,0) else q
def ckF (x:ByteArray) (fs:List FaceD) (m:ByteArray) (K:List Kid):Int × Int :=
 if badF [] fs=true then (2,0) else if (parse x).code≠0 then ((parse x).code,(parse x).place) else
  match lookK m K [] [] 1 with
  | some q=>q
  | none=>nz ((moF (faceK true m K) fs K [] 1).getD (0,0))
def gfOf (l:List FV) (z:ByteArray):Option FV:=l.find? fun q=>eqS q.1.module z
theorem gfOf_fst (l:List FV) (z:ByteArray):(gfOf l z).map (·.1)=(l.map (·.1)).find? (fun f=>eqS f.module z):=by
 unfold gfOf
 rw [List.find?_map]
 rfl
theorem gfOf_snoc (l:List FV) (q:FV) (h:(l.map (·.1)).any (fun p=>eqS p.module q.1.module)=false):(fun z=>if eqS z q.1.module then some (fvV q) else fvO (gfOf l z))=fun z=>fvO (gfOf (l++[q]) z):=by
 funext z
 unfold gfOf
 rw [List.find?_append]
 cases he:eqS z q.1.module with
 | true =>
  obtain rfl:=eqS_list.1 he
  have hn:l.find? (fun p=>eqS p.1.module q.1.module)=none:=by
   rw [List.find?_eq_none]
   intro p hp
   rw [List.any_eq_false] at h
   exact h p.1 (List.mem_map.2 ⟨p,hp,rfl⟩)
  rw [hn,if_pos rfl]
  simp [List.find?,eqS_list.2 rfl,fvO]
 | false =>
  have hn:eqS q.1.module z=false:=by
   cases h3:eqS q.1.module z with
   | false=>rfl
   | true=>rw [eqS_list.1 h3,eqS_list.2 rfl] at he;cases he
  rw [if_neg (by decide)]
  congr 1
  simp [List.find?,hn]
theorem gfOf_none (l:List FV) (z:ByteArray):(gfOf l z).isSome=(l.map (·.1)).any (fun p=>eqS p.module z):=by
 unfold gfOf
 rw [List.any_map,List.isSome_find?]
 rfl
def FacesIn (w:World) (v:Value) (qs:List FV):Prop:=∃ a c,v=.slice a qs.length c∧qs.length≤2199023255552∧(qs≠[]→∃ g o,a=some ⟨g,o,none⟩∧∀ i (h:i<qs.length),w.cell? ⟨g,o+i*3,none⟩=some (.string qs[i].1.module)∧w.cell? ⟨g,o+i*3+1,none⟩=some qs[i].2.1∧w.cell? ⟨g,o+i*3+2,none⟩=some qs[i].2.2∧FaceIn w (fvV qs[i]) qs[i].1∧qs[i].1.module.size≤maxLen)
theorem mayB_ok {f:FaceD} (h:mayB f=true):FaceOk f:=by
 unfold mayB at h
 simp only [Bool.and_eq_true] at h
 obtain ⟨_,_,hv,hp,_⟩:=h
 refine ⟨fun v hm=>?_,fun p hm=>?_⟩
 ·have:=List.all_eq_true.1 hv v hm
  unfold mayVarB labelB at this
  simp only [Bool.and_eq_true,Bool.or_eq_true,beq_iff_eq,decide_eq_true_eq] at this
  exact ⟨this.2.2.1,this.2.2.2.1⟩
 ·have:=List.all_eq_true.1 hp p hm
  unfold mayProcB labelB at this
  simp only [Bool.and_eq_true,Bool.or_eq_true,beq_iff_eq,decide_eq_true_eq,List.all_eq_true] at this
  obtain ⟨_,_,_,h1,h2,h3,_⟩:=this
  exact ⟨fun l hl=>h1 l hl,h2,h3⟩
theorem badF_may:∀ (fs seen:List FaceD),badF seen fs=false→∀ f∈fs,mayB f=true
 | [],_,_,f,hf=>by cases hf
 | a :: r,seen,h,f,hf=>by
  unfold badF at h
  simp only [Bool.or_eq_false_iff,Bool.not_eq_false'] at h
  rcases List.mem_cons.1 hf with rfl | hf
  ·exact h.1.2
  ·exact badF_may r _ h.2 f hf
theorem badF_step (fs:List FaceD) (j:Nat) (hj:j<fs.length):badF (fs.take j) (fs.drop j)=(((fs.take j).any (fun q=>eqS q.module fs[j].module)||!mayB fs[j])||badF (fs.take (j+1)) (fs.drop (j+1))):=by
 rw [List.drop_eq_getElem_cons hj,List.take_succ_eq_append_getElem hj]
 rfl
theorem rangeF_ok {n:Option Int} {a:Int} (h:rangeF n a=none):0≤n.getD 0:=by
 cases n with
 | none=>simp
 | some k =>
  simp only [rangeF] at h
  split at h
  ·cases h
  ·simp only [Option.getD_some]
   omega
theorem lookK_kids (m:ByteArray):∀ (K:List Kid) (is ns:List ByteArray) (a:Int),lookK m K is ns a=none→∀ k∈K,match k with
  | .imp _=>True
  | .var _ _ _ n=>0≤n.getD 0
  | .proc _ _ _ _ ps _=>ps.length≤5
 | [],_,_,_,_,k,hk=>by cases hk
 | .imp x :: r,is,ns,a,h,k,hk=>by
  unfold lookK at h
  split at h
  ·cases h
  ·split at h
   ·cases h
   ·rcases List.mem_cons.1 hk with rfl | hk
    ·trivial
    ·exact lookK_kids m r _ _ _ h k hk
 | .var x p l n :: r,is,ns,a,h,k,hk=>by
  unfold lookK at h
  split at h
  ·cases h
  ·split at h
   ·cases h
   ·split at h
    ·cases h
    ·rename_i hr
     rcases List.mem_cons.1 hk with rfl | hk
     ·exact rangeF_ok hr
     ·exact lookK_kids m r _ _ _ h k hk
 | .proc x p l g ps b :: r,is,ns,a,h,k,hk=>by
  unfold lookK at h
  split at h
  ·cases h
  ·split at h
   ·cases h
   ·split at h
    ·cases h
    ·rename_i h5
     split at h
     ·cases h
     ·rcases List.mem_cons.1 hk with rfl | hk
      ·show ps.length≤5
       omega
      ·exact lookK_kids m r _ _ _ h k hk
theorem parF_code:∀ (ps:List (ByteArray × Bool)) (seen:List ByteArray) (a:Int) (q:Int × Int),parF seen ps a=some q→q.1=5
 | [],_,_,_,h=>by cases h
 | x :: r,seen,a,q,h=>by
  unfold parF at h
  split at h
  ·cases h;rfl
  ·exact parF_code r _ _ q h
theorem lookK_code (m:ByteArray):∀ (K:List Kid) (is ns:List ByteArray) (a:Int) (q:Int × Int),lookK m K is ns a=some q→q.1=5∨q.1=1∨q.1=6
 | [],_,_,_,_,h=>by cases h
 | .imp x :: r,is,ns,a,q,h=>by
  unfold lookK at h
  split at h
  ·cases h;exact .inl rfl
  ·split at h
   ·cases h;exact .inr (.inl rfl)
   ·exact lookK_code m r _ _ _ q h
 | .var x p l n :: r,is,ns,a,q,h=>by
  unfold lookK at h
  split at h
  ·cases h;exact .inl rfl
  ·split at h
   ·cases h;exact .inr (.inl rfl)
   ·split at h
    ·rename_i e he
     cases h
     cases n with
     | none=>cases he
     | some k =>
      simp only [rangeF] at he
      split at he
      ·cases he;exact .inr (.inr rfl)
      ·cases he
    ·exact lookK_code m r _ _ _ q h
 | .proc x p l g ps b :: r,is,ns,a,q,h=>by
  unfold lookK at h
  split at h
  ·cases h;exact .inl rfl
  ·split at h
   ·cases h;exact .inr (.inl rfl)
   ·split at h
    ·cases h;exact .inr (.inl rfl)
    ·split at h
     ·rename_i e he
      cases h
      exact .inl (parF_code _ _ _ _ he)
     ·exact lookK_code m r _ _ _ q h
theorem varsK_mem (all:Bool):∀ (K:List Kid) (v:VarD),v∈varsK all K→∃ x p l n,Kid.var x p l n∈K∧v=varD x p l n
 | [],v,h=>by cases h
 | .imp x :: r,v,h=>by
  obtain ⟨a,b,c,d,h1,h2⟩:=varsK_mem all r v h
  exact ⟨a,b,c,d,List.mem_cons_of_mem _ h1,h2⟩
 | .proc x p l g ps b :: r,v,h=>by
  obtain ⟨a,b,c,d,h1,h2⟩:=varsK_mem all r v h
  exact ⟨a,b,c,d,List.mem_cons_of_mem _ h1,h2⟩
 | .var x p l n :: r,v,h=>by
  have:v=varD x p l n∨v∈varsK all r:=by
   unfold varsK at h
   split at h
   ·exact List.mem_cons.1 h
   ·exact .inr h
  rcases this with rfl | h
  ·exact ⟨x,p,l,n,List.mem_cons_self ..,rfl⟩
  ·obtain ⟨a,b,c,d,h1,h2⟩:=varsK_mem all r v h
   exact ⟨a,b,c,d,List.mem_cons_of_mem _ h1,h2⟩
theorem procsK_mem (all:Bool):∀ (K:List Kid) (q:ProcD),q∈procsK all K→∃ x p l g ps,q=procD x p l g ps
 | [],v,h=>by cases h
 | .imp x :: r,v,h=>procsK_mem all r v h
 | .var x p l n :: r,v,h=>procsK_mem all r v h
 | .proc x p l g ps b :: r,v,h=>by
  have:v=procD x p l g ps∨v∈procsK all r:=by
   unfold procsK at h
   split at h
   ·exact List.mem_cons.1 h
   ·exact .inr h
  rcases this with rfl | h
  ·exact ⟨x,p,l,g,ps,rfl⟩
  ·exact procsK_mem all r v h
theorem own_ok {m:ByteArray} {K:List Kid} (h:lookK m K [] [] 1=none):FaceOk (faceK true m K):=by
 refine ⟨fun v hv=>?_,fun q hq=>?_⟩
 ·obtain ⟨x,p,l,n,h1,rfl⟩:=varsK_mem true K v hv
  have:=lookK_kids m K _ _ _ h _ h1
  exact ⟨bI_lab _,this⟩
 ·obtain ⟨x,p,l,g,ps,rfl⟩:=procsK_mem true K q hq
  exact procD_lab x p l g ps
theorem kids_ok {m:ByteArray} {K:List Kid} (h:lookK m K [] [] 1=none) (hK:∀ k∈K,k.good∧k.named∧deepK k):∀ k∈K,k.good∧kidOk k:=by
 intro k hk
 obtain ⟨h1,h2,h3⟩:=hK k hk
 have h4:=lookK_kids m K _ _ _ h k hk
 refine ⟨h1,?_⟩
 cases k with
 | imp x=>exact h2
 | var x p l n=>exact h4
 | proc x p l g ps b=>exact ⟨by have h5:ps.length≤5:=h4;omega,h1.2.2,h3⟩
end chk
end Go.Proofs.YtfopddgjdaoidaaGreatDoor
