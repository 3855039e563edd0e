/- What the program's procOf answers: a contract. -/
import Derived.Test.YtfopddgjdaoidaaGreatDoorNM24
set_option linter.unusedVariables false
set_option linter.unusedSimpArgs false
set_option maxRecDepth 100000
namespace Go.Proofs.YtfopddgjdaoidaaGreatDoor.face
open Go.RowKit
open syn
section
variable {w w':World} {N M:Nat} {x0 x1 x2 x3 x4 x5:Value}
theorem Box6.other6 (h:Box6 w N x0 x1 x2 x3 x4 x5) (hne:M≠N) (a b c d e f:Value):Box6 ((((((w.setCell ⟨M,0,none⟩ a).setCell ⟨M,1,none⟩ b).setCell ⟨M,2,none⟩ c).setCell ⟨M,3,none⟩ d).setCell ⟨M,4,none⟩ e).setCell ⟨M,5,none⟩ f) N x0 x1 x2 x3 x4 x5:=(((((h.other hne a).other hne b).other hne c).other hne d).other hne e).other hne f
theorem Q4.other {y0 y1 y2 y3:Value} (hne:M≠N) (h:Q4 N y0 y1 y2 y3 w) (o:Nat) (v:Value):Q4 N y0 y1 y2 y3 (w.setCell ⟨M,o,none⟩ v) :=
  ⟨by rw [jD _ _ _ _ (by intro e;cases e;exact hne rfl)];exact h.1,by rw [jD _ _ _ _ (by intro e;cases e;exact hne rfl)];exact h.2.1,by rw [jD _ _ _ _ (by intro e;cases e;exact hne rfl)];exact h.2.2.1,by rw [jD _ _ _ _ (by intro e;cases e;exact hne rfl)];exact h.2.2.2⟩
theorem Q4.other6 {y0 y1 y2 y3:Value} (hne:M≠N) (h:Q4 N y0 y1 y2 y3 w) (a b c d e f:Value):Q4 N y0 y1 y2 y3 ((((((w.setCell ⟨M,0,none⟩ a).setCell ⟨M,1,none⟩ b).setCell ⟨M,2,none⟩ c).setCell ⟨M,3,none⟩ d).setCell ⟨M,4,none⟩ e).setCell ⟨M,5,none⟩ f) :=
  Q4.other hne (Q4.other hne (Q4.other hne (Q4.other hne (Q4.other hne (Q4.other hne h 0 a) 1 b) 2 c) 3 d) 4 e) 5 f
theorem below_set6 {B:Nat} {a:World} (h:Below B a w) (hM:B≤M) (x0 x1 x2 x3 x4 x5:Value):Below B a ((((((w.setCell ⟨M,0,none⟩ x0).setCell ⟨M,1,none⟩ x1).setCell ⟨M,2,none⟩ x2).setCell ⟨M,3,none⟩ x3).setCell ⟨M,4,none⟩ x4).setCell ⟨M,5,none⟩ x5):=(((((h.setCell hM _).setCell hM _).setCell hM _).setCell hM _).setCell hM _).setCell hM _
theorem Box6.set0 (h:Box6 w N x0 x1 x2 x3 x4 x5) (v:Value):Box6 (w.setCell ⟨N,0,none⟩ v) N v x1 x2 x3 x4 x5 :=
  ⟨World.cell?_setCell_same _ _ _ h.c0,by rw [jD _ _ _ _ (by simp)];exact h.c1,by rw [jD _ _ _ _ (by simp)];exact h.c2,by rw [jD _ _ _ _ (by simp)];exact h.c3,by rw [jD _ _ _ _ (by simp)];exact h.c4,by rw [jD _ _ _ _ (by simp)];exact h.c5,by simp [h.f0],by simp [h.f1],by simp [h.f2],by simp [h.f3],by simp [h.f4],by simp [h.f5]⟩
theorem Box6.set1 (h:Box6 w N x0 x1 x2 x3 x4 x5) (v:Value):Box6 (w.setCell ⟨N,1,none⟩ v) N x0 v x2 x3 x4 x5 :=
  ⟨by rw [jD _ _ _ _ (by simp)];exact h.c0,World.cell?_setCell_same _ _ _ h.c1,by rw [jD _ _ _ _ (by simp)];exact h.c2,by rw [jD _ _ _ _ (by simp)];exact h.c3,by rw [jD _ _ _ _ (by simp)];exact h.c4,by rw [jD _ _ _ _ (by simp)];exact h.c5,by simp [h.f0],by simp [h.f1],by simp [h.f2],by simp [h.f3],by simp [h.f4],by simp [h.f5]⟩
theorem Box6.set3 (h:Box6 w N x0 x1 x2 x3 x4 x5) (v:Value):Box6 (w.setCell ⟨N,3,none⟩ v) N x0 x1 x2 v x4 x5 :=
  ⟨by rw [jD _ _ _ _ (by simp)];exact h.c0,by rw [jD _ _ _ _ (by simp)];exact h.c1,by rw [jD _ _ _ _ (by simp)];exact h.c2,World.cell?_setCell_same _ _ _ h.c3,by rw [jD _ _ _ _ (by simp)];exact h.c4,by rw [jD _ _ _ _ (by simp)];exact h.c5,by simp [h.f0],by simp [h.f1],by simp [h.f2],by simp [h.f3],by simp [h.f4],by simp [h.f5]⟩
theorem Box6.set4 (h:Box6 w N x0 x1 x2 x3 x4 x5) (v:Value):Box6 (w.setCell ⟨N,4,none⟩ v) N x0 x1 x2 x3 v x5 :=
  ⟨by rw [jD _ _ _ _ (by simp)];exact h.c0,by rw [jD _ _ _ _ (by simp)];exact h.c1,by rw [jD _ _ _ _ (by simp)];exact h.c2,by rw [jD _ _ _ _ (by simp)];exact h.c3,World.cell?_setCell_same _ _ _ h.c4,by rw [jD _ _ _ _ (by simp)];exact h.c5,by simp [h.f0],by simp [h.f1],by simp [h.f2],by simp [h.f3],by simp [h.f4],by simp [h.f5]⟩
theorem Box6.set5 (h:Box6 w N x0 x1 x2 x3 x4 x5) (v:Value):Box6 (w.setCell ⟨N,5,none⟩ v) N x0 x1 x2 x3 x4 v :=
  ⟨by rw [jD _ _ _ _ (by simp)];exact h.c0,by rw [jD _ _ _ _ (by simp)];exact h.c1,by rw [jD _ _ _ _ (by simp)];exact h.c2,by rw [jD _ _ _ _ (by simp)];exact h.c3,by rw [jD _ _ _ _ (by simp)];exact h.c4,World.cell?_setCell_same _ _ _ h.c5,by simp [h.f0],by simp [h.f1],by simp [h.f2],by simp [h.f3],by simp [h.f4],by simp [h.f5]⟩
theorem Box6.put (h:Box6 w N x0 x1 x2 x3 x4 x5) (a b c d e f:Value):Box6 ((((((w.setCell ⟨N,0,none⟩ a).setCell ⟨N,1,none⟩ b).setCell ⟨N,2,none⟩ c).setCell ⟨N,3,none⟩ d).setCell ⟨N,4,none⟩ e).setCell ⟨N,5,none⟩ f) N a b c d e f:=(((((h.set0 a).set1 b).set2 c).set3 d).set4 e).set5 f
end
theorem par_cells4 {w wr:World} {ps:List (ByteArray × Bool)} {b:Tree} {g o:Nat} (hg:g<w.heap.size) (hat:LiesAt (·<w.heap.size) w (ps.map parT++[b]) g o) (hb:Below w.heap.size w wr) {j:Nat} (hj:j<ps.length) :
    ∃ (y:ByteArray) (a:Option Addr) (c:Nat),wr.cell? ⟨g,o+j * 4,none⟩=some (.int .i64 5)∧wr.cell? ⟨g,o+j * 4+1,none⟩=some (.string y)∧wr.cell? ⟨g,o+j * 4+2,none⟩=some (.int .i64 (bI ps[j].2))∧wr.cell? ⟨g,o+j * 4+3,none⟩=some (.slice a 0 c):=by
  obtain ⟨x0,x1,x2,x3,c0,c1,c2,c3,hl⟩:=hat.kid hg hb (j:=j) (by simp;omega)
  rw [List.getElem_append_left (by simpa using hj),List.getElem_map] at hl
  unfold parT Lies at hl
  obtain ⟨a,c,e,_,_⟩:=hl
  cases e
  exact ⟨_,a,c,c0,c1,c2,c3⟩
theorem last_cells {w wr:World} {ps:List (ByteArray × Bool)} {b:Tree} {g o:Nat} (hg:g<w.heap.size) (hat:LiesAt (·<w.heap.size) w (ps.map parT++[b]) g o) (hb:Below w.heap.size w wr) (hI:InT b) :
    ∃ (k m:Int) (y:ByteArray) (a:Option Addr) (n c:Nat),k≠5∧wr.cell? ⟨g,o+ps.length * 4,none⟩=some (.int .i64 k)∧wr.cell? ⟨g,o+ps.length * 4+1,none⟩=some (.string y)∧wr.cell? ⟨g,o+ps.length * 4+2,none⟩=some (.int .i64 m)∧wr.cell? ⟨g,o+ps.length * 4+3,none⟩=some (.slice a n c):=by
  obtain ⟨x0,x1,x2,x3,c0,c1,c2,c3,hl⟩:=hat.kid hg hb (j:=ps.length) (by simp)
  rw [List.getElem_append_right (by simp)] at hl
  simp only [List.length_map,Nat.sub_self,List.getElem_cons_zero] at hl
  obtain ⟨k,y,m,ks⟩:=b
  unfold InT at hI
  unfold Lies at hl
  obtain ⟨a,c,e,_,_⟩:=hl
  cases e
  exact ⟨k,m,y,a,_,c,by omega,c0,c1,c2,c3⟩
theorem row_keep {w w':World} {B:Nat} {e:TypeId} {k n:Nat} {v:Value} {xs:List Value} (h:w.ownsRow B e k v n xs) (hb:Below w.heap.size w w'):w'.ownsRow B e k v n xs :=
  h.kept (row:=none) ⟨hb.os,hb.tape,hb.output,hb.size,fun j hj _=>hb.block j hj⟩ (by cases v.ownBlock <;> simp)
theorem row_set6 {w:World} {B:Nat} {e:TypeId} {k n M:Nat} {v:Value} {xs:List Value} (h:w.ownsRow B e k v n xs) (hne:v.ownBlock≠some M) (x0 x1 x2 x3 x4 x5:Value):((((((w.setCell ⟨M,0,none⟩ x0).setCell ⟨M,1,none⟩ x1).setCell ⟨M,2,none⟩ x2).setCell ⟨M,3,none⟩ x3).setCell ⟨M,4,none⟩ x4).setCell ⟨M,5,none⟩ x5).ownsRow B e k v n xs :=
  ownsRow_setCell_other (ownsRow_setCell_other (ownsRow_setCell_other (ownsRow_setCell_other (ownsRow_setCell_other (ownsRow_setCell_other h hne _) hne _) hne _) hne _) hne _) hne _
theorem Q4.grown {w w':World} {N:Nat} {y0 y1 y2 y3:Value} {row:Option Nat} (h:Q4 N y0 y1 y2 y3 w) (hg:w.grownBy w' row) (hne:row≠some N):Q4 N y0 y1 y2 y3 w':=⟨cell_grown hg h.1 hne,cell_grown hg h.2.1 hne,cell_grown hg h.2.2.1 hne,cell_grown hg h.2.2.2 hne⟩
theorem bits_par (q:Bool):bits BinOp.and IntKind.i64 (bI q) 1=bI q:=by cases q <;> decide +kernel
set_option maxHeartbeats 4000000 in
theorem oProcOf (x:ByteArray) (p l:Bool) (gv:Option Bool) (ps:List (ByteArray × Bool)) (b:Tree) (v:Value) (w:World) (hv:Lies (·<w.heap.size) w (Kid.proc x p l gv ps b).tree v) (hP:ps.length≤1000) (hInT:InT b) :
    Calls Tryz.prog 130 #[v] w fun e w'=>∃ u,e=.returned (procV (procD x p l gv ps) u)∧w'.ownsRow w.heap.size 3 1 u ps.length (intV (ps.map fun q=>bI q.2))∧Below w.heap.size w w':=by
  have c24:Tryz.prog.cellsOf 25=4:=by kernel_rfl
  have c6:Tryz.prog.cellsOf 80=6:=cell6
  have c1:Tryz.prog.cellsOf 3=1:=cell1i
  obtain ⟨i0,hi,hz0,hz1,hz2⟩:=info_parts infoI
  have HP:=bits_pub p l gv
  have HL:=bits_low p l gv
  have HG:Hid (bits BinOp.and IntKind.i64 (2 * bI p+bI l+gI gv) 12=gI gv):=bits_gives p l gv
  unfold Kid.tree Lies at hv
  obtain ⟨a,c,rfl,hl,hk⟩:=hv
  obtain ⟨g,o,rfl,hg,hat⟩:=hk (by simp)
  clear hk
  have hlen:(ps.map parT++[b]).length=ps.length+1:=by simp
  rw [hlen] at hl ⊢
  obtain ⟨n1,hn1⟩:∃ n1,n1=ps.length+1:=⟨_,rfl⟩
  rw [← hn1] at hl ⊢
  have HN1:Hid (n1=ps.length+1):=hn1
  clear hn1 hlen
  generalize 2 * bI p+bI l+gI gv=m at HP HL HG
  have hPub:∀ W,Calls Tryz.prog 155 #[.agg #[.int .i64 4,.string x,.int .i64 m,.slice (some ⟨g,o,none⟩) n1 c]] W fun e w'=>e=.returned (.bool p)∧Below W.heap.size W w':=fun W=>by have:=oIsPub 4 x m (some ⟨g,o,none⟩) n1 c W;rw [HP] at this;exact this
  have hLab:∀ W,Calls Tryz.prog 156 #[.agg #[.int .i64 4,.string x,.int .i64 m,.slice (some ⟨g,o,none⟩) n1 c]] W fun e w'=>e=.returned (.int .i64 (bI l))∧Below W.heap.size W w':=fun W=>by have:=oLabelOf 4 x m (some ⟨g,o,none⟩) n1 c W;rw [HL] at this;exact this
  clear HP HL
  have hQ:Q4 w.heap.size (.int .i64 4) (.string x) (.int .i64 m) (.slice (some ⟨g,o,none⟩) n1 c) ((w.alloc (.cells #[.int .i64 4,.string x,.int .i64 m,.slice (some ⟨g,o,none⟩) n1 c] 25)).alloc (.cells #[.string ⟨#[]⟩,.bool false,.slice none 0 0,.int .i64 0,.bool false,.int .i64 0] 80)).drew:=⟨by simp,by simp,by simp,by simp⟩
  have hB:Below w.heap.size w ((w.alloc (.cells #[.int .i64 4,.string x,.int .i64 m,.slice (some ⟨g,o,none⟩) n1 c] 25)).alloc (.cells #[.string ⟨#[]⟩,.bool false,.slice none 0 0,.int .i64 0,.bool false,.int .i64 0] 80)).drew:=(Joins.below_alloc2 w (.cells #[.int .i64 4,.string x,.int .i64 m,.slice (some ⟨g,o,none⟩) n1 c] 25) (.cells #[.string ⟨#[]⟩,.bool false,.slice none 0 0,.int .i64 0,.bool false,.int .i64 0] 80)).drew
  have hR:Box6 ((w.alloc (.cells #[.int .i64 4,.string x,.int .i64 m,.slice (some ⟨g,o,none⟩) n1 c] 25)).alloc (.cells #[.string ⟨#[]⟩,.bool false,.slice none 0 0,.int .i64 0,.bool false,.int .i64 0] 80)).drew (w.heap.size+1) (.string ⟨#[]⟩) (.bool false) (.slice none 0 0) (.int .i64 0) (.bool false) (.int .i64 0):=by constructor <;> simp
  go_enter Tryz.func130,Tryz.ntmps130
  go_wp2
  refine wp_region_held_drew (S:=fun W=>Q4 w.heap.size (.int .i64 4) (.string x) (.int .i64 m) (.slice (some ⟨g,o,none⟩) n1 c) W) (by kernel_rfl) hQ (fun hHeld=>?_)
  clear hHeld
  generalize ((w.alloc (.cells #[.int .i64 4,.string x,.int .i64 m,.slice (some ⟨g,o,none⟩) n1 c] 25)).alloc (.cells #[.string ⟨#[]⟩,.bool false,.slice none 0 0,.int .i64 0,.bool false,.int .i64 0] 80)).drew=W at *
  rename_i Q' K0 hK0
  have HF:∀ (N:Nat) (W:World),w.heap.size+1<N→Q4 w.heap.size (.int .i64 4) (.string x) (.int .i64 m) (.slice (some ⟨g,o,none⟩) n1 c) W→Below w.heap.size w W→Box6 W (w.heap.size+1) (.string ⟨#[]⟩) (.bool false) (.slice none 0 0) (.int .i64 0) (.bool false) (.int .i64 0)→Box6 W N (.string x) (.bool p) (.slice none 0 0) (.int .i64 (bI l)) (.bool false) (.int .i64 0)→Exit.then K0 Q' Exit.normal { tmps:=#[.agg #[.int .i64 4,.string x,.int .i64 m,.slice (some ⟨g,o,none⟩) n1 c],.pointer (some ⟨w.heap.size,0,none⟩),.pointer (some ⟨w.heap.size+1,0,none⟩),.pointer (some ⟨N,0,none⟩),undef,undef,.pointer (some ⟨w.heap.size,1,none⟩),.string x,.agg #[.int .i64 4,.string x,.int .i64 m,.slice (some ⟨g,o,none⟩) n1 c],.bool p,.agg #[.int .i64 4,.string x,.int .i64 m,.slice (some ⟨g,o,none⟩) n1 c],.int .i64 (bI l),.agg #[.string x,.bool p,.slice none 0 0,.int .i64 (bI l),.bool false,.int .i64 0],undef,undef,undef,undef,undef,undef,undef,undef,undef,undef,undef,undef,undef,undef,undef,undef,undef,undef,undef,undef,undef,undef,undef,undef,undef,undef,undef,undef,undef,undef],defers:=[] } W:=by
    clear hQ hB hR W
    intro N Wz hgt hQ hB hR hN
    obtain ⟨_,_,q2,q3⟩:=id hQ
    have hsz:=hN.lt
    go_wp2
    go_loopw [16] (fun t wr=>∃ (j:Nat) (u:Value),j≤n1∧t=.int .i64 j∧wr.ownsRow (N+1) 3 1 u ((ps.take j).map fun q=>bI q.2).length (intV ((ps.take j).map fun q=>bI q.2))∧Below w.heap.size w wr∧wr.cell? ⟨w.heap.size,2,none⟩=some (.int .i64 m) ∧
        Box6 wr (w.heap.size+1) (.string ⟨#[]⟩) (.bool false) (.slice none 0 0) (.int .i64 0) (.bool false) (.int .i64 0)∧Box6 wr N (.string x) (.bool p) u (.int .i64 (bI l)) (.bool false) (.int .i64 0)) (fun t _=>n1 - (intOf t).toNat)
    case atStart=>exact ⟨0,.slice none 0 0,Nat.zero_le _,rfl,World.ownsRow_nil _ _ _ _,hB,q2,hR,hN⟩
    case round =>
      clear hB hN hR q2 q3 hQ hsz
      obtain ⟨j,u,hj,rfl,hown,hB,q2,b1,bN⟩:=hrel
      have hs2:=bN.lt
      by_cases hlt:j<ps.length
      · skip
        obtain ⟨y0,ak,ck,k0,k1,k2,k3⟩:=par_cells4 hg hat hB hlt
        have HT:Hid (((ps.take (j+1)).map fun q=>bI q.2)=((ps.take j).map fun q=>bI q.2)++[bI ps[j].2]):=take_par ps j hlt
        have hpar:∀ W,Calls Tryz.prog 156 #[.agg #[.int .i64 5,.string y0,.int .i64 (bI ps[j].2),.slice ak 0 ck]] W fun e w'=>e=.returned (.int .i64 (bI ps[j].2))∧Below W.heap.size W w':=fun W=>by have:=oLabelOf 5 y0 (bI ps[j].2) ak 0 ck W;rw [bits_par] at this;exact this
        have hj1:j<n1:=by have:=HN1.out;omega
        have hn1:n1≤1001:=by have:=HN1.out;omega
        have hLl:((ps.take j).map fun q=>bI q.2).length=j:=by simp;omega
        generalize bI ps[j].2=y at k2 HT hpar
        generalize ((ps.take j).map fun q=>bI q.2)=L at hown HT hLl
        clear hat
        rw [hLl] at hown
        obtain ⟨an,cn,rfl,_,_⟩:=lexs.own_shape hown
        have hrow:∀ k,(Value.slice an j cn).ownBlock=some k→N<k∧k<wr.heap.size:=fun k e=>by have:=hown.lt _ e;omega
        go_wp2
        have hQ:Q4 wr.heap.size (.int .i64 5) (.string y0) (.int .i64 y) (.slice ak 0 ck) (wr.alloc (.cells #[.int .i64 5,.string y0,.int .i64 y,.slice ak 0 ck] 25)).drew:=⟨by simp,by simp,by simp,by simp⟩
        replace hB:=(hB.alloc hB.size (.cells #[.int .i64 5,.string y0,.int .i64 y,.slice ak 0 ck] 25)).drew
        replace hown:(wr.alloc (.cells #[.int .i64 5,.string y0,.int .i64 y,.slice ak 0 ck] 25)).drew.ownsRow (N+1) 3 1 (.slice an j cn) j (intV L):=hown.alloc _
        replace b1:=(b1.alloc (.cells #[.int .i64 5,.string y0,.int .i64 y,.slice ak 0 ck] 25)).drew
        replace bN:=(bN.alloc (.cells #[.int .i64 5,.string y0,.int .i64 y,.slice ak 0 ck] 25)).drew
        replace q2:(wr.alloc (.cells #[.int .i64 5,.string y0,.int .i64 y,.slice ak 0 ck] 25)).drew.cell? ⟨w.heap.size,2,none⟩=some (.int .i64 m):=cell_new q2 _
        refine wp_region_held_drew (S:=fun W=>Q4 wr.heap.size (.int .i64 5) (.string y0) (.int .i64 y) (.slice ak 0 ck) W) (by kernel_rfl) hQ (fun hHeld=>?_)
        clear hHeld
        generalize (wr.alloc (.cells #[.int .i64 5,.string y0,.int .i64 y,.slice ak 0 ck] 25)).drew=Wk at *
        generalize wr.heap.size=bk at *
        clear k0 k1 k2 k3
        refine tkH (i:=0) (v:=.pointer (some ⟨N,2,none⟩)) rfl (Or.inl ⟨by rfl,fun w hSw=>by obtain ⟨z0,z1,z2,z3⟩:=hSw;go_simp⟩) hQ ?_
        simp only [Act.put,jA,jB,jC]
        refine tkH (i:=2) (v:=.agg #[.int .i64 5,.string y0,.int .i64 y,.slice ak 0 ck] ) rfl (Or.inl ⟨by rfl,fun w hSw=>by obtain ⟨z0,z1,z2,z3⟩:=hSw;go_simp⟩) hQ ?_
        simp only [Act.put,jA,jB,jC]
        refine wpAnyH_ready (rs:=[1,3]) (by kernel_rfl) (by simp) ?_
        refine AllReadyH.cons rfl (fun K hK=>?_) ?_
        · skip
          have m2:=bN.c2
          go_simp
          refine hK.out _ _ hQ (fun hHeld=>?_)
          clear hK K hHeld m2
          refine wpAnyH_ready (rs:=[3]) (by kernel_rfl) (by simp) ?_
          refine AllReadyH.cons rfl (fun K hK=>?_) AllReadyH.nil
          go_simp
          go_at_call 156
          refine (hpar _).mono ?_
          rintro e W1 ⟨rfl,hb⟩
          go_wp2
          replace hQ:=Q4.below hQ hb
          replace hB:=hB.trans (hb.mono hB.size)
          replace b1:=b1.below hb
          replace bN:=bN.below hb
          replace q2:=keep q2 hb
          replace hown:=row_keep hown hb
          refine hK.out _ _ hQ (fun hHeld=>?_)
          clear hK K hHeld hb
          refine wpAnyH_ready (rs:=[4]) (by kernel_rfl) (by simp) ?_
          refine AllReadyH.cons rfl (fun K hK=>?_) AllReadyH.nil
          go_simp
          have hsl:∀ j u,[Value.int .i64 y][j]?=some u→(W1.alloc (.cells #[.int .i64 y] 3)).cell? ((⟨W1.heap.size,0,none⟩:Addr).add j)=some u:=cell_one _ _ _ rfl
          have hss:W1.heap.size+1=(W1.alloc (.cells #[.int .i64 y] 3)).heap.size:=by simp
          have hrw:∀ k,(Value.slice an j cn).ownBlock=some k→k≠W1.heap.size:=fun k e=>by have:=(hown.lt _ e).2;omega
          replace hQ:=Q4.alloc hQ (.cells #[.int .i64 y] 3)
          replace hB:=hB.alloc hB.size (.cells #[.int .i64 y] 3)
          replace b1:=b1.alloc (.cells #[.int .i64 y] 3)
          replace bN:=bN.alloc (.cells #[.int .i64 y] 3)
          replace q2:=cell_new q2 (.cells #[.int .i64 y] 3)
          replace hown:=hown.alloc (.cells #[.int .i64 y] 3)
          refine hK.out _ _ hQ (fun hHeld=>?_)
          clear hK K hHeld
          generalize W1.alloc (.cells #[.int .i64 y] 3)=W2 at *
          generalize W1.heap.size=s0 at *
          refine wpAnyH_ready (rs:=[5]) (by kernel_rfl) (by simp) ?_
          refine AllReadyH.cons rfl (fun K hK=>?_) AllReadyH.nil
          refine step_append_lies _ (by rfl) (.tmp 24) (.tmp 27) 51 (by rfl) (N+1) 3 i0 (.int .i64 0) 1 8 Tryz.underlying51 hi hz0 hz1 hz2 rfl (by decide) (.slice an j cn) j (intV L) (by simp [Act.eval,Act.put]) hown ⟨s0,0,none⟩ 1 1 [.int .i64 y] (by simp [Act.eval,Act.put]) rfl hsl (one_int _) (by omega) (by unfold maxLen;omega) (by omega) (by have:=bN.lt;omega) (s0+1) hss.symm ?_
          intro g5 cap5 w5 hown5 hgrow5 hat5 hlt5
          have hrb:(Value.slice an j cn).ownBlock≠some bk:=fun e=>by have:=hrow _ e;omega
          have hr1:(Value.slice an j cn).ownBlock≠some (w.heap.size+1):=fun e=>by have:=hrow _ e;omega
          have hr0:(Value.slice an j cn).ownBlock≠some w.heap.size:=fun e=>by have:=hrow _ e;omega
          have hrN:(Value.slice an j cn).ownBlock≠some N:=fun e=>by have:=hrow _ e;omega
          replace hQ:=Q4.grown hQ hgrow5 hrb
          have hgN:N<g5:=by rcases hat5 with e | e;exact (hrow _ e).1;have:=bN.lt;omega
          replace hB:=Below.grown hB hgrow5 hB.size (fun k hk=>by have:=hrow _ hk;omega)
          replace b1:=b1.grown hgrow5 hr1
          replace bN:=bN.grown hgrow5 hrN
          replace q2:=cell_grown hgrow5 q2 hr0
          refine hK.out _ _ hQ (fun hHeld=>?_)
          clear hK K hHeld
          simp only [Act.put,jA,jB,jC]
          refine tkH (i:=6) (v:=.pointer (some ⟨N,2,none⟩)) rfl (Or.inl ⟨by rfl,fun w hSw=>by obtain ⟨z0,z1,z2,z3⟩:=hSw;go_simp⟩) hQ ?_
          simp only [Act.put,jA,jB,jC]
          refine wpAnyH_ready (rs:=[7]) (by kernel_rfl) (by simp) ?_
          refine AllReadyH.cons rfl (fun K hK=>?_) AllReadyH.nil
          have m2:=bN.c2
          have mf:=bN.f2
          go_simp
          refine hK.out _ _ (Q4.other (by omega) hQ _ _) (fun hHeld=>?_)
          clear hK K hHeld m2 mf
          refine wpAnyH_done (by kernel_rfl) ?_ _
          go_wp2
          go_roundw
          case rel =>
            refine ⟨j+1,.slice (some ⟨g5,0,none⟩) (j+1) cap5,by omega,by go_num,?_,hB.setCell (by show w.heap.size≤N;omega) _,?_,b1.other (by omega) _,bN.set2 _⟩
            · rw [HT.out,intV_snoc,List.length_append,hLl]
              exact ownsRow_setCell_other hown5 (by show some g5≠some N;simp;omega) _
            · rw [jD _ _ _ _ (by intro e;cases e;omega)]
              exact q2
          case measure=>simp [intOf];omega
        refine AllReadyH.cons rfl (fun K hK=>?_) AllReadyH.nil
        go_simp
        go_at_call 156
        refine (hpar _).mono ?_
        rintro e W1 ⟨rfl,hb⟩
        go_wp2
        replace hQ:=Q4.below hQ hb
        replace hB:=hB.trans (hb.mono hB.size)
        replace b1:=b1.below hb
        replace bN:=bN.below hb
        replace q2:=keep q2 hb
        replace hown:=row_keep hown hb
        refine hK.out _ _ hQ (fun hHeld=>?_)
        clear hK K hHeld hb
        refine wpAnyH_ready (rs:=[1,4]) (by kernel_rfl) (by simp) ?_
        refine AllReadyH.cons rfl (fun K hK=>?_) ?_
        · skip
          have m2:=bN.c2
          go_simp
          refine hK.out _ _ hQ (fun hHeld=>?_)
          clear hK K hHeld m2
          refine wpAnyH_ready (rs:=[4]) (by kernel_rfl) (by simp) ?_
          refine AllReadyH.cons rfl (fun K hK=>?_) AllReadyH.nil
          go_simp
          have hsl:∀ j u,[Value.int .i64 y][j]?=some u→(W1.alloc (.cells #[.int .i64 y] 3)).cell? ((⟨W1.heap.size,0,none⟩:Addr).add j)=some u:=cell_one _ _ _ rfl
          have hss:W1.heap.size+1=(W1.alloc (.cells #[.int .i64 y] 3)).heap.size:=by simp
          have hrw:∀ k,(Value.slice an j cn).ownBlock=some k→k≠W1.heap.size:=fun k e=>by have:=(hown.lt _ e).2;omega
          replace hQ:=Q4.alloc hQ (.cells #[.int .i64 y] 3)
          replace hB:=hB.alloc hB.size (.cells #[.int .i64 y] 3)
          replace b1:=b1.alloc (.cells #[.int .i64 y] 3)
          replace bN:=bN.alloc (.cells #[.int .i64 y] 3)
          replace q2:=cell_new q2 (.cells #[.int .i64 y] 3)
          replace hown:=hown.alloc (.cells #[.int .i64 y] 3)
          refine hK.out _ _ hQ (fun hHeld=>?_)
          clear hK K hHeld
          generalize W1.alloc (.cells #[.int .i64 y] 3)=W2 at *
          generalize W1.heap.size=s0 at *
          refine wpAnyH_ready (rs:=[5]) (by kernel_rfl) (by simp) ?_
          refine AllReadyH.cons rfl (fun K hK=>?_) AllReadyH.nil
          refine step_append_lies _ (by rfl) (.tmp 24) (.tmp 27) 51 (by rfl) (N+1) 3 i0 (.int .i64 0) 1 8 Tryz.underlying51 hi hz0 hz1 hz2 rfl (by decide) (.slice an j cn) j (intV L) (by simp [Act.eval,Act.put]) hown ⟨s0,0,none⟩ 1 1 [.int .i64 y] (by simp [Act.eval,Act.put]) rfl hsl (one_int _) (by omega) (by unfold maxLen;omega) (by omega) (by have:=bN.lt;omega) (s0+1) hss.symm ?_
          intro g5 cap5 w5 hown5 hgrow5 hat5 hlt5
          have hrb:(Value.slice an j cn).ownBlock≠some bk:=fun e=>by have:=hrow _ e;omega
          have hr1:(Value.slice an j cn).ownBlock≠some (w.heap.size+1):=fun e=>by have:=hrow _ e;omega
          have hr0:(Value.slice an j cn).ownBlock≠some w.heap.size:=fun e=>by have:=hrow _ e;omega
          have hrN:(Value.slice an j cn).ownBlock≠some N:=fun e=>by have:=hrow _ e;omega
          replace hQ:=Q4.grown hQ hgrow5 hrb
          have hgN:N<g5:=by rcases hat5 with e | e;exact (hrow _ e).1;have:=bN.lt;omega
          replace hB:=Below.grown hB hgrow5 hB.size (fun k hk=>by have:=hrow _ hk;omega)
          replace b1:=b1.grown hgrow5 hr1
          replace bN:=bN.grown hgrow5 hrN
          replace q2:=cell_grown hgrow5 q2 hr0
          refine hK.out _ _ hQ (fun hHeld=>?_)
          clear hK K hHeld
          simp only [Act.put,jA,jB,jC]
          refine tkH (i:=6) (v:=.pointer (some ⟨N,2,none⟩)) rfl (Or.inl ⟨by rfl,fun w hSw=>by obtain ⟨z0,z1,z2,z3⟩:=hSw;go_simp⟩) hQ ?_
          simp only [Act.put,jA,jB,jC]
          refine wpAnyH_ready (rs:=[7]) (by kernel_rfl) (by simp) ?_
          refine AllReadyH.cons rfl (fun K hK=>?_) AllReadyH.nil
          have m2:=bN.c2
          have mf:=bN.f2
          go_simp
          refine hK.out _ _ (Q4.other (by omega) hQ _ _) (fun hHeld=>?_)
          clear hK K hHeld m2 mf
          refine wpAnyH_done (by kernel_rfl) ?_ _
          go_wp2
          go_roundw
          case rel =>
            refine ⟨j+1,.slice (some ⟨g5,0,none⟩) (j+1) cap5,by omega,by go_num,?_,hB.setCell (by show w.heap.size≤N;omega) _,?_,b1.other (by omega) _,bN.set2 _⟩
            · rw [HT.out,intV_snoc,List.length_append,hLl]
              exact ownsRow_setCell_other hown5 (by show some g5≠some N;simp;omega) _
            · rw [jD _ _ _ _ (by intro e;cases e;omega)]
              exact q2
          case measure=>simp [intOf];omega
        refine AllReadyH.cons rfl (fun K hK=>?_) AllReadyH.nil
        go_simp
        have hsl:∀ j u,[Value.int .i64 y][j]?=some u→(W1.alloc (.cells #[.int .i64 y] 3)).cell? ((⟨W1.heap.size,0,none⟩:Addr).add j)=some u:=cell_one _ _ _ rfl
        have hss:W1.heap.size+1=(W1.alloc (.cells #[.int .i64 y] 3)).heap.size:=by simp
        have hrw:∀ k,(Value.slice an j cn).ownBlock=some k→k≠W1.heap.size:=fun k e=>by have:=(hown.lt _ e).2;omega
        replace hQ:=Q4.alloc hQ (.cells #[.int .i64 y] 3)
        replace hB:=hB.alloc hB.size (.cells #[.int .i64 y] 3)
        replace b1:=b1.alloc (.cells #[.int .i64 y] 3)
        replace bN:=bN.alloc (.cells #[.int .i64 y] 3)
        replace q2:=cell_new q2 (.cells #[.int .i64 y] 3)
        replace hown:=hown.alloc (.cells #[.int .i64 y] 3)
        refine hK.out _ _ hQ (fun hHeld=>?_)
        clear hK K hHeld
        generalize W1.alloc (.cells #[.int .i64 y] 3)=W2 at *
        generalize W1.heap.size=s0 at *
        refine wpAnyH_ready (rs:=[1]) (by kernel_rfl) (by simp) ?_
        refine AllReadyH.cons rfl (fun K hK=>?_) AllReadyH.nil
        have m2:=bN.c2
        go_simp
        refine hK.out _ _ hQ (fun hHeld=>?_)
        clear hK K hHeld m2
        refine wpAnyH_ready (rs:=[5]) (by kernel_rfl) (by simp) ?_
        refine AllReadyH.cons rfl (fun K hK=>?_) AllReadyH.nil
        refine step_append_lies _ (by rfl) (.tmp 24) (.tmp 27) 51 (by rfl) (N+1) 3 i0 (.int .i64 0) 1 8 Tryz.underlying51 hi hz0 hz1 hz2 rfl (by decide) (.slice an j cn) j (intV L) (by simp [Act.eval,Act.put]) hown ⟨s0,0,none⟩ 1 1 [.int .i64 y] (by simp [Act.eval,Act.put]) rfl hsl (one_int _) (by omega) (by unfold maxLen;omega) (by omega) (by have:=bN.lt;omega) (s0+1) hss.symm ?_
        intro g5 cap5 w5 hown5 hgrow5 hat5 hlt5
        have hrb:(Value.slice an j cn).ownBlock≠some bk:=fun e=>by have:=hrow _ e;omega
        have hr1:(Value.slice an j cn).ownBlock≠some (w.heap.size+1):=fun e=>by have:=hrow _ e;omega
        have hr0:(Value.slice an j cn).ownBlock≠some w.heap.size:=fun e=>by have:=hrow _ e;omega
        have hrN:(Value.slice an j cn).ownBlock≠some N:=fun e=>by have:=hrow _ e;omega
        replace hQ:=Q4.grown hQ hgrow5 hrb
        have hgN:N<g5:=by rcases hat5 with e | e;exact (hrow _ e).1;have:=bN.lt;omega
        replace hB:=Below.grown hB hgrow5 hB.size (fun k hk=>by have:=hrow _ hk;omega)
        replace b1:=b1.grown hgrow5 hr1
        replace bN:=bN.grown hgrow5 hrN
        replace q2:=cell_grown hgrow5 q2 hr0
        refine hK.out _ _ hQ (fun hHeld=>?_)
        clear hK K hHeld
        simp only [Act.put,jA,jB,jC]
        refine tkH (i:=6) (v:=.pointer (some ⟨N,2,none⟩)) rfl (Or.inl ⟨by rfl,fun w hSw=>by obtain ⟨z0,z1,z2,z3⟩:=hSw;go_simp⟩) hQ ?_
        simp only [Act.put,jA,jB,jC]
        refine wpAnyH_ready (rs:=[7]) (by kernel_rfl) (by simp) ?_
        refine AllReadyH.cons rfl (fun K hK=>?_) AllReadyH.nil
        have m2:=bN.c2
        have mf:=bN.f2
        go_simp
        refine hK.out _ _ (Q4.other (by omega) hQ _ _) (fun hHeld=>?_)
        clear hK K hHeld m2 mf
        refine wpAnyH_done (by kernel_rfl) ?_ _
        go_wp2
        go_roundw
        case rel =>
          refine ⟨j+1,.slice (some ⟨g5,0,none⟩) (j+1) cap5,by omega,by go_num,?_,hB.setCell (by show w.heap.size≤N;omega) _,?_,b1.other (by omega) _,bN.set2 _⟩
          · rw [HT.out,intV_snoc,List.length_append,hLl]
            exact ownsRow_setCell_other hown5 (by show some g5≠some N;simp;omega) _
          · rw [jD _ _ _ _ (by intro e;cases e;omega)]
            exact q2
        case measure=>simp [intOf];omega
      by_cases hlt2:j<n1
      · skip
        have hje:j=ps.length:=by have:=HN1.out;omega
        subst hje
        obtain ⟨k,mm,y0,ak,nk,ck,hk5,k0,k1,k2,k3⟩:=last_cells hg hat hB hInT
        have hn1:n1≤1001:=by have:=HN1.out;omega
        have HT:Hid (ps.take (ps.length+1)=ps.take ps.length):=by show _=_;rw [List.take_length,List.take_of_length_le (by omega)]
        clear hat
        go_wp2
        go_roundw
        case rel=>exact ⟨ps.length+1,u,by omega,by go_num,by rw [HT.out];exact hown.alloc _,hB.alloc hB.size _,cell_new q2 _,b1.alloc _,bN.alloc _⟩
        case measure=>simp [intOf];omega
      have hje:j=n1:=by omega
      subst hje
      have hT:ps.take j=ps:=by rw [List.take_of_length_le (by have:=HN1.out;omega)]
      rw [hT,List.length_map] at hown
      clear hT hat
      obtain ⟨an,cn,rfl,_,_⟩:=lexs.own_shape hown
      obtain ⟨a0,a1,a2,a3,a4,a5,f0,f1,f2,f3,f4,f5⟩:=id bN
      obtain ⟨d0,d1,d2,d3,d4,d5,e0,e1,e2,e3,e4,e5⟩:=id b1
      have hne1:(Value.slice an ps.length cn).ownBlock≠some (w.heap.size+1):=fun e=>by have:=(hown.lt _ e).1;omega
      have hneN:(Value.slice an ps.length cn).ownBlock≠some N:=fun e=>by have:=(hown.lt _ e).1;omega
      have hG:=HG.out
      clear HG
      rcases gv with _ | gb
      · have hG0:bits BinOp.and IntKind.i64 m 12=0:=hG
        clear hG
        go_wp2
        refine bodyPost_ret (v:=.agg #[.string x,.bool p,.slice an ps.length cn,.int .i64 (bI l),.bool false,.int .i64 0]) (by simp [results,Tryz.results130,go_sem,d0,d1,d2,d3,d4,d5]) rfl ⟨.slice an ps.length cn,rfl,?_,below_set6 hB (by omega) _ _ _ _ _ _⟩
        exact lexs.ownsRow_le (row_set6 hown hne1 _ _ _ _ _ _) (by omega)
      cases gb
      · have hG0:bits BinOp.and IntKind.i64 m 12=4:=hG
        clear hG
        go_wp2
        refine bodyPost_ret (v:=.agg #[.string x,.bool p,.slice an ps.length cn,.int .i64 (bI l),.bool true,.int .i64 0]) (by simp [results,Tryz.results130,go_sem,d0,d1,d2,d3,d4,d5]) rfl ⟨.slice an ps.length cn,rfl,?_,below_set6 ((hB.setCell (by show w.heap.size≤N;omega) _).setCell (by show w.heap.size≤N;omega) _) (by omega) _ _ _ _ _ _⟩
        exact lexs.ownsRow_le (row_set6 (ownsRow_setCell_other (ownsRow_setCell_other hown hneN _) hneN _) hne1 _ _ _ _ _ _) (by omega)
      · have hG0:bits BinOp.and IntKind.i64 m 12=8:=hG
        clear hG
        go_wp2
        refine bodyPost_ret (v:=.agg #[.string x,.bool p,.slice an ps.length cn,.int .i64 (bI l),.bool true,.int .i64 1]) (by simp [results,Tryz.results130,go_sem,d0,d1,d2,d3,d4,d5]) rfl ⟨.slice an ps.length cn,rfl,?_,below_set6 ((hB.setCell (by show w.heap.size≤N;omega) _).setCell (by show w.heap.size≤N;omega) _) (by omega) _ _ _ _ _ _⟩
        exact lexs.ownsRow_le (row_set6 (ownsRow_setCell_other (ownsRow_setCell_other hown hneN _) hneN _) hne1 _ _ _ _ _ _) (by omega)
  clear hK0
  · skip
    refine tkH (i:=0) (v:=.pointer (some ⟨w.heap.size,1,none⟩)) rfl (Or.inl ⟨by rfl,fun w hSw=>by obtain ⟨z0,z1,z2,z3⟩:=hSw;go_simp⟩) hQ ?_
    simp only [Act.put,jA,jB,jC]
    refine tkH (i:=1) (v:=.string x) rfl (Or.inl ⟨by rfl,fun w hSw=>by obtain ⟨z0,z1,z2,z3⟩:=hSw;go_simp⟩) hQ ?_
    simp only [Act.put,jA,jB,jC]
    refine tkH (i:=2) (v:=.agg #[.int .i64 4,.string x,.int .i64 m,.slice (some ⟨g,o,none⟩) n1 c] ) rfl (Or.inl ⟨by rfl,fun w hSw=>by obtain ⟨z0,z1,z2,z3⟩:=hSw;go_simp⟩) hQ ?_
    simp only [Act.put,jA,jB,jC]
    refine tkH (i:=4) (v:=.agg #[.int .i64 4,.string x,.int .i64 m,.slice (some ⟨g,o,none⟩) n1 c] ) rfl (Or.inl ⟨by rfl,fun w hSw=>by obtain ⟨z0,z1,z2,z3⟩:=hSw;go_simp⟩) hQ ?_
    simp only [Act.put,jA,jB,jC]
    refine wpAnyH_ready (rs:=[3,7]) (by kernel_rfl) (by simp) ?_
    refine AllReadyH.cons rfl (fun K hK=>?_) ?_
    · skip
      go_simp
      go_at_call 155
      refine (hPub _).mono ?_
      rintro e W1 ⟨rfl,hb⟩
      go_wp2
      replace hQ:=Q4.below hQ hb
      replace hB:=hB.trans (hb.mono hB.size)
      replace hR:=hR.below hb
      skip
      refine hK.out _ _ hQ (fun hHeld=>?_)
      clear hK K hHeld hb
      refine wpAnyH_ready (rs:=[5,7]) (by kernel_rfl) (by simp) ?_
      refine AllReadyH.cons rfl (fun K hK=>?_) ?_
      · skip
        go_simp
        go_at_call 156
        refine (hLab _).mono ?_
        rintro e W2 ⟨rfl,hb⟩
        go_wp2
        replace hQ:=Q4.below hQ hb
        replace hB:=hB.trans (hb.mono hB.size)
        replace hR:=hR.below hb
        skip
        refine hK.out _ _ hQ (fun hHeld=>?_)
        clear hK K hHeld hb
        refine tkH (i:=6) (v:=.agg #[.string x,.bool p,.slice none 0 0,.int .i64 (bI l),.bool false,.int .i64 0] ) rfl (Or.inl ⟨by rfl,fun w hSw=>by obtain ⟨z0,z1,z2,z3⟩:=hSw;go_simp⟩) hQ ?_
        simp only [Act.put,jA,jB,jC]
        refine wpAnyH_ready (rs:=[7]) (by kernel_rfl) (by simp) ?_
        refine AllReadyH.cons rfl (fun K hK=>?_) AllReadyH.nil
        go_simp
        have hN:=Box6.new W2 (.string ⟨#[]⟩) (.bool false) (.slice none 0 0) (.int .i64 0) (.bool false) (.int .i64 0) 80
        have hgt:w.heap.size+1<W2.heap.size:=hR.lt
        replace hQ:=Q4.alloc hQ (.cells #[.string ⟨#[]⟩,.bool false,.slice none 0 0,.int .i64 0,.bool false,.int .i64 0] 80)
        replace hB:=hB.alloc hB.size (.cells #[.string ⟨#[]⟩,.bool false,.slice none 0 0,.int .i64 0,.bool false,.int .i64 0] 80)
        replace hR:=hR.alloc (.cells #[.string ⟨#[]⟩,.bool false,.slice none 0 0,.int .i64 0,.bool false,.int .i64 0] 80)
        refine hK.out _ _ hQ (fun hHeld=>?_)
        clear hK K hHeld
        generalize W2.alloc (.cells #[.string ⟨#[]⟩,.bool false,.slice none 0 0,.int .i64 0,.bool false,.int .i64 0] 80)=Wa at *
        generalize W2.heap.size=N at *
        refine wpAnyH_ready (rs:=[8]) (by kernel_rfl) (by simp) ?_
        refine AllReadyH.cons rfl (fun K hK=>?_) AllReadyH.nil
        obtain ⟨n0,n1,n2,n3,n4,n5,g0,g1,g2,g3,g4,g5⟩:=id hN
        go_simp
        replace hN:=hN.put (.string x) (.bool p) (.slice none 0 0) (.int .i64 (bI l)) (.bool false) (.int .i64 0)
        replace hQ:=Q4.other6 (M:=N) (by omega) hQ (.string x) (.bool p) (.slice none 0 0) (.int .i64 (bI l)) (.bool false) (.int .i64 0)
        replace hB:=below_set6 (M:=N) hB (by omega) (.string x) (.bool p) (.slice none 0 0) (.int .i64 (bI l)) (.bool false) (.int .i64 0)
        replace hR:=hR.other6 (M:=N) (by omega) (.string x) (.bool p) (.slice none 0 0) (.int .i64 (bI l)) (.bool false) (.int .i64 0)
        refine hK.out _ _ hQ (fun hHeld=>?_)
        clear hK K hHeld n0 n1 n2 n3 n4 n5 g0 g1 g2 g3 g4 g5
        generalize (World.setCell _ ⟨N,5,none⟩ _)=Wz at *
        refine wpAnyH_done (by kernel_rfl) ?_ _
        exact HF N Wz hgt hQ hB hR hN
      refine AllReadyH.cons rfl (fun K hK=>?_) AllReadyH.nil
      go_simp
      have hN:=Box6.new W1 (.string ⟨#[]⟩) (.bool false) (.slice none 0 0) (.int .i64 0) (.bool false) (.int .i64 0) 80
      have hgt:w.heap.size+1<W1.heap.size:=hR.lt
      replace hQ:=Q4.alloc hQ (.cells #[.string ⟨#[]⟩,.bool false,.slice none 0 0,.int .i64 0,.bool false,.int .i64 0] 80)
      replace hB:=hB.alloc hB.size (.cells #[.string ⟨#[]⟩,.bool false,.slice none 0 0,.int .i64 0,.bool false,.int .i64 0] 80)
      replace hR:=hR.alloc (.cells #[.string ⟨#[]⟩,.bool false,.slice none 0 0,.int .i64 0,.bool false,.int .i64 0] 80)
      refine hK.out _ _ hQ (fun hHeld=>?_)
      clear hK K hHeld
      generalize W1.alloc (.cells #[.string ⟨#[]⟩,.bool false,.slice none 0 0,.int .i64 0,.bool false,.int .i64 0] 80)=Wa at *
      generalize W1.heap.size=N at *
      refine wpAnyH_ready (rs:=[5]) (by kernel_rfl) (by simp) ?_
      refine AllReadyH.cons rfl (fun K hK=>?_) AllReadyH.nil
      go_simp
      go_at_call 156
      refine (hLab _).mono ?_
      rintro e W2 ⟨rfl,hb⟩
      go_wp2
      replace hQ:=Q4.below hQ hb
      replace hB:=hB.trans (hb.mono hB.size)
      replace hR:=hR.below hb
      replace hN:=hN.below hb
      refine hK.out _ _ hQ (fun hHeld=>?_)
      clear hK K hHeld hb
      refine tkH (i:=6) (v:=.agg #[.string x,.bool p,.slice none 0 0,.int .i64 (bI l),.bool false,.int .i64 0] ) rfl (Or.inl ⟨by rfl,fun w hSw=>by obtain ⟨z0,z1,z2,z3⟩:=hSw;go_simp⟩) hQ ?_
      simp only [Act.put,jA,jB,jC]
      refine wpAnyH_ready (rs:=[8]) (by kernel_rfl) (by simp) ?_
      refine AllReadyH.cons rfl (fun K hK=>?_) AllReadyH.nil
      obtain ⟨n0,n1,n2,n3,n4,n5,g0,g1,g2,g3,g4,g5⟩:=id hN
      go_simp
      replace hN:=hN.put (.string x) (.bool p) (.slice none 0 0) (.int .i64 (bI l)) (.bool false) (.int .i64 0)
      replace hQ:=Q4.other6 (M:=N) (by omega) hQ (.string x) (.bool p) (.slice none 0 0) (.int .i64 (bI l)) (.bool false) (.int .i64 0)
      replace hB:=below_set6 (M:=N) hB (by omega) (.string x) (.bool p) (.slice none 0 0) (.int .i64 (bI l)) (.bool false) (.int .i64 0)
      replace hR:=hR.other6 (M:=N) (by omega) (.string x) (.bool p) (.slice none 0 0) (.int .i64 (bI l)) (.bool false) (.int .i64 0)
      refine hK.out _ _ hQ (fun hHeld=>?_)
      clear hK K hHeld n0 n1 n2 n3 n4 n5 g0 g1 g2 g3 g4 g5
      generalize (World.setCell _ ⟨N,5,none⟩ _)=Wz at *
      refine wpAnyH_done (by kernel_rfl) ?_ _
      exact HF N Wz hgt hQ hB hR hN
    refine AllReadyH.cons rfl (fun K hK=>?_) AllReadyH.nil
    go_simp
    have hN:=Box6.new W (.string ⟨#[]⟩) (.bool false) (.slice none 0 0) (.int .i64 0) (.bool false) (.int .i64 0) 80
    have hgt:w.heap.size+1<W.heap.size:=hR.lt
    replace hQ:=Q4.alloc hQ (.cells #[.string ⟨#[]⟩,.bool false,.slice none 0 0,.int .i64 0,.bool false,.int .i64 0] 80)
    replace hB:=hB.alloc hB.size (.cells #[.string ⟨#[]⟩,.bool false,.slice none 0 0,.int .i64 0,.bool false,.int .i64 0] 80)
    replace hR:=hR.alloc (.cells #[.string ⟨#[]⟩,.bool false,.slice none 0 0,.int .i64 0,.bool false,.int .i64 0] 80)
    refine hK.out _ _ hQ (fun hHeld=>?_)
    clear hK K hHeld
    generalize W.alloc (.cells #[.string ⟨#[]⟩,.bool false,.slice none 0 0,.int .i64 0,.bool false,.int .i64 0] 80)=Wa at *
    generalize W.heap.size=N at *
    refine wpAnyH_ready (rs:=[3]) (by kernel_rfl) (by simp) ?_
    refine AllReadyH.cons rfl (fun K hK=>?_) AllReadyH.nil
    go_simp
    go_at_call 155
    refine (hPub _).mono ?_
    rintro e W1 ⟨rfl,hb⟩
    go_wp2
    replace hQ:=Q4.below hQ hb
    replace hB:=hB.trans (hb.mono hB.size)
    replace hR:=hR.below hb
    replace hN:=hN.below hb
    refine hK.out _ _ hQ (fun hHeld=>?_)
    clear hK K hHeld hb
    refine wpAnyH_ready (rs:=[5]) (by kernel_rfl) (by simp) ?_
    refine AllReadyH.cons rfl (fun K hK=>?_) AllReadyH.nil
    go_simp
    go_at_call 156
    refine (hLab _).mono ?_
    rintro e W2 ⟨rfl,hb⟩
    go_wp2
    replace hQ:=Q4.below hQ hb
    replace hB:=hB.trans (hb.mono hB.size)
    replace hR:=hR.below hb
    replace hN:=hN.below hb
    refine hK.out _ _ hQ (fun hHeld=>?_)
    clear hK K hHeld hb
    refine tkH (i:=6) (v:=.agg #[.string x,.bool p,.slice none 0 0,.int .i64 (bI l),.bool false,.int .i64 0] ) rfl (Or.inl ⟨by rfl,fun w hSw=>by obtain ⟨z0,z1,z2,z3⟩:=hSw;go_simp⟩) hQ ?_
    simp only [Act.put,jA,jB,jC]
    refine wpAnyH_ready (rs:=[8]) (by kernel_rfl) (by simp) ?_
    refine AllReadyH.cons rfl (fun K hK=>?_) AllReadyH.nil
    obtain ⟨n0,n1,n2,n3,n4,n5,g0,g1,g2,g3,g4,g5⟩:=id hN
    go_simp
    replace hN:=hN.put (.string x) (.bool p) (.slice none 0 0) (.int .i64 (bI l)) (.bool false) (.int .i64 0)
    replace hQ:=Q4.other6 (M:=N) (by omega) hQ (.string x) (.bool p) (.slice none 0 0) (.int .i64 (bI l)) (.bool false) (.int .i64 0)
    replace hB:=below_set6 (M:=N) hB (by omega) (.string x) (.bool p) (.slice none 0 0) (.int .i64 (bI l)) (.bool false) (.int .i64 0)
    replace hR:=hR.other6 (M:=N) (by omega) (.string x) (.bool p) (.slice none 0 0) (.int .i64 (bI l)) (.bool false) (.int .i64 0)
    refine hK.out _ _ hQ (fun hHeld=>?_)
    clear hK K hHeld n0 n1 n2 n3 n4 n5 g0 g1 g2 g3 g4 g5
    generalize (World.setCell _ ⟨N,5,none⟩ _)=Wz at *
    refine wpAnyH_done (by kernel_rfl) ?_ _
    exact HF N Wz hgt hQ hB hR hN
end Go.Proofs.YtfopddgjdaoidaaGreatDoor.face
