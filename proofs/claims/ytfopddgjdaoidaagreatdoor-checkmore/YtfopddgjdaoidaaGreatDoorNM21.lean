/- What the program's refuse, Join, begin, flow and localOf answer: contracts. -/
import Derived.Test.YtfopddgjdaoidaaGreatDoorNM20
import Derived.Deep.RegionHeld
set_option linter.unusedVariables false
set_option linter.unusedSimpArgs false
set_option maxRecDepth 100000
namespace Go.Proofs.YtfopddgjdaoidaaGreatDoor.chk
open Go.RowKit Go.Shelf
open syn face
attribute [local go_sem] Oper.semAt_some
set_option linter.unusedVariables false
set_option linter.unusedSimpArgs false
set_option maxRecDepth 100000 in
set_option maxHeartbeats 1000000 in
theorem back1_nil_in (F:Fence) (n:Nat) (hfn:F.fn 241) (hro:F.round=none) (l Bs:Nat) (a:Option Addr) (cap:Nat) (J:List (Nat × VarD)→World→Prop) (W:World) (hBs:W.cell? ⟨Bs,0,none⟩=some (.slice a 0 cap)) (h0:J [] W) :
    CallsIn F n Tryz.prog 241 #[.func (.yield l) #[] #[],.pointer (some ⟨Bs,0,none⟩)] W fun e W'=>(∃ v,e=.returned v)∧J [] W':=by
  refine callsIn_of_wp Tryz.func241 rfl hfn ?_ hro
  simp only [Tryz.ntmps241,List.size_toArray,List.length_cons,List.length_nil,Nat.reduceAdd,Nat.reduceSub,Array.replicate_succ,Array.replicate_zero,List.push_toArray,List.append_toArray,List.nil_append,List.cons_append]
  gi_wp2
  gi_loopw [3] (fun i wr=>i=.int .i64 (-1)∧J [] wr) (fun _ _=>0)
  case atStart=>exact ⟨by simp,h0⟩
  case round =>
    obtain ⟨rfl,hJs⟩:=hrel
    gi_wp2
    go_end0
    exact ⟨⟨_,rfl⟩,hJs⟩
set_option maxHeartbeats 1000000 in
theorem back_in (F:Fence) (n:Nat) (hfn:F.fn 227) (hro:F.round=none) (a:Option Addr) (len cap:Nat) (w:World) :
    CallsIn F n Tryz.prog 227 #[.slice a len cap] w fun e w'=>e=.returned (.func (.func 241) #[] #[.pointer (some ⟨w.heap.size,0,none⟩)])∧w'=w.alloc (.cells #[.slice a len cap] 41):=by
  refine callsIn_of_wp Tryz.func227 rfl hfn ?_ hro
  simp only [Tryz.ntmps227,List.size_toArray,List.length_cons,List.length_nil,Nat.reduceAdd,Nat.reduceSub,Array.replicate_succ,Array.replicate_zero,List.push_toArray,List.append_toArray,List.nil_append,List.cons_append]
  gi_wp2
  go_ret
  exact ⟨rfl,rfl⟩
def RowV (n₀:Nat) (W:World) (u:Value) (vs:List VarD):Prop:=∃ a cap,u=.slice a vs.length cap∧(0<vs.length→∃ b,a=some ⟨b,0,none⟩∧b<n₀∧∀ j (hj:j<vs.length),W.cell? ⟨b,j * 4,none⟩=some (.string vs[j].name)∧W.cell? ⟨b,j * 4+1,none⟩=some (.bool vs[j].pub)∧W.cell? ⟨b,j * 4+2,none⟩=some (.int .i64 vs[j].label)∧W.cell? ⟨b,j * 4+3,none⟩=some (.int .i64 vs[j].size))
theorem RowV.below {n₀:Nat} {A B:World} (h:Below n₀ A B) {u:Value} {vs:List VarD} (hr:RowV n₀ A u vs):RowV n₀ B u vs:=by
  obtain ⟨a,cap,e,hk⟩:=hr
  refine ⟨a,cap,e,fun hp=>?_⟩
  obtain ⟨b,e2,hb,hc⟩:=hk hp
  refine ⟨b,e2,hb,fun j hj=>?_⟩
  obtain ⟨c0,c1,c2,c3⟩:=hc j hj
  exact ⟨(h.cell (p:=⟨b,j * 4,none⟩) hb).trans c0,(h.cell (p:=⟨b,j * 4+1,none⟩) hb).trans c1,(h.cell (p:=⟨b,j * 4+2,none⟩) hb).trans c2,(h.cell (p:=⟨b,j * 4+3,none⟩) hb).trans c3⟩
theorem RowV.mono {n₀ n₁:Nat} {A:World} {u:Value} {vs:List VarD} (hr:RowV n₀ A u vs) (h:n₀≤n₁):RowV n₁ A u vs:=by
  obtain ⟨a,cap,e,hk⟩:=hr
  refine ⟨a,cap,e,fun hp=>?_⟩
  obtain ⟨b,e2,hb,hc⟩:=hk hp
  exact ⟨b,e2,by omega,hc⟩
theorem rowV_own {w:World} {B:Nat} {u:Value} {vs:List VarD} (h:w.ownsRow B 76 4 u vs.length (varCells vs)):RowV w.heap.size w u vs:=by
  rcases h.2 with ⟨rfl,hn⟩ | ⟨g,cap,cur,rfl,_,_,h1,h2,_⟩
  · exact ⟨none,0,by rw [hn],fun hp=>by omega⟩
  · refine ⟨some ⟨g,0,none⟩,cap,rfl,fun _=>⟨g,rfl,(h.lt g rfl).2,fun i hi=>?_⟩⟩
    obtain ⟨e0,e1,e2,e3⟩:=varCells_at vs i hi
    exact ⟨(h.cellAt _ (by omega)).trans e0,(h.cellAt _ (by omega)).trans e1,(h.cellAt _ (by omega)).trans e2,(h.cellAt _ (by omega)).trans e3⟩
theorem back_stops (F:Fence) (n:Nat) (hfn:F.fn 241) (hro:F.round=none) (hn:1≤n) (Bs n₀:Nat) (u:Value) (vs:List VarD) (hlen:vs.length≤1000) (w:World) (hBn:Bs<n₀) (hn₀:n₀≤w.heap.size)
    (hc:w.cell? ⟨Bs,0,none⟩=some u) (hR:RowV n₀ w u vs) :
    SeqStopsK F n Tryz.prog 241 #[.pointer (some ⟨Bs,0,none⟩)] encV (Below n₀) (fun ys=>ys=upto (bk vs) vs.length)
      (fun pre=>∃ k,k≤vs.length∧pre=upto (bk vs) k) vs.length w:=fun l J Jx W hW _ _ hY h0=>by
  have hc':=(hW.cell (p:=⟨Bs,0,none⟩) (by show Bs<w.heap.size;omega)).trans hc
  obtain ⟨a,cap,rfl,hk⟩:=hR.below (hW.mono hn₀)
  rcases Nat.eq_zero_or_pos vs.length with hz | hp
  · rw [hz] at hc'
    refine (back1_nil_in F n hfn hro l Bs a cap J W hc' h0).mono fun e W' ⟨he,hj⟩=>⟨he,.inl ⟨_,rfl,?_⟩⟩
    rw [hz]
    exact hj
  · obtain ⟨b,rfl,hb,hcs⟩:=hk hp
    exact back1_in F n hfn hro hn l Bs n₀ b cap vs hlen hb hBn J Jx hY W hc' hcs h0
end Go.Proofs.YtfopddgjdaoidaaGreatDoor.chk
namespace Go.Proofs.YtfopddgjdaoidaaGreatDoor.face
open Go.RowKit Go.Maps Go.WideMaps
open syn (isName eqS)
/-! how many names are known: plain facts -/
def keyL (x:ByteArray):Lit:=.string x.data.toList
def keysL (l:List ByteArray):List Lit:=l.map keyL
theorem eqS_key (x y:ByteArray):(keyL x).sameKey (keyL y)=eqS x y:=by
  show (x.data.toList==y.data.toList)=eqS x y
  unfold eqS
  rw [ByteArray.toList_eq,ByteArray.toList_eq]
theorem among_key (l:List ByteArray) (x:ByteArray):((keysL l).any fun y=>y.sameKey (keyL x))=among l x:=by
  unfold keysL among
  rw [List.any_map]
  congr 1
  funext y
  exact eqS_key y x
theorem fold_le:∀ (l acc:List Lit),(l.foldl addKey acc).length≤acc.length+l.length
  | [],acc=>by simp
  | x :: r,acc=>by
    rw [List.foldl_cons]
    have h1:=fold_le r (addKey acc x)
    have h2:(addKey acc x).length≤acc.length+1:=by unfold addKey;split <;> simp
    simp only [List.length_cons]
    omega
theorem fold_apart:∀ (l seen:List ByteArray),(((keysL l).foldl addKey (keysL seen)).length==seen.length+l.length)=apartB seen l
  | [],seen=>by simp [keysL,apartB]
  | x :: r,seen=>by
    show (((keyL x :: keysL r).foldl addKey (keysL seen)).length==seen.length+(r.length+1))=(!among seen x && apartB (seen++[x]) r)
    rw [List.foldl_cons]
    unfold addKey
    rw [among_key]
    cases h:among seen x
    · simp only [Bool.false_eq_true,if_false,Bool.not_false,Bool.true_and]
      have e:keysL seen++[keyL x]=keysL (seen++[x]):=by simp [keysL]
      have:=fold_apart r (seen++[x])
      rw [e,← this]
      simp only [List.length_append,List.length_cons,List.length_nil]
      congr 1
      omega
    · simp only [if_true,Bool.not_true,Bool.false_and]
      have:=fold_le (keysL r) (keysL seen)
      have e1:(keysL seen).length=seen.length:=by simp [keysL]
      have e2:(keysL r).length=r.length:=by simp [keysL]
      rw [beq_eq_false_iff_ne]
      show (List.foldl addKey (keysL seen) (keysL r)).length≠_
      omega
def setD (l:List ByteArray):DataW Unit:=setOf (.agg []) (keysL l)
theorem setD_size (l:List ByteArray):(Maps.size (setD l)==l.length)=apartB [] l:=by
  unfold setD
  rw [size_setOf _ _ (fun x hx=>by obtain ⟨y,_,rfl⟩:=List.mem_map.1 hx;trivial)]
  have:=fold_apart l []
  simpa [keysL] using this
theorem setD_snoc (l:List ByteArray) (x:ByteArray):setD (l++[x])=(setD l).put (keyL x) (.agg []):=by
  unfold setD keysL
  rw [List.map_append,List.map_singleton,setOf_snoc]
/-! the map while it is filled -/
theorem lawS:Keyed Tryz.prog 9:=string_keyed Tryz.underlying9
theorem isName_size {x:ByteArray} (h:isName x=true):x.size≤maxLen:=by
  unfold isName at h
  simp only [Bool.and_eq_true,decide_eq_true_eq] at h
  have:=h.1.1.1.2
  unfold maxLen
  omega
theorem key_name {x:ByteArray} (h:isName x=true):keyOf Tryz.prog 9 (.string x)=some (keyL x):=keyOf_string_mk Tryz.underlying9 (isName_size h)
theorem grown_of_below {w w':World} (hb:Below w.heap.size w w'):w.grownBy w' none:=⟨hb.os,hb.tape,hb.output,hb.size,fun j hj _=>hb.block j hj⟩
theorem grown_cell {w w':World} {row:Option Nat} (hg:w.grownBy w' row) {a:Addr} {v:Value} (h:w.cell? a=some v) (hne:some a.block≠row):w'.cell? a=some v:=by
  have:=hg.block a.block (World.block_lt_of_cell? w a h) hne
  unfold World.cell? at h ⊢
  rw [this]
  exact h
end Go.Proofs.YtfopddgjdaoidaaGreatDoor.face
namespace Go.Proofs.YtfopddgjdaoidaaGreatDoor.chk
open Go.RowKit Go.Maps Go.WideMaps
open syn face
def heldE (v:Value):Option (DataW Value × List MemPlace):=some (.held v,[])
def MapF (w:World) (b n:Nat) (f:ByteArray→Option Value):Prop :=
  ∃ D:DataW Value,w.ownsMap Tryz.prog 9 heldE b n D∧∀ x:ByteArray,Maps.has D (keyL x)=(f x).isSome∧∀ v,f x=some v→∀ z,D.atKey (keyL x) z=.held v
def noFaceV:Value:=.agg #[.string ⟨#[]⟩,.slice none 0 0,.slice none 0 0]
theorem zeroF (w:World):(zeroValue 44).run Tryz.prog w=.ok noFaceV w:=by kernel_rfl
theorem held_inj {v v':Value} {ps:List MemPlace} (h:heldE v=some (.held v',ps)):v=v':=by
  unfold heldE at h
  simp only [Option.some.injEq,Prod.mk.injEq,DataW.held.injEq] at h
  exact h.1
section
variable {w w':World} {b n:Nat} {f:ByteArray→Option Value}
theorem MapF.made (w:World):MapF (w.alloc (.map #[] 0)) w.heap.size 0 (fun _=>none) :=
  ⟨.map [],World.ownsMap_made _ _ _ _,fun x=>⟨rfl,fun v h=>by cases h⟩⟩
theorem MapF.lt (h:MapF w b n f):b<w.heap.size:=by
  obtain ⟨D,h,_⟩:=h
  exact h.lt
theorem MapF.kept {row:Option Nat} (h:MapF w b n f) (hg:w.grownBy w' row) (hne:some b≠row):MapF w' b n f:=by
  obtain ⟨D,h,h2⟩:=h
  exact ⟨D,h.kept hg hne,h2⟩
theorem MapF.below (h:MapF w b n f) (hb:Below w.heap.size w w'):MapF w' b n f:=h.kept (grown_of_below hb) (by simp)
theorem MapF.setCell (h:MapF w b n f) {a:Addr} (ha:b≠a.block) (u:Value):MapF (w.setCell a u) b n f:=by
  obtain ⟨D,h,h2⟩:=h
  exact ⟨D,h.setCell ha u,h2⟩
theorem key_ne {x y:ByteArray} (h:eqS x y=false):keyL x≠keyL y:=fun e=>by
  have:=eqS_key x y
  rw [e,eqS_key,h] at this
  have h2:eqS y y=true:=by unfold eqS;simp
  rw [h2] at this
  cases this
theorem key_eq {x y:ByteArray} (h:eqS x y=true):keyL x=keyL y:=by
  unfold eqS at h
  unfold keyL
  rw [← ByteArray.toList_eq,← ByteArray.toList_eq]
  rw [beq_iff_eq] at h
  rw [h]
theorem key_isKey (x:ByteArray):WideAt.IsKeyLit (keyL x):=trivial
theorem MapF.look (h:MapF w b n f) (x:ByteArray) (hx:x.size≤maxLen):(Instr.lookup 60 (.map (some b)) (.string x) false).run Tryz.prog w=.ok ((f x).getD noFaceV) w:=by
  obtain ⟨D,h,h2⟩:=h
  obtain ⟨v,ps,hrun,hv⟩:=h.lookup lawS Tryz.underlying60 (zeroF w) (zd:=.held noFaceV) (zp:=[]) rfl (keyOf_string_mk Tryz.underlying9 hx)
  rw [hrun]
  obtain ⟨h3,h4⟩:=h2 x
  have e:D.atKey (keyL x) (.held noFaceV)=.held ((f x).getD noFaceV):=by
    cases hf:f x with
    | none=>rw [hf] at h3;exact atKey_of_not_has h3 _
    | some u=>exact h4 u hf _
  have hv':heldE v=some (D.atKey (keyL x) (.held noFaceV),ps):=hv
  rw [e] at hv'
  rw [held_inj hv']
theorem MapF.put {D:DataW Value} {x:ByteArray} {v:Value} (h:∀ y:ByteArray,Maps.has D (keyL y)=(f y).isSome∧∀ v,f y=some v→∀ z,D.atKey (keyL y) z=.held v) (hm:IsMap D):∀ y:ByteArray,Maps.has (D.put (keyL x) (.held v)) (keyL y)=((if eqS y x then some v else f y):Option Value).isSome∧∀ u,(if eqS y x then some v else f y)=some u→∀ z,(D.put (keyL x) (.held v)).atKey (keyL y) z=.held u:=by
  intro y
  cases he:eqS y x with
  | true =>
    rw [key_eq he,if_pos rfl]
    refine ⟨has_put_same hm (key_isKey x) _,fun u hu z=>?_⟩
    cases hu
    exact atKey_put_same hm (key_isKey x) _ _
  | false =>
    rw [if_neg (by decide)]
    refine ⟨(has_put_other (key_ne he) _).trans (h y).1,fun u hu z=>?_⟩
    rw [atKey_put_other (key_ne he)]
    exact (h y).2 u hu z
theorem MapF.store (h:MapF w b n f) (hn:n<maxLen) (x:ByteArray) (hx:x.size≤maxLen) (v:Value):∃ w',(Instr.mapUpdate 60 (.map (some b)) (.string x) v).run Tryz.prog w=.ok () w'∧MapF w' b (n+1) (fun z=>if eqS z x then some v else f z)∧w.grownBy w' (some b):=by
  obtain ⟨D,h,h2⟩:=h
  obtain ⟨w',h3,h4,h5⟩:=h.update lawS Tryz.underlying60 hn (keyOf_string_mk Tryz.underlying9 hx) (d:=.held v) (ps:=[]) rfl
  exact ⟨w',h3,⟨_,h4,MapF.put h2 h.isMap⟩,h5⟩
end
theorem wpList_look {w:World} {b n:Nat} {f:ByteArray→Option Value} {ops:Array Oper} {rest:List Oper} {o:Oper} {a:Act} {Q:Exit→Act→World→Prop} (hg:o.guard=none) (m x:Operand) (hop:o.op=Op.lookup 60 m x true) (hm:a.eval m=.map (some b)) (h:MapF w b n f) (y:ByteArray) (hy:y.size≤maxLen) (hx:a.eval x=.string y)
    (hK:wpList Tryz.prog ops Q rest (a.put o.dst (.tuple #[(f y).getD noFaceV,.bool (f y).isSome])) w):wpList Tryz.prog ops Q (o :: rest) a w:=by
  obtain ⟨D,h,h2⟩:=h
  refine wpList_lookup_own_ok w hg m x 60 hop 9 44 lawS Tryz.underlying60 heldE (zeroF w) (.held noFaceV) [] rfl b n D hm h (.string y) (keyL y) hx (keyOf_string_mk Tryz.underlying9 hy) ?_
  intro v ps hv
  obtain ⟨h3,h4⟩:=h2 y
  have e:D.atKey (keyL y) (.held noFaceV)=.held ((f y).getD noFaceV):=by
    cases hf:f y with
    | none=>rw [hf] at h3;exact atKey_of_not_has h3 _
    | some u=>exact h4 u hf _
  rw [e] at hv
  rw [held_inj hv,h3]
  exact hK
theorem wpList_put {w:World} {b n:Nat} {f:ByteArray→Option Value} {ops:Array Oper} {rest:List Oper} {o:Oper} {a:Act} {Q:Exit→Act→World→Prop} (hg:o.guard=none) (m x v:Operand) (hop:o.op=Op.mapUpdate 60 m x v) (hm:a.eval m=.map (some b)) (h:MapF w b n f) (hn:n<maxLen) (y:ByteArray) (hy:y.size≤maxLen) (hx:a.eval x=.string y) (u:Value) (hv:a.eval v=u)
    (hK:∀ w',MapF w' b (n+1) (fun z=>if eqS z y then some u else f z)→w.grownBy w' (some b)→wpList Tryz.prog ops Q rest (a.put o.dst undef) w'):wpList Tryz.prog ops Q (o :: rest) a w:=by
  obtain ⟨D,h,h2⟩:=h
  refine wpList_mapUpdate_own w hg m x v 60 hop 9 44 lawS Tryz.underlying60 heldE b n D hm h hn (.string y) u (keyL y) hx hv (keyOf_string_mk Tryz.underlying9 hy) (.held u) [] rfl ?_
  intro w' h3 hg'
  exact hK w' ⟨_,h3,MapF.put h2 h.isMap⟩ hg'
end Go.Proofs.YtfopddgjdaoidaaGreatDoor.chk
namespace Go.Proofs.YtfopddgjdaoidaaGreatDoor.face
open Go.RowKit Go.Maps Go.WideMaps
open syn (isName eqS)
def Thrown (c a:Int):List PanicEntry:=[{ v:=.iface 28 (.agg #[.int .i64 c,.int .i64 a]),recovered:=false }]
theorem oRefuse (D:Nat) (c a:Int) (w:World) (h:w.cell? ⟨D,7,none⟩=some (.int .i64 a)) :
    Calls Tryz.prog 151 #[.pointer (some ⟨D,0,none⟩),.int .i64 c] w fun e w'=>e=.panicked (Thrown c a)∧w'=w:=by
  unfold Thrown
  go_enter Tryz.func151,Tryz.ntmps151
  go_wp2
  exact ⟨rfl,rfl,rfl⟩
theorem has_setD (l:List ByteArray) (x:ByteArray):Maps.has (setD l) (keyL x)=among l x:=by
  unfold setD
  rw [has_setOf _ _ _ (fun y hy=>by obtain ⟨z,_,rfl⟩:=List.mem_map.1 hy;trivial)]
  exact among_key l x
theorem size_apart {l:List ByteArray} (h:apartB [] l=true):Maps.size (setD l)=l.length:=by
  have:=setD_size l
  rw [h] at this
  simpa using this
theorem zeroU (w:World):(zeroValue 78).run Tryz.prog w=.ok (.agg #[]) w:=by kernel_rfl
theorem apart_snoc:∀ (l seen:List ByteArray) (x:ByteArray),apartB seen (l++[x])=(apartB seen l && !among (seen++l) x)
  | [],seen,x=>by simp [apartB]
  | y :: r,seen,x=>by
    show (!among seen y && apartB (seen++[y]) (r++[x]))=((!among seen y && apartB (seen++[y]) r) && !among (seen++y :: r) x)
    rw [apart_snoc r (seen++[y]) x,Bool.and_assoc]
    simp
set_option maxHeartbeats 2000000 in
theorem oEnter (D b:Nat) (L:List ByteArray) (x:ByteArray) (most:Nat) (a:Int) (w:World) (hD:w.cell? ⟨D,7,none⟩=some (.int .i64 a)) (hown:w.ownsMap Tryz.prog 9 (unitElem (H:=Unit)) b L.length (setD L)) (hA:apartB [] L=true) (hx:x.size≤1000) (hm:most≤1000) (hl:L.length≤1000) :
    Calls Tryz.prog 117 #[.pointer (some ⟨D,0,none⟩),.map (some b),.string x,.int .i64 most] w fun e w' =>
      (among L x=true∧e=.panicked (Thrown 5 a)∧Below w.heap.size w w')∨(among L x=false∧most≤L.length∧e=.panicked (Thrown 1 a)∧Below w.heap.size w w') ∨
      (among L x=false∧L.length<most∧e=.returned (.tuple #[])∧w'.ownsMap Tryz.prog 9 (unitElem (H:=Unit)) b (L++[x]).length (setD (L++[x]))∧apartB [] (L++[x])=true∧w.grownBy w' (some b)):=by
  have hkey:keyOf Tryz.prog 9 (.string x)=some (keyL x):=keyOf_string_mk Tryz.underlying9 (by unfold maxLen;omega)
  have hsz:=size_apart hA
  have hhas:=has_setD L x
  have hD1:=fun ob=>cell_new hD ob
  cases hm1:among L x
  · rw [hm1] at hhas
    by_cases hle:most≤L.length
    · go_enter Tryz.func117,Tryz.ntmps117
      go_wp2_with first
        | (at_lookup;refine wpList_lookup_own_unit _ rfl _ _ 74 rfl 9 78 lawS Tryz.underlying74 (zeroU _) b _ _ rfl hown _ _ rfl hkey ?_;rw [hhas])
        | (at_len;refine wpList_len_own _ rfl _ 74 rfl 9 78 Tryz.underlying74 (unitElem (H:=Unit)) b _ _ rfl (hown.alloc _) ?_;rw [hsz])
        | (go_at_call 151;refine (oRefuse D _ a _ (hD1 _)).mono ?_;rintro e w2 ⟨rfl,hw2⟩;obtain rfl:=hw2.symm)
        | go_in
      exact ⟨rfl,Or.inr (Or.inl ⟨trivial,hle,rfl,(Below.refl _ _).alloc (jE _) _⟩)⟩
    · have hlt:L.length<most:=by omega
      have hA2:apartB [] (L++[x])=true:=by rw [apart_snoc,hA,List.nil_append,hm1];rfl
      go_enter Tryz.func117,Tryz.ntmps117
      go_wp2_with first
        | (at_lookup;refine wpList_lookup_own_unit _ rfl _ _ 74 rfl 9 78 lawS Tryz.underlying74 (zeroU _) b _ _ rfl hown _ _ rfl hkey ?_;rw [hhas])
        | (at_len;refine wpList_len_own _ rfl _ 74 rfl 9 78 Tryz.underlying74 (unitElem (H:=Unit)) b _ _ rfl (hown.alloc _) ?_;rw [hsz])
        | (at_mapUpdate;refine wpList_mapUpdate_own _ rfl _ _ _ 74 rfl 9 78 lawS Tryz.underlying74 (unitElem (H:=Unit)) b _ _ rfl (hown.alloc _) (by unfold maxLen;omega) _ _ _ rfl rfl hkey _ [] unitElem_mk ?_;intro w5 hown5 hgrow5)
        | go_in
      go_end0
      exact ⟨rfl,by rw [setD_snoc];exact hown5,(((grown_of_below ((Below.refl w.heap.size w).alloc (jE _) _)).but _).trans hgrow5)⟩
  · rw [hm1] at hhas
    go_enter Tryz.func117,Tryz.ntmps117
    go_wp2_with first
      | (at_lookup;refine wpList_lookup_own_unit _ rfl _ _ 74 rfl 9 78 lawS Tryz.underlying74 (zeroU _) b _ _ rfl hown _ _ rfl hkey ?_;rw [hhas])
      | (go_at_call 151;refine (oRefuse D _ a _ (hD1 _)).mono ?_;rintro e w2 ⟨rfl,hw2⟩;obtain rfl:=hw2.symm)
      | go_in
    exact ⟨rfl,Or.inl ⟨trivial,rfl,(Below.refl _ _).alloc (jE _) _⟩⟩
end Go.Proofs.YtfopddgjdaoidaaGreatDoor.face
namespace Go.Proofs.YtfopddgjdaoidaaGreatDoor.face
open Go.RowKit
open syn
theorem bits_pub (p l:Bool) (g:Option Bool):(bits BinOp.and IntKind.i64 (2 * bI p+bI l+gI g) 2 != 0)=p:=by cases p <;> cases l <;> rcases g with _ | _ | _ <;> decide +kernel
theorem bits_low (p l:Bool) (g:Option Bool):bits BinOp.and IntKind.i64 (2 * bI p+bI l+gI g) 1=bI l:=by cases p <;> cases l <;> rcases g with _ | _ | _ <;> decide +kernel
theorem bits_gives (p l:Bool) (g:Option Bool):bits BinOp.and IntKind.i64 (2 * bI p+bI l+gI g) 12=gI g:=by cases p <;> cases l <;> rcases g with _ | _ | _ <;> decide +kernel
theorem oIsPub (k:Int) (x:ByteArray) (m:Int) (a:Option Addr) (n c:Nat) (w:World) :
    Calls Tryz.prog 155 #[.agg #[.int .i64 k,.string x,.int .i64 m,.slice a n c]] w fun e w'=>e=.returned (.bool (bits BinOp.and IntKind.i64 m 2 != 0))∧Below w.heap.size w w':=by
  have c24:Tryz.prog.cellsOf 25=4:=by kernel_rfl
  go_enter Tryz.func155,Tryz.ntmps155
  go_wp2
  go_ret
  exact ⟨rfl,(Below.refl _ _).alloc (jE _) _⟩
theorem oLabelOf (k:Int) (x:ByteArray) (m:Int) (a:Option Addr) (n c:Nat) (w:World) :
    Calls Tryz.prog 156 #[.agg #[.int .i64 k,.string x,.int .i64 m,.slice a n c]] w fun e w'=>e=.returned (.int .i64 (bits BinOp.and IntKind.i64 m 1))∧Below w.heap.size w w':=by
  have c24:Tryz.prog.cellsOf 25=4:=by kernel_rfl
  go_enter Tryz.func156,Tryz.ntmps156
  go_wp2
  go_ret
  exact ⟨rfl,(Below.refl _ _).alloc (jE _) _⟩
abbrev Q4 (N:Nat) (x0 x1 x2 x3:Value) (w:World):Prop:=w.cell? ⟨N,0,none⟩=some x0∧w.cell? ⟨N,1,none⟩=some x1∧w.cell? ⟨N,2,none⟩=some x2∧w.cell? ⟨N,3,none⟩=some x3
theorem Q4.below {w w':World} {N:Nat} {x0 x1 x2 x3:Value} (h:Q4 N x0 x1 x2 x3 w) (hb:Below w.heap.size w w'):Q4 N x0 x1 x2 x3 w':=⟨keep h.1 hb,keep h.2.1 hb,keep h.2.2.1 hb,keep h.2.2.2 hb⟩
theorem Q4.alloc {w:World} {N:Nat} {x0 x1 x2 x3:Value} (h:Q4 N x0 x1 x2 x3 w) (o:Obj):Q4 N x0 x1 x2 x3 (w.alloc o):=h.below ((Below.refl _ _).alloc (jE _) o)
theorem Q4.set4 {w:World} {N M:Nat} {x0 x1 x2 x3:Value} (hne:M≠N) (h:Q4 N x0 x1 x2 x3 w) (a b c d:Value):Q4 N x0 x1 x2 x3 ((((w.setCell ⟨M,0,none⟩ a).setCell ⟨M,1,none⟩ b).setCell ⟨M,2,none⟩ c).setCell ⟨M,3,none⟩ d):=by
  have one:∀ (w:World) (o:Nat) (v:Value),Q4 N x0 x1 x2 x3 w→Q4 N x0 x1 x2 x3 (w.setCell ⟨M,o,none⟩ v):=fun w o v h =>
    ⟨by rw [jD _ _ _ _ (by intro e;cases e;exact hne rfl)];exact h.1,by rw [jD _ _ _ _ (by intro e;cases e;exact hne rfl)];exact h.2.1,by rw [jD _ _ _ _ (by intro e;cases e;exact hne rfl)];exact h.2.2.1,by rw [jD _ _ _ _ (by intro e;cases e;exact hne rfl)];exact h.2.2.2⟩
  exact one _ _ _ (one _ _ _ (one _ _ _ (one _ _ _ h)))
structure F4 (w:World) (N:Nat) (x0 x1 x2 x3:Value):Prop where
  c0:w.cell? ⟨N,0,none⟩=some x0
  c1:w.cell? ⟨N,1,none⟩=some x1
  c2:w.cell? ⟨N,2,none⟩=some x2
  c3:w.cell? ⟨N,3,none⟩=some x3
  f0:w.frozen? ⟨N,0,none⟩=false
  f1:w.frozen? ⟨N,1,none⟩=false
  f2:w.frozen? ⟨N,2,none⟩=false
  f3:w.frozen? ⟨N,3,none⟩=false
theorem F4.new (w:World) (x0 x1 x2 x3:Value) (T:TypeId):F4 (w.alloc (.cells #[x0,x1,x2,x3] T)) w.heap.size x0 x1 x2 x3:=by constructor <;> simp
theorem F4.lt {w:World} {N:Nat} {x0 x1 x2 x3:Value} (h:F4 w N x0 x1 x2 x3):N<w.heap.size:=World.block_lt_of_cell? w ⟨N,0,none⟩ h.c0
theorem F4.block {w w':World} {N:Nat} {x0 x1 x2 x3:Value} (h:F4 w N x0 x1 x2 x3) (hb:w'.heap[N]?=w.heap[N]?):F4 w' N x0 x1 x2 x3 :=
  ⟨(World.cell?_of_block (a:=⟨N,0,none⟩) hb).trans h.c0,(World.cell?_of_block (a:=⟨N,1,none⟩) hb).trans h.c1,(World.cell?_of_block (a:=⟨N,2,none⟩) hb).trans h.c2,(World.cell?_of_block (a:=⟨N,3,none⟩) hb).trans h.c3,(World.frozen?_of_block (a:=⟨N,0,none⟩) hb).trans h.f0,(World.frozen?_of_block (a:=⟨N,1,none⟩) hb).trans h.f1,(World.frozen?_of_block (a:=⟨N,2,none⟩) hb).trans h.f2,(World.frozen?_of_block (a:=⟨N,3,none⟩) hb).trans h.f3⟩
theorem F4.below {w w':World} {N:Nat} {x0 x1 x2 x3:Value} (h:F4 w N x0 x1 x2 x3) (hb:Below w.heap.size w w'):F4 w' N x0 x1 x2 x3:=h.block (hb.block N h.lt)
end Go.Proofs.YtfopddgjdaoidaaGreatDoor.face
namespace Go.Proofs.YtfopddgjdaoidaaGreatDoor.chk
open Go.RowKit
open syn face
theorem oRefuseC (c a:Int) (w:World) :
    Calls Tryz.prog 131 #[.int .i64 c,.int .i64 a] w fun e w'=>e=.panicked (Thrown c a)∧w'=w:=by
  unfold Thrown
  go_enter Tryz.func131,Tryz.ntmps131
  go_wp2
  exact ⟨rfl,rfl,rfl⟩
theorem oJoin (a b:Int) (w:World):Calls Tryz.prog 188 #[.int .i64 a,.int .i64 b] w fun e w'=>e=.returned (.int .i64 (jn a b))∧w'=w:=by
  unfold jn
  by_cases ha:a=0
  · by_cases hb:b=0
    · rw [if_neg (by simp [ha,hb])]
      go_enter Tryz.func188,Tryz.ntmps188
      go_wp2
      go_ret
      exact ⟨rfl,rfl⟩
    · rw [if_pos (.inr hb)]
      go_enter Tryz.func188,Tryz.ntmps188
      go_wp2
      go_ret
      exact ⟨rfl,rfl⟩
  · rw [if_pos (.inl ha)]
    go_enter Tryz.func188,Tryz.ntmps188
    go_wp2
    go_ret
    exact ⟨rfl,rfl⟩
theorem oBegin (D:Nat) (n:Int) (w:World) (h:w.cell? ⟨D,7,none⟩=some (.int .i64 n)) (hf:w.frozen? ⟨D,7,none⟩=false) (h0:0≤n) (h1:n≤1000000) :
    Calls Tryz.prog 81 #[.pointer (some ⟨D,0,none⟩)] w fun e w'=>e=.returned (.int .i64 n)∧w'=w.setCell ⟨D,7,none⟩ (.int .i64 (n+1)):=by
  go_enter Tryz.func81,Tryz.ntmps81
  go_wp2
  go_ret
  exact ⟨rfl,rfl⟩
def flows (to:Int) (ls:List Int):Bool:=ls.all fun l=>jn to l==to
def FL (w:World) (to a:Int) (ls:List Int) (e:Ending) (w':World):Prop:=(flows to ls=true∧e=.returned (.tuple #[])∧w'=w)∨(flows to ls=false∧e=.panicked (Thrown 7 a)∧w'=w)
set_option maxHeartbeats 1000000 in
theorem oFlow (a to:Int) (ls:List Int) (u:Value) (w:World) (hu:IntsIn w u ls) :
    Calls Tryz.prog 158 #[.int .i64 a,.int .i64 to,u] w (FL w to a ls):=by
  obtain ⟨ua,uc,rfl,hl,hk⟩:=hu
  have hl':(ls.length:Int)≤9223372036854775807:=by omega
  go_enter Tryz.func158,Tryz.ntmps158
  go_wp2
  go_loopw [10] (fun t wr=>∃ j:Nat,j≤ls.length∧t=.int .i64 j∧Hid (∀ i (hi:i<ls.length),i<j→(jn to ls[i]==to)=true)∧wr=w) (fun t _=>ls.length - (intOf t).toNat)
  case atStart=>exact ⟨0,Nat.zero_le _,rfl,fun i hi h=>absurd h (by omega),rfl⟩
  case round =>
    obtain ⟨j,hj,rfl,HN,rfl⟩:=hrel
    by_cases hlt:j<ls.length
    · obtain ⟨g,o,rfl,hc⟩:=hk (by intro e;rw [e] at hlt;simp at hlt)
      have k0:=hc j hlt
      have HB:Hid (∀ b,(jn to ls[j]==to)=b→b=false→flows to ls=false):=fun b h1 h2=>by
        unfold flows
        rw [List.all_eq_false]
        exact ⟨ls[j],List.getElem_mem hlt,by rw [h1,h2];decide⟩
      have HS:Hid (∀ b,(jn to ls[j]==to)=b→b=true→∀ i (hi:i<ls.length),i<j+1→(jn to ls[i]==to)=true):=fun b h1 h2 i hi h=>by
        rcases Nat.lt_or_ge i j with h' | h'
        · exact HN.out i hi h'
        · obtain rfl:i=j:=by omega
          exact h1.trans h2
      clear hc hk
      generalize ls[j]=l at *
      cases hb:(jn to l==to)
      · have HF:Hid (flows to ls=false):=HB.out _ hb rfl
        have hne:¬ jn to l=to:=by simpa using hb
        clear HB HS
        go_wp2_with first
          | (go_at_call 188;refine (oJoin _ _ _).mono ?_;rintro e w6 ⟨rfl,hw6⟩;obtain rfl:=hw6.symm)
          | (go_at_call 131;refine (oRefuseC _ _ _).mono ?_;rintro e w7 ⟨rfl,hw7⟩;obtain rfl:=hw7.symm)
        exact ⟨rfl,.inr ⟨HF.out,rfl,rfl⟩⟩
      · have HS2:=HS.out _ hb rfl
        have heq:jn to l=to:=by simpa using hb
        clear HB HS
        go_wp2_with (go_at_call 188;refine (oJoin _ _ _).mono ?_;rintro e w6 ⟨rfl,hw6⟩;obtain rfl:=hw6.symm)
        go_roundw
        case rel=>exact ⟨j+1,by omega,by go_num,HS2,trivial⟩
        case measure=>simp [intOf];omega
    · have HF:Hid (flows to ls=true):=by
        show _=_
        unfold flows
        rw [List.all_eq_true]
        intro l hm
        obtain ⟨i,hi,rfl⟩:=List.mem_iff_getElem.1 hm
        exact HN.out i hi (by omega)
      go_wp2
      go_end0
      exact .inl ⟨HF.out,rfl,rfl⟩
end Go.Proofs.YtfopddgjdaoidaaGreatDoor.chk
