/- What the program's split answers of a long name: a contract. -/
import Derived.Test.YtjkcecppnmlhjaaGreatDoorNQr
import Derived.Shelf.Strings.Cut
import Derived.Test.YtjkcecppnmlhjaaGreatDoorNQ08
set_option linter.unusedVariables false
set_option linter.unusedSimpArgs false
set_option maxRecDepth 100000
namespace Go.Proofs
open Go.Shelf
def Tryz.laysCut_ren : Go.Shelf.Ren := ⟨fun | 145 => 166 | 220 => 170 | 219 => 176 | 217 => 95 | 225 => 183 | 224 => 184 | 267 => 185 | 266 => 121 | 314 => 188 | n => n, fun | 9 => 9 | 4 => 4 | 59 => 187 | 3 => 3 | 5 => 5 | 46 => 164 | 146 => 213 | 51 => 209 | n => n, fun | 1 => 0 | n => n⟩
theorem Tryz.laysCut : Go.Proofs.Lays.n145 Tryz.prog Tryz.laysCut_ren := {
  mixed := by kernel_rfl
  f145 := Tryz.func166.trans (congrArg some (by kernel_rfl))
  f217 := Tryz.func95.trans (congrArg some (by kernel_rfl))
  f219 := Tryz.func176.trans (congrArg some (by kernel_rfl))
  f220 := Tryz.func170.trans (congrArg some (by kernel_rfl))
  f224 := Tryz.func184.trans (congrArg some (by kernel_rfl))
  f225 := Tryz.func183.trans (congrArg some (by kernel_rfl))
  f266 := Tryz.func121.trans (congrArg some (by kernel_rfl))
  f267 := Tryz.func185.trans (congrArg some (by kernel_rfl))
  f314 := Tryz.func188.trans (congrArg some (by kernel_rfl))
  t3 := Tryz.underlying3
  a3 := Tryz.isAgg3
  z3 := Tryz.sizeOf3
  v3 := Tryz.zeroValue3
  t4 := Tryz.underlying4
  a4 := Tryz.isAgg4
  z4 := Tryz.sizeOf4
  v4 := Tryz.zeroValue4
  t5 := Tryz.underlying5
  a5 := Tryz.isAgg5
  z5 := Tryz.sizeOf5
  v5 := Tryz.zeroValue5
  t9 := Tryz.underlying9
  a9 := Tryz.isAgg9
  z9 := Tryz.sizeOf9
  v9 := Tryz.zeroValue9
  t46 := Tryz.underlying164
  a46 := Tryz.isAgg164
  z46 := Tryz.sizeOf164
  v46 := Tryz.zeroValue164
  t51 := Tryz.underlying209
  a51 := Tryz.isAgg209
  z51 := Tryz.sizeOf209
  v51 := Tryz.zeroValue209
  t59 := Tryz.underlying187
  a59 := Tryz.isAgg187
  z59 := Tryz.sizeOf187
  v59 := Tryz.zeroValue187
  t146 := Tryz.underlying213
  a146 := Tryz.isAgg213
  z146 := Tryz.sizeOf213
  v146 := Tryz.zeroValue213
  g1 := by kernel_rfl }
end Go.Proofs
namespace Go.Proofs.YtjkcecppnmlhjaaGreatDoor.chk
open Go.RowKit
open syn face
def uH (w:World):Prop:=∃m:Int,w.cell? ⟨Tryz.laysCut_ren.g 1,0,none⟩=some (.int .i64 m)
theorem zan {b c:World} (a:uH b) (d:Below b.heap.size b c):uH c:=by
 obtain⟨e,a⟩:=a;exact⟨e,keep a d⟩
theorem zvv:∀b:List UInt8,(∀a∈b,a≠46)->Lib.index b [46] = -1
 | b,h=>Lib.index_none (fun c g=>by
  unfold Lib.occAt
  cases e:b.drop c with
  | nil=>rfl
  | cons a f =>
   have d:a∈b:=List.mem_of_mem_drop (i:=c) (by rw[e];exact jJ);have:=h a d;show((46:UInt8)==a&&List.isPrefixOf [] f)=false;rw[beq_false_of_ne (Ne.symm this)]
   rfl)
theorem zvu (a e:List UInt8) (f:∀b∈a,b≠46):Lib.index (a++46 :: e) [46]=a.length :=
 Lib.index_first (i:=a.length) oB (by
  unfold Lib.occAt
  simp) (fun d h=>by
  unfold Lib.occAt;rw[List.drop_append_of_le_length oA]
  cases c:a.drop d with
  | nil =>
   have:=congrArg List.length c;simp at this
   omega
  | cons b j =>
   have g:b∈a:=List.mem_of_mem_drop (i:=d) (by rw[c];exact jJ);have:=f b g;show((46:UInt8)==b&&List.isPrefixOf [] _)=false;rw[beq_false_of_ne (Ne.symm this)]
   rfl)
theorem zpp (a:ByteArray) (c:World) (l:kT a) (j:uH c) : Calls Tryz.prog 159 #[.string a] c fun f q=>f=.returned (.tuple #[.string (zR a),.string (yJ a)])/\Below c.heap.size c q:=by
 obtain⟨o,j⟩:=j;have b:=Any.strings_Cut Tryz.laysCut a ⟨#[46]⟩ o c (by have:=zes l;omega) j;rw[show((⟨#[46]⟩:ByteArray).data.toList)=[46] from rfl]at b;rcases zek l with⟨g,k,h⟩|⟨d,e,g,k,h,s,m,n⟩
 ·have i:Lib.cut a.data.toList [46]=(a.data.toList,[],false):=by
   unfold Lib.cut;rw[zvv _ g,ju oC]
  rw[i]at b;rw[k,h];dsimp only at b;rw[Lib.mk_data]at b;go_enter Tryz.func159,Tryz.ntmps159;go_wp2_with (go_at_call 166;refine b.mono ?_;rintro f r ⟨rfl,p,rfl⟩);refine jT (v:=.tuple #[.string empty,.string a]) (by simp[results,Tryz.results159,go_sem,empty]) rfl ?_;exact⟨rfl,⟨rfl,rfl,rfl,jE _,fun _ _=>rfl⟩⟩
 ·have i:Lib.cut a.data.toList [46]=(d,e,true):=by
   unfold Lib.cut;rw[g,zvu d e h,jv oA];simp
  rw[i]at b;rw[m,n];dsimp only at b;go_enter Tryz.func159,Tryz.ntmps159;go_wp2_with (go_at_call 166;refine b.mono ?_;rintro f r ⟨rfl,p,rfl⟩);refine jT (v:=.tuple #[.string ⟨d.toArray⟩,.string ⟨e.toArray⟩]) (by simp[results,Tryz.results159,go_sem]) rfl ?_;exact⟨rfl,⟨rfl,rfl,rfl,jE _,fun _ _=>rfl⟩⟩
end Go.Proofs.YtjkcecppnmlhjaaGreatDoor.chk
