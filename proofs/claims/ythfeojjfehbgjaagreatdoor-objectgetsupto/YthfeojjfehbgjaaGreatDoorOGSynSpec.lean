/- What chapter 3 says of modules, as plain functions on lists of tokens: no Go in sight. Each answers nothing where its fuel is used up. -/
import Derived.Test.YthfeojjfehbgjaaGreatDoorOGLexSpec
namespace Go.Proofs.YthfeojjfehbgjaaGreatDoor.syn
open Go.Proofs.YthfeojjfehbgjaaGreatDoor.lexs (Tok ltrI insI val)

/-- a node and those under it -/
inductive Tree where
  | node (kind : Int) (text : ByteArray) (num : Int) (kids : List Tree)

/-- where a reader is, and whether it has failed -/
structure St where
  i : Nat
  bad : Bool

def St.fail (s : St) : St := { s with bad := true }
def St.next (s : St) : St := { s with i := s.i + 1 }
def empty : ByteArray := ⟨#[]⟩
/-- one string is another -/
def eqS (x y : ByteArray) : Bool := x.toList == y.toList

section
variable (ts : List Tok)
def here (s : St) : Option Tok := if s.bad then none else ts[s.i]?
def txt (s : St) : ByteArray :=
  match here ts s with
  | none => empty
  | some t => if t.kind == 2 then empty else ⟨t.text.toArray⟩
def eat (x : ByteArray) (s : St) : Bool × St := if eqS (txt ts s) x then (true, s.next) else (false, s)
def must (x : ByteArray) (s : St) : St := if eqS (txt ts s) x then s.next else s.fail
def reserved : List ByteArray := [⟨#[100, 111]⟩, ⟨#[101, 108, 115, 101]⟩, ⟨#[103, 105, 118, 101, 115]⟩, ⟨#[104, 105, 103, 104]⟩, ⟨#[105, 102]⟩, ⟨#[105, 109, 112, 111, 114, 116]⟩, ⟨#[105, 110]⟩, ⟨#[108, 111, 119]⟩, ⟨#[109, 111, 100, 117, 108, 101]⟩, ⟨#[111, 117, 116]⟩, ⟨#[112, 114, 111, 99]⟩, ⟨#[112, 117, 98]⟩, ⟨#[114, 101, 116, 117, 114, 110]⟩, ⟨#[119, 104, 105, 108, 101]⟩]
def isName (x : ByteArray) : Bool :=
  decide (1 ≤ x.size ∧ x.size ≤ 16) && ltrI ((x.data.toList.headD 0).toNat : Int) && x.data.toList.all (fun c => insI (c.toNat : Int)) && !(reserved.any fun y => eqS y x)
def name (s : St) : ByteArray × St := if isName (txt ts s) then (txt ts s, s.next) else (empty, s.fail)
def whole (s : St) : ByteArray × St :=
  let a := name ts s
  let e := eat ts ⟨#[46]⟩ a.2
  if e.1 then (a.1 ++ ⟨#[46]⟩ ++ (name ts e.2).1, (name ts e.2).2) else (a.1, a.2)
def label (s : St) : Int × St :=
  if eqS (txt ts s) ⟨#[104, 105, 103, 104]⟩ then (1, s.next) else (0, must ts ⟨#[108, 111, 119]⟩ s)

def isNum (s : St) : Bool := match here ts s with | none => false | some t => t.kind == 2
def number (s : St) : Tree × St :=
  match here ts s with
  | none => (.node 15 empty 0 [], s.fail)
  | some t => if t.kind == 2 then (.node 15 empty (val t.text : Int) [], s.next) else (.node 15 empty 0 [], s.fail)
def signs : List (ByteArray × Int × Int) := [(⟨#[61, 61]⟩, 9, 0), (⟨#[60]⟩, 8, 0), (⟨#[43]⟩, 1, 1), (⟨#[45]⟩, 2, 1), (⟨#[124]⟩, 7, 1), (⟨#[42]⟩, 3, 2), (⟨#[47]⟩, 4, 2), (⟨#[37]⟩, 5, 2), (⟨#[38]⟩, 6, 2)]
def sign (x : ByteArray) : Int × Int := ((signs.find? fun y => eqS y.1 x).map (·.2)).getD (0, -1)
end
end Go.Proofs.YthfeojjfehbgjaaGreatDoor.syn
