/- What chapter 3 says of modules, as plain functions on lists of tokens: no Go in sight. Each answers nothing where its fuel is used up. Where trees of nodes lie in memory, and what leaves them as they are. What chapter 3 says of expressions, as plain functions on lists of tokens: each answers nothing where its fuel is used up. What chapter 3 says of statements and blocks, as plain functions on lists of tokens: each answers nothing where its fuel is used up. What chapter 3 says of declarations, as plain functions on lists of tokens: each answers nothing where its fuel is used up. Of the tokens that a text has: those that are numbers are rows of digits that fit; and there are at most as many as there are bytes. No Go in sight. -/
import Derived.Test.YtchhpinmoagkhaaGreatDoorNLa
import Derived.WalkKit
import Derived.WalkLawsBesides
import Derived.Below
import Derived.Laws.OwnMore
import Derived.OneCell
namespace Go.Proofs.YtchhpinmoagkhaaGreatDoor.syn
open Go.Proofs.YtchhpinmoagkhaaGreatDoor.lexs (Tok ltrI insI val)

/-- a node and those under it -/
inductive Tree where
  | node (kind : Int) (text : ByteArray) (num : Int) (kids : List Tree)

/-- where a reader is, and whether it has failed -/
structure St where
  i : Nat
  bad : Bool

def St.fail (s : St) : St := { s with bad := true }
def St.next (s : St) : St := { s with i := s.i + 1 }
def empty : ByteArray := ⟨#[]⟩
/-- one string is another -/
def eqS (x y : ByteArray) : Bool := x.toList == y.toList

section
variable (ts : List Tok)
def here (s : St) : Option Tok := if s.bad then none else ts[s.i]?
def txt (s : St) : ByteArray :=
  match here ts s with
  | none => empty
  | some t => if t.kind == 2 then empty else ⟨t.text.toArray⟩
def eat (x : ByteArray) (s : St) : Bool × St := if eqS (txt ts s) x then (true, s.next) else (false, s)
def must (x : ByteArray) (s : St) : St := if eqS (txt ts s) x then s.next else s.fail
def reserved : List ByteArray := [⟨#[100, 111]⟩, ⟨#[101, 108, 115, 101]⟩, ⟨#[103, 105, 118, 101, 115]⟩, ⟨#[104, 105, 103, 104]⟩, ⟨#[105, 102]⟩, ⟨#[105, 109, 112, 111, 114, 116]⟩, ⟨#[105, 110]⟩, ⟨#[108, 111, 119]⟩, ⟨#[109, 111, 100, 117, 108, 101]⟩, ⟨#[111, 117, 116]⟩, ⟨#[112, 114, 111, 99]⟩, ⟨#[112, 117, 98]⟩, ⟨#[114, 101, 116, 117, 114, 110]⟩, ⟨#[119, 104, 105, 108, 101]⟩]
def isName (x : ByteArray) : Bool :=
  decide (1 ≤ x.size ∧ x.size ≤ 16) && ltrI ((x.data.toList.headD 0).toNat : Int) && x.data.toList.all (fun c => insI (c.toNat : Int)) && !(reserved.any fun y => eqS y x)
def name (s : St) : ByteArray × St := if isName (txt ts s) then (txt ts s, s.next) else (empty, s.fail)
def whole (s : St) : ByteArray × St :=
  let a := name ts s
  let e := eat ts ⟨#[46]⟩ a.2
  if e.1 then (a.1 ++ ⟨#[46]⟩ ++ (name ts e.2).1, (name ts e.2).2) else (a.1, a.2)
def label (s : St) : Int × St :=
  if eqS (txt ts s) ⟨#[104, 105, 103, 104]⟩ then (1, s.next) else (0, must ts ⟨#[108, 111, 119]⟩ s)

def isNum (s : St) : Bool := match here ts s with | none => false | some t => t.kind == 2
def number (s : St) : Tree × St :=
  match here ts s with
  | none => (.node 15 empty 0 [], s.fail)
  | some t => if t.kind == 2 then (.node 15 empty (val t.text : Int) [], s.next) else (.node 15 empty 0 [], s.fail)
def signs : List (ByteArray × Int × Int) := [(⟨#[61, 61]⟩, 9, 0), (⟨#[60]⟩, 8, 0), (⟨#[43]⟩, 1, 1), (⟨#[45]⟩, 2, 1), (⟨#[124]⟩, 7, 1), (⟨#[42]⟩, 3, 2), (⟨#[47]⟩, 4, 2), (⟨#[37]⟩, 5, 2), (⟨#[38]⟩, 6, 2)]
def sign (x : ByteArray) : Int × Int := ((signs.find? fun y => eqS y.1 x).map (·.2)).getD (0, -1)
end
end Go.Proofs.YtchhpinmoagkhaaGreatDoor.syn
namespace Go.Proofs.YtchhpinmoagkhaaGreatDoor.syn
open Go.RowKit
set_option linter.unusedVariables false

/-- four cells in a row -/
def cell4 (w : World) (g o : Nat) (v : Value) : Prop := ∃ x0 x1 x2 x3, v = .agg #[x0, x1, x2, x3] ∧ w.cell? ⟨g, o, none⟩ = some x0 ∧ w.cell? ⟨g, o + 1, none⟩ = some x1 ∧ w.cell? ⟨g, o + 2, none⟩ = some x2 ∧ w.cell? ⟨g, o + 3, none⟩ = some x3
mutual
/-- the value of a node: its tree lies in blocks such as P says -/
def Lies (P : Nat → Prop) (w : World) : Tree → Value → Prop
  | .node k x m ks, v => ∃ a c, v = .agg #[.int .i64 k, .string x, .int .i64 m, .slice a ks.length c] ∧ ks.length ≤ 4611686018427387904 ∧ (ks ≠ [] → ∃ g o, a = some ⟨g, o, none⟩ ∧ P g ∧ LiesAt P w ks g o)
def LiesAt (P : Nat → Prop) (w : World) : List Tree → Nat → Nat → Prop
  | [], _, _ => True
  | t :: r, g, o => (∃ v, cell4 w g o v ∧ Lies P w t v) ∧ LiesAt P w r g (o + 4)
end
mutual
theorem Lies.to {P Q : Nat → Prop} {w w' : World} (hPQ : ∀ b, P b → Q b) (hw : ∀ b, P b → ∀ o, w'.cell? ⟨b, o, none⟩ = w.cell? ⟨b, o, none⟩) : ∀ {t : Tree} {v : Value}, Lies P w t v → Lies Q w' t v
  | .node k x m ks, v, h => by
    unfold Lies at h ⊢
    obtain ⟨a, c, e, hl, hk⟩ := h
    refine ⟨a, c, e, hl, fun hne => ?_⟩
    obtain ⟨g, o, e2, hp, hat⟩ := hk hne
    exact ⟨g, o, e2, hPQ _ hp, LiesAt.to hPQ hw hp hat⟩
theorem LiesAt.to {P Q : Nat → Prop} {w w' : World} (hPQ : ∀ b, P b → Q b) (hw : ∀ b, P b → ∀ o, w'.cell? ⟨b, o, none⟩ = w.cell? ⟨b, o, none⟩) : ∀ {ks : List Tree} {g o : Nat}, P g → LiesAt P w ks g o → LiesAt Q w' ks g o
  | [], g, o, hp, h => by unfold LiesAt; trivial
  | t :: r, g, o, hp, h => by
    unfold LiesAt at h ⊢
    obtain ⟨⟨v, ⟨x0, x1, x2, x3, e, c0, c1, c2, c3⟩, hl⟩, hr⟩ := h
    refine ⟨⟨v, ⟨x0, x1, x2, x3, e, ?_, ?_, ?_, ?_⟩, Lies.to hPQ hw hl⟩, LiesAt.to hPQ hw hp hr⟩
    · rw [hw _ hp]; exact c0
    · rw [hw _ hp]; exact c1
    · rw [hw _ hp]; exact c2
    · rw [hw _ hp]; exact c3
end
/-- the i-th kid -/
theorem LiesAt.get {P : Nat → Prop} {w : World} : ∀ {ks : List Tree} {g o : Nat}, LiesAt P w ks g o → ∀ (i : Nat) (hi : i < ks.length), ∃ v, cell4 w g (o + i * 4) v ∧ Lies P w ks[i] v
  | [], g, o, h, i, hi => by simp at hi
  | t :: r, g, o, h, i, hi => by
    unfold LiesAt at h
    cases i with
    | zero => simpa using h.1
    | succ i =>
      have := LiesAt.get h.2 i (by simpa using hi)
      have e : o + (i + 1) * 4 = o + 4 + i * 4 := by omega
      rw [e]
      exact this
theorem LiesAt.snoc {P : Nat → Prop} {w : World} {t : Tree} : ∀ {ks : List Tree} {g o : Nat}, LiesAt P w ks g o → (∃ v, cell4 w g (o + ks.length * 4) v ∧ Lies P w t v) → LiesAt P w (ks ++ [t]) g o
  | [], g, o, h, hv => by
    unfold LiesAt
    refine ⟨by simpa using hv, by unfold LiesAt; trivial⟩
  | t' :: r, g, o, h, hv => by
    rw [List.cons_append]
    unfold LiesAt at h ⊢
    refine ⟨h.1, LiesAt.snoc h.2 ?_⟩
    have e : o + 4 + r.length * 4 = o + (t' :: r).length * 4 := by simp; omega
    rw [e]
    exact hv
/-- behind a call that leaves all that was there -/
theorem Lies.below {w w' : World} {t : Tree} {v : Value} (h : Lies (· < w.heap.size) w t v) (hb : Below w.heap.size w w') : Lies (· < w'.heap.size) w' t v :=
  h.to (fun b hb' => Nat.lt_of_lt_of_le hb' hb.size) (fun b hb' o => hb.cell (p := ⟨b, o, none⟩) hb')
theorem LiesAt.below {w w' : World} {ks : List Tree} {g o : Nat} (hg : g < w.heap.size) (h : LiesAt (· < w.heap.size) w ks g o) (hb : Below w.heap.size w w') : LiesAt (· < w'.heap.size) w' ks g o :=
  h.to (fun b hb' => Nat.lt_of_lt_of_le hb' hb.size) (fun b hb' o => hb.cell (p := ⟨b, o, none⟩) hb') hg
theorem Lies.drew {w : World} {t : Tree} {v : Value} (h : Lies (· < w.heap.size) w t v) : Lies (· < w.drew.heap.size) w.drew t v :=
  Lies.to (w := w) (w' := w.drew) (fun _ h => h) (fun _ _ _ => rfl) h
theorem kid_lt {k : Int} {x : ByteArray} {m : Int} {ks : List Tree} {i : Nat} (hi : i < ks.length) : SizeOf.sizeOf ks[i] < SizeOf.sizeOf (Tree.node k x m ks) := by
  have h1 := List.sizeOf_lt_of_mem (List.getElem_mem hi)
  simp
  omega
end Go.Proofs.YtchhpinmoagkhaaGreatDoor.syn
namespace Go.Proofs.YtchhpinmoagkhaaGreatDoor.syn
open Go.Proofs.YtchhpinmoagkhaaGreatDoor.lexs (Tok)
section
variable (ts : List Tok)
mutual
def exprF : Nat → St → Option (Tree × St)
  | 0, _ => none
  | f + 1, s => if s.bad then some (.node 0 empty 0 [], s) else boundF f 0 s
def boundF : Nat → Nat → St → Option (Tree × St)
  | 0, _, _ => none
  | f + 1, least, s => if 2 < least then unaryF f s else (boundF f (least + 1) s).bind fun q => boundL f least q.1 q.2
def boundL : Nat → Nat → Tree → St → Option (Tree × St)
  | 0, _, _, _ => none
  | f + 1, least, n, s =>
    if s.bad then some (n, s)
    else if (sign (txt ts s)).2 != (least : Int) then some (n, s)
    else (boundF f (least + 1) s.next).bind fun q =>
      if least == 0 then some (.node 19 empty (sign (txt ts s)).1 [n, q.1], q.2) else boundL f least (.node 19 empty (sign (txt ts s)).1 [n, q.1]) q.2
def unaryF : Nat → St → Option (Tree × St)
  | 0, _ => none
  | f + 1, s =>
    if eqS (txt ts s) ⟨#[45]⟩ then (unaryF f s.next).bind fun q => some (.node 20 empty 0 [q.1], q.2)
    else if eqS (txt ts s) ⟨#[33]⟩ then (unaryF f s.next).bind fun q => some (.node 21 empty 0 [q.1], q.2)
    else if eqS (txt ts s) ⟨#[40]⟩ then askedF f s
    else if isNum ts s then some (number ts s)
    else if eqS (txt ts (whole ts s).2) ⟨#[40]⟩ then callF f (whole ts s).1 (whole ts s).2 else placeF f (whole ts s).1 (whole ts s).2
def askedF : Nat → St → Option (Tree × St)
  | 0, _ => none
  | f + 1, s => (exprF f (must ts ⟨#[40]⟩ s)).bind fun q => some (q.1, must ts ⟨#[41]⟩ q.2)
def placeF : Nat → ByteArray → St → Option (Tree × St)
  | 0, _, _ => none
  | f + 1, x, s =>
    if eqS (txt ts s) ⟨#[91]⟩ then (exprF f s.next).bind fun q => some (.node 17 x 0 [q.1], must ts ⟨#[93]⟩ q.2) else some (.node 16 x 0 [], s)
def callF : Nat → ByteArray → St → Option (Tree × St)
  | 0, _, _ => none
  | f + 1, x, s =>
    if eqS (txt ts (must ts ⟨#[40]⟩ s)) ⟨#[41]⟩ then some (.node 18 x 0 [], (must ts ⟨#[40]⟩ s).next) else callL f x [] (must ts ⟨#[40]⟩ s) true
def callL : Nat → ByteArray → List Tree → St → Bool → Option (Tree × St)
  | 0, _, _, _, _ => none
  | f + 1, x, ks, s, on =>
    if on && !s.bad then (exprF f s).bind fun q => callL f x (ks ++ [q.1]) (eat ts ⟨#[44]⟩ q.2).2 (eat ts ⟨#[44]⟩ q.2).1
    else some (.node 18 x 0 ks, must ts ⟨#[41]⟩ s)
end
end
end Go.Proofs.YtchhpinmoagkhaaGreatDoor.syn
namespace Go.Proofs.YtchhpinmoagkhaaGreatDoor.syn
open Go.Proofs.YtchhpinmoagkhaaGreatDoor.lexs (Tok)
section
variable (ts : List Tok)
mutual
def blockF : Nat → St → Option (Tree × St)
  | 0, _ => none
  | f + 1, s => blockL f [] (must ts ⟨#[123]⟩ s)
def blockL : Nat → List Tree → St → Option (Tree × St)
  | 0, _, _ => none
  | f + 1, ks, s =>
    if s.bad then some (.node 6 empty 0 ks, s)
    else if eqS (txt ts s) ⟨#[125]⟩ then some (.node 6 empty 0 ks, s.next)
    else (statF f s).bind fun q => blockL f (ks ++ [q.1]) q.2
def statF : Nat → St → Option (Tree × St)
  | 0, _ => none
  | f + 1, s =>
    if eqS (txt ts s) ⟨#[105, 102]⟩ then
      (askedF ts f s.next).bind fun x => (blockF f x.2).bind fun b =>
        if eqS (txt ts b.2) ⟨#[101, 108, 115, 101]⟩ then (blockF f b.2.next).bind fun c => some (.node 10 empty 0 [x.1, b.1, c.1], c.2) else some (.node 10 empty 0 [x.1, b.1], b.2)
    else if eqS (txt ts s) ⟨#[119, 104, 105, 108, 101]⟩ then (askedF ts f s.next).bind fun x => (blockF f x.2).bind fun b => some (.node 11 empty 0 [x.1, b.1], b.2)
    else if eqS (txt ts s) ⟨#[108, 111, 119]⟩ || eqS (txt ts s) ⟨#[104, 105, 103, 104]⟩ then
      (exprF ts f (must ts ⟨#[61]⟩ (name ts (label ts s).2).2)).bind fun x => some (.node 7 (name ts (label ts s).2).1 (label ts s).1 [x.1], must ts ⟨#[59]⟩ x.2)
    else if eqS (txt ts s) ⟨#[100, 111]⟩ then (callF ts f (whole ts s.next).1 (whole ts s.next).2).bind fun x => some (.node 9 empty 0 [x.1], must ts ⟨#[59]⟩ x.2)
    else if eqS (txt ts s) ⟨#[111, 117, 116]⟩ then (exprF ts f (label ts s.next).2).bind fun x => some (.node 12 empty (label ts s.next).1 [x.1], must ts ⟨#[59]⟩ x.2)
    else if eqS (txt ts s) ⟨#[105, 110]⟩ then (placeF ts f (whole ts (label ts s.next).2).1 (whole ts (label ts s.next).2).2).bind fun x => some (.node 13 empty (label ts s.next).1 [x.1], must ts ⟨#[59]⟩ x.2)
    else if eqS (txt ts s) ⟨#[114, 101, 116, 117, 114, 110]⟩ then (exprF ts f s.next).bind fun x => some (.node 14 empty 0 [x.1], must ts ⟨#[59]⟩ x.2)
    else (placeF ts f (whole ts s).1 (whole ts s).2).bind fun x => (exprF ts f (must ts ⟨#[61]⟩ x.2)).bind fun y => some (.node 8 empty 0 [x.1, y.1], must ts ⟨#[59]⟩ y.2)
end
end
end Go.Proofs.YtchhpinmoagkhaaGreatDoor.syn
namespace Go.Proofs.YtchhpinmoagkhaaGreatDoor.syn
open Go.Proofs.YtchhpinmoagkhaaGreatDoor.lexs (Tok)
section
variable (ts : List Tok)
/-- behind 'pub', if it is there -/
def pubS (s : St) : St := if eqS (txt ts s) ⟨#[112, 117, 98]⟩ then s.next else s
def pubN (s : St) : Int := if eqS (txt ts s) ⟨#[112, 117, 98]⟩ then 2 else 0
def paramsL : Nat → List Tree → St → Option (List Tree × St)
  | 0, _, _ => none
  | f + 1, ks, s =>
    if eqS (txt ts (name ts (label ts s).2).2) ⟨#[44]⟩ then paramsL f (ks ++ [.node 5 (name ts (label ts s).2).1 (label ts s).1 []]) (name ts (label ts s).2).2.next
    else some (ks ++ [.node 5 (name ts (label ts s).2).1 (label ts s).1 []], (name ts (label ts s).2).2)
def params (f : Nat) (s : St) : Option (List Tree × St) := if eqS (txt ts s) ⟨#[41]⟩ then some ([], s) else paramsL ts f [] s
/-- the number behind the parameters, and where the block begins -/
def givesS (s : St) : St := if eqS (txt ts (label ts s).2) ⟨#[103, 105, 118, 101, 115]⟩ then (label ts (label ts s).2.next).2 else (label ts s).2
def givesN (n : Int) (s : St) : Int := if eqS (txt ts (label ts s).2) ⟨#[103, 105, 118, 101, 115]⟩ then n + (label ts s).1 + 4 + 4 * (label ts (label ts s).2.next).1 else n + (label ts s).1
def varS (s : St) : List Tree × St := if eqS (txt ts s) ⟨#[91]⟩ then ([(number ts s.next).1], must ts ⟨#[93]⟩ (number ts s.next).2) else ([], s)
def declF (f : Nat) (s : St) : Option (Tree × St) :=
  if eqS (txt ts (pubS ts s)) ⟨#[112, 114, 111, 99]⟩ then
    (params ts f (must ts ⟨#[40]⟩ (name ts (pubS ts s).next).2)).bind fun p =>
      (blockF ts f (givesS ts (must ts ⟨#[41]⟩ p.2))).bind fun b =>
        some (.node 4 (name ts (pubS ts s).next).1 (givesN ts (pubN ts s) (must ts ⟨#[41]⟩ p.2)) (p.1 ++ [b.1]), b.2)
  else some (.node 3 (name ts (label ts (pubS ts s)).2).1 (pubN ts s + (label ts (pubS ts s)).1) (varS ts (name ts (label ts (pubS ts s)).2).2).1, must ts ⟨#[59]⟩ (varS ts (name ts (label ts (pubS ts s)).2).2).2)
end
end Go.Proofs.YtchhpinmoagkhaaGreatDoor.syn
namespace Go.Proofs.YtchhpinmoagkhaaGreatDoor.lexs

theorem step_num {b : UInt8} {r : List UInt8} {n : Nat} (h : stepL (b :: r) = .tok 2 n) : numE ((b :: r).take n) = 0 := by
  rw [stepL, List.headD_cons, stepB] at h
  by_cases h1 : (b == 32 || b == 10) = true
  · rw [if_pos h1] at h; simp at h
  rw [if_neg h1] at h
  by_cases h2 : (b == 35) = true
  · rw [if_pos h2] at h; simp at h
  rw [if_neg h2] at h
  split at h
  · split at h
    · simp at h
    · injection h with h3 _; simp at h3
  · split at h
    · split at h
      · rename_i he
        injection h with _ h4
        subst h4
        simpa using he
      · simp at h
    · split at h
      · simp at h
      · injection h with h3 _; simp at h3
def GoodTok (t : Tok) : Prop := t.kind = 2 → numE t.text = 0 ∧ t.text ≠ []
theorem scanL_num : ∀ (f : Nat) (l : List UInt8) (i : Nat) (acc toks : List Tok), scanL f l i acc = .ok toks → (∀ t ∈ acc, GoodTok t) → ∀ t ∈ toks, GoodTok t
  | 0, l, i, acc, toks, h, ha => by
    unfold scanL at h
    injection h with h
    subst h
    exact ha
  | f + 1, [], i, acc, toks, h, ha => by
    unfold scanL at h
    injection h with h
    subst h
    exact ha
  | f + 1, b :: r, i, acc, toks, h, ha => by
    cases hs : stepL (b :: r) with
    | skip n => rw [scanL_skip hs] at h; exact scanL_num f _ _ _ _ h ha
    | fault c => rw [scanL_fault hs] at h; simp at h
    | tok k n =>
      rw [scanL_tok hs] at h
      refine scanL_num f _ _ _ _ h ?_
      intro t ht
      rw [List.mem_append] at ht
      rcases ht with ht | ht
      · exact ha t ht
      · simp only [List.mem_singleton] at ht
        subst ht
        intro hk
        have hk' : k = 2 := hk
        subst hk'
        refine ⟨step_num hs, ?_⟩
        have hn := (stepL_tok hs).1
        intro e
        have := congrArg List.length e
        rw [List.length_take] at this
        simp at this
        omega
theorem scan_num {l : List UInt8} {toks : List Tok} (h : scan l = .ok toks) : ∀ t ∈ toks, t.kind = 2 → numE t.text = 0 ∧ t.text ≠ [] := by
  unfold scan at h
  split at h
  · simp at h
  · exact scanL_num _ _ _ _ _ h (fun t ht => by simp at ht)
theorem scanL_len : ∀ (f : Nat) (l : List UInt8) (i : Nat) (acc toks : List Tok), scanL f l i acc = .ok toks → toks.length ≤ acc.length + l.length
  | 0, l, i, acc, toks, h => by
    unfold scanL at h
    injection h with h
    subst h
    omega
  | f + 1, [], i, acc, toks, h => by
    unfold scanL at h
    injection h with h
    subst h
    simp
  | f + 1, b :: r, i, acc, toks, h => by
    cases hs : stepL (b :: r) with
    | skip n =>
      rw [scanL_skip hs] at h
      have := scanL_len f _ _ _ _ h
      rw [List.length_drop] at this
      omega
    | fault c => rw [scanL_fault hs] at h; simp at h
    | tok k n =>
      rw [scanL_tok hs] at h
      have h1 := scanL_len f _ _ _ _ h
      have h2 := (stepL_tok hs).1
      rw [List.length_drop, List.length_append] at h1
      simp at h1 ⊢
      omega
theorem scan_len {l : List UInt8} {toks : List Tok} (h : scan l = .ok toks) : toks.length ≤ 3000 := by
  unfold scan at h
  split at h
  · simp at h
  · have := scanL_len _ _ _ _ _ h
    simp at this
    omega
end Go.Proofs.YtchhpinmoagkhaaGreatDoor.lexs
