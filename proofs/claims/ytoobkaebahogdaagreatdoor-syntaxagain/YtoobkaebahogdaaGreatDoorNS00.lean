/- The numbers of a tree that was read: those of numbers are no greater than the greatest, those of operators are operators'. No Go in sight. -/
import Derived.Test.YtoobkaebahogdaaGreatDoorNB00
import Derived.Test.YtoobkaebahogdaaGreatDoorNB01
import Derived.Test.YtoobkaebahogdaaGreatDoorNB02
import Derived.Test.YtoobkaebahogdaaGreatDoorNB03
import Derived.Test.YtoobkaebahogdaaGreatDoorNB04
import Derived.RowKit
import Derived.Lib.Strings
import Derived.Lib.ParseIntB
set_option linter.unusedVariables false
namespace Go.Proofs.YtoobkaebahogdaaGreatDoor
namespace lexs

theorem step_num {b : UInt8} {r : List UInt8} {n : Nat} (h : stepL (b :: r) = .tok 2 n) : numE ((b :: r).take n) = 0 := by
  rw [stepL, List.headD_cons, stepB] at h
  by_cases h1 : (b == 32 || b == 10) = true
  · rw [if_pos h1] at h; simp at h
  rw [if_neg h1] at h
  by_cases h2 : (b == 35) = true
  · rw [if_pos h2] at h; simp at h
  rw [if_neg h2] at h
  split at h
  · split at h
    · simp at h
    · injection h with h3 _; simp at h3
  · split at h
    · split at h
      · rename_i he
        injection h with _ h4
        subst h4
        simpa using he
      · simp at h
    · split at h
      · simp at h
      · injection h with h3 _; simp at h3
def GoodTok (t : Tok) : Prop := t.kind = 2 → numE t.text = 0 ∧ t.text ≠ []
theorem scanL_num : ∀ (f : Nat) (l : List UInt8) (i : Nat) (acc toks : List Tok), scanL f l i acc = .ok toks → (∀ t ∈ acc, GoodTok t) → ∀ t ∈ toks, GoodTok t
  | 0, l, i, acc, toks, h, ha => by
    unfold scanL at h
    injection h with h
    subst h
    exact ha
  | f + 1, [], i, acc, toks, h, ha => by
    unfold scanL at h
    injection h with h
    subst h
    exact ha
  | f + 1, b :: r, i, acc, toks, h, ha => by
    cases hs : stepL (b :: r) with
    | skip n => rw [scanL_skip hs] at h; exact scanL_num f _ _ _ _ h ha
    | fault c => rw [scanL_fault hs] at h; simp at h
    | tok k n =>
      rw [scanL_tok hs] at h
      refine scanL_num f _ _ _ _ h ?_
      intro t ht
      rw [List.mem_append] at ht
      rcases ht with ht | ht
      · exact ha t ht
      · simp only [List.mem_singleton] at ht
        subst ht
        intro hk
        have hk' : k = 2 := hk
        subst hk'
        refine ⟨step_num hs, ?_⟩
        have hn := (stepL_tok hs).1
        intro e
        have := congrArg List.length e
        rw [List.length_take] at this
        simp at this
        omega
theorem scan_num {l : List UInt8} {toks : List Tok} (h : scan l = .ok toks) : ∀ t ∈ toks, t.kind = 2 → numE t.text = 0 ∧ t.text ≠ [] := by
  unfold scan at h
  split at h
  · simp at h
  · exact scanL_num _ _ _ _ _ h (fun t ht => by simp at ht)
end lexs
namespace face
open Go.Proofs.YtoobkaebahogdaaGreatDoor.lexs (Tok scan)
open Go.Proofs.YtoobkaebahogdaaGreatDoor.syn

mutual
/-- a node within which nothing is declared -/
def InT : Tree → Prop
  | .node k _ _ ks => (k = 0 ∨ 6 ≤ k) ∧ InL ks
def InL : List Tree → Prop
  | [] => True
  | t :: r => InT t ∧ InL r
end
theorem InL.snoc {t : Tree} (ht : InT t) : ∀ {ks : List Tree}, InL ks → InL (ks ++ [t])
  | [], _ => by show InT t ∧ InL []; exact ⟨ht, by unfold InL; trivial⟩
  | a :: r, h => by
    unfold InL at h
    show InT a ∧ InL (r ++ [t])
    exact ⟨h.1, InL.snoc ht h.2⟩
theorem inT_leaf {k m : Int} {x : ByteArray} (h : k = 0 ∨ 6 ≤ k) : InT (.node k x m []) := by unfold InT; exact ⟨h, by unfold InL; trivial⟩
theorem inT_one {k m : Int} {x : ByteArray} {t : Tree} (h : k = 0 ∨ 6 ≤ k) (ht : InT t) : InT (.node k x m [t]) := by
  unfold InT InL InL; exact ⟨h, ht, trivial⟩
theorem inT_two {k m : Int} {x : ByteArray} {t u : Tree} (h : k = 0 ∨ 6 ≤ k) (ht : InT t) (hu : InT u) : InT (.node k x m [t, u]) := by
  unfold InT InL InL InL; exact ⟨h, ht, hu, trivial⟩
theorem inT_three {k m : Int} {x : ByteArray} {t u v : Tree} (h : k = 0 ∨ 6 ≤ k) (ht : InT t) (hu : InT u) (hv : InT v) : InT (.node k x m [t, u, v]) := by
  unfold InT InL InL InL InL; exact ⟨h, ht, hu, hv, trivial⟩
section
variable (ts : List Tok)
/-- what is read as an expression declares nothing -/
structure InE (f : Nat) : Prop where
  ex : ∀ s q, exprF ts f s = some q → InT q.1
  bo : ∀ l s q, boundF ts f l s = some q → InT q.1
  bl : ∀ l n s q, InT n → boundL ts f l n s = some q → InT q.1
  un : ∀ s q, unaryF ts f s = some q → InT q.1
  ak : ∀ s q, askedF ts f s = some q → InT q.1
  pl : ∀ x s q, placeF ts f x s = some q → InT q.1
  ca : ∀ x s q, callF ts f x s = some q → InT q.1
  cl : ∀ x ks s on q, InL ks → callL ts f x ks s on = some q → InT q.1
theorem number_in (s : St) : InT (number ts s).1 := by
  unfold number
  split
  · exact inT_leaf (.inr (by omega))
  · split <;> exact inT_leaf (.inr (by omega))
theorem inE : ∀ f, InE ts f
  | 0 => by
    constructor
    · intro s q h; unfold exprF at h; cases h
    · intro l s q h; unfold boundF at h; cases h
    · intro l n s q hn h; unfold boundL at h; cases h
    · intro s q h; unfold unaryF at h; cases h
    · intro s q h; unfold askedF at h; cases h
    · intro x s q h; unfold placeF at h; cases h
    · intro x s q h; unfold callF at h; cases h
    · intro x ks s on q hk h; unfold callL at h; cases h
  | f + 1 => by
    have ih := inE f
    constructor
    · intro s q h
      unfold exprF at h
      split at h
      · cases h; exact inT_leaf (.inl rfl)
      · exact ih.bo _ _ _ h
    · intro l s q h
      unfold boundF at h
      split at h
      · exact ih.un _ _ h
      · obtain ⟨p, hp, h⟩ := Option.bind_eq_some_iff.1 h
        exact ih.bl _ _ _ _ (ih.bo _ _ _ hp) h
    · intro l n s q hn h
      unfold boundL at h
      split at h
      · cases h; exact hn
      · split at h
        · cases h; exact hn
        · obtain ⟨p, hp, h⟩ := Option.bind_eq_some_iff.1 h
          have h2 := ih.bo _ _ _ hp
          split at h
          · cases h; exact inT_two (.inr (by omega)) hn h2
          · exact ih.bl _ _ _ _ (inT_two (.inr (by omega)) hn h2) h
    · intro s q h
      unfold unaryF at h
      split at h
      · obtain ⟨p, hp, h⟩ := Option.bind_eq_some_iff.1 h
        cases h; exact inT_one (.inr (by omega)) (ih.un _ _ hp)
      · split at h
        · obtain ⟨p, hp, h⟩ := Option.bind_eq_some_iff.1 h
          cases h; exact inT_one (.inr (by omega)) (ih.un _ _ hp)
        · split at h
          · exact ih.ak _ _ h
          · split at h
            · cases h; exact number_in ts s
            · split at h
              · exact ih.ca _ _ _ h
              · exact ih.pl _ _ _ h
    · intro s q h
      unfold askedF at h
      obtain ⟨p, hp, h⟩ := Option.bind_eq_some_iff.1 h
      cases h
      show InT p.1
      exact ih.ex _ _ hp
    · intro x s q h
      unfold placeF at h
      split at h
      · obtain ⟨p, hp, h⟩ := Option.bind_eq_some_iff.1 h
        cases h; exact inT_one (.inr (by omega)) (ih.ex _ _ hp)
      · cases h; exact inT_leaf (.inr (by omega))
    · intro x s q h
      unfold callF at h
      split at h
      · cases h; exact inT_leaf (.inr (by omega))
      · exact ih.cl _ _ _ _ _ (by unfold InL; trivial) h
    · intro x ks s on q hk h
      unfold callL at h
      split at h
      · obtain ⟨p, hp, h⟩ := Option.bind_eq_some_iff.1 h
        exact ih.cl _ _ _ _ _ (InL.snoc (ih.ex _ _ hp) hk) h
      · cases h
        show InT (.node 18 x 0 ks)
        unfold InT
        exact ⟨.inr (by omega), hk⟩
structure InS (f : Nat) : Prop where
  bl : ∀ s q, blockF ts f s = some q → InT q.1
  li : ∀ ks s q, InL ks → blockL ts f ks s = some q → InT q.1
  st : ∀ s q, statF ts f s = some q → InT q.1
theorem inS : ∀ f, InS ts f
  | 0 => by
    constructor
    · intro s q h; unfold blockF at h; cases h
    · intro ks s q hk h; unfold blockL at h; cases h
    · intro s q h; unfold statF at h; cases h
  | f + 1 => by
    have ih := inS f
    have ie := inE ts f
    constructor
    · intro s q h
      unfold blockF at h
      exact ih.li _ _ _ (by unfold InL; trivial) h
    · intro ks s q hk h
      unfold blockL at h
      have hn : InT (.node 6 empty 0 ks) := by unfold InT; exact ⟨.inr (by omega), hk⟩
      split at h
      · cases h; exact hn
      · split at h
        · cases h; exact hn
        · obtain ⟨p, hp, h⟩ := Option.bind_eq_some_iff.1 h
          exact ih.li _ _ _ (InL.snoc (ih.st _ _ hp) hk) h
    · intro s q h
      unfold statF at h
      split at h
      · obtain ⟨x, hx, h⟩ := Option.bind_eq_some_iff.1 h
        obtain ⟨b, hb, h⟩ := Option.bind_eq_some_iff.1 h
        split at h
        · obtain ⟨c, hc, h⟩ := Option.bind_eq_some_iff.1 h
          cases h; exact inT_three (.inr (by omega)) (ie.ak _ _ hx) (ih.bl _ _ hb) (ih.bl _ _ hc)
        · cases h; exact inT_two (.inr (by omega)) (ie.ak _ _ hx) (ih.bl _ _ hb)
      · split at h
        · obtain ⟨x, hx, h⟩ := Option.bind_eq_some_iff.1 h
          obtain ⟨b, hb, h⟩ := Option.bind_eq_some_iff.1 h
          cases h; exact inT_two (.inr (by omega)) (ie.ak _ _ hx) (ih.bl _ _ hb)
        · split at h
          · obtain ⟨x, hx, h⟩ := Option.bind_eq_some_iff.1 h
            cases h; exact inT_one (.inr (by omega)) (ie.ex _ _ hx)
          · split at h
            · obtain ⟨x, hx, h⟩ := Option.bind_eq_some_iff.1 h
              cases h; exact inT_one (.inr (by omega)) (ie.ca _ _ _ hx)
            · split at h
              · obtain ⟨x, hx, h⟩ := Option.bind_eq_some_iff.1 h
                cases h; exact inT_one (.inr (by omega)) (ie.ex _ _ hx)
              · split at h
                · obtain ⟨x, hx, h⟩ := Option.bind_eq_some_iff.1 h
                  cases h; exact inT_one (.inr (by omega)) (ie.pl _ _ _ hx)
                · split at h
                  · obtain ⟨x, hx, h⟩ := Option.bind_eq_some_iff.1 h
                    cases h; exact inT_one (.inr (by omega)) (ie.ex _ _ hx)
                  · obtain ⟨x, hx, h⟩ := Option.bind_eq_some_iff.1 h
                    obtain ⟨y, hy, h⟩ := Option.bind_eq_some_iff.1 h
                    cases h; exact inT_two (.inr (by omega)) (ie.pl _ _ _ hx) (ie.ex _ _ hy)
end

/-! declarations -/
def bI (b : Bool) : Int := if b then 1 else 0
inductive Kid where
  | imp (x : ByteArray)
  | var (x : ByteArray) (p l : Bool) (n : Option Int)
  | proc (x : ByteArray) (p l : Bool) (g : Option Bool) (ps : List (ByteArray × Bool)) (b : Tree)
def gI : Option Bool → Int
  | none => 0
  | some b => 4 + 4 * bI b
def parT (q : ByteArray × Bool) : Tree := .node 5 q.1 (bI q.2) []
def Kid.tree : Kid → Tree
  | .imp x => .node 2 x 0 []
  | .var x p l none => .node 3 x (2 * bI p + bI l) []
  | .var x p l (some n) => .node 3 x (2 * bI p + bI l) [.node 15 empty n []]
  | .proc x p l g ps b => .node 4 x (2 * bI p + bI l + gI g) (ps.map parT ++ [b])
section
variable (ts : List Tok)
theorem label_is (s : St) : ∃ l : Bool, (label ts s).1 = bI l := by
  unfold label
  split
  · exact ⟨true, rfl⟩
  · exact ⟨false, rfl⟩
theorem pub_is (s : St) : ∃ p : Bool, pubN ts s = 2 * bI p := by
  unfold pubN
  split
  · exact ⟨true, rfl⟩
  · exact ⟨false, rfl⟩
theorem gives_is (p : Bool) (s : St) : ∃ (l : Bool) (g : Option Bool), givesN ts (2 * bI p) s = 2 * bI p + bI l + gI g := by
  obtain ⟨l, hl⟩ := label_is ts s
  unfold givesN
  split
  · obtain ⟨m, hm⟩ := label_is ts (label ts s).2.next
    refine ⟨l, some m, ?_⟩
    rw [hl, hm]
    show _ = 2 * bI p + bI l + (4 + 4 * bI m)
    omega
  · exact ⟨l, none, by rw [hl]; show _ = 2 * bI p + bI l + 0; omega⟩
theorem number_is (s : St) : ∃ n, (number ts s).1 = .node 15 empty n [] := by
  unfold number
  split
  · exact ⟨_, rfl⟩
  · split <;> exact ⟨_, rfl⟩
end
end face
namespace face
open Go.Proofs.YtoobkaebahogdaaGreatDoor.syn

def Kid.good : Kid → Prop
  | .imp x => x.size ≤ 16
  | .var x _ _ _ => x.size ≤ 16
  | .proc x _ _ _ ps b => x.size ≤ 16 ∧ (∀ q ∈ ps, q.1.size ≤ 16) ∧ InT b
end face
namespace face
open Go.Proofs.YtoobkaebahogdaaGreatDoor.lexs (Tok scan scan_len)
open Go.Proofs.YtoobkaebahogdaaGreatDoor.syn

section
variable (ts : List Tok)
theorem name_size (s : St) : (name ts s).1.size ≤ 16 := by
  unfold name
  split
  · rename_i h
    unfold isName at h
    simp only [Bool.and_eq_true, decide_eq_true_eq] at h
    exact h.1.1.1.2
  · exact Nat.zero_le _
end

def Kid.named : Kid → Prop
  | .imp x => isName x = true
  | .var x _ _ _ => isName x = true
  | .proc x _ _ _ ps _ => isName x = true ∧ ∀ q ∈ ps, isName q.1 = true
theorem name_short {x : ByteArray} (h : isName x = true) : x.size ≤ 16 := by
  unfold isName at h
  simp only [Bool.and_eq_true, decide_eq_true_eq] at h
  exact h.1.1.1.2
section
variable (ts : List Tok)
theorem ok_of {s t : St} (hst : s.bad = true → t = s) (h : t.bad = false) : s.bad = false := by
  cases hs : s.bad
  · rfl
  · rw [hst hs, hs] at h; cases h
theorem name_named {s : St} (h : (name ts s).2.bad = false) : isName (name ts s).1 = true ∧ s.bad = false := by
  refine ⟨?_, ok_of (fun hs => name_st hs) h⟩
  unfold name at h ⊢
  split
  · assumption
  · rename_i hn
    rw [if_neg hn] at h
    simp [St.fail] at h
theorem paramsL_st : ∀ (f : Nat) (ks : List Tree) (s : St) (q : List Tree × St), s.bad = true → paramsL ts f ks s = some q → q.2 = s
  | 0, ks, s, q, hb, h => by unfold paramsL at h; cases h
  | f + 1, ks, s, q, hb, h => by
    unfold paramsL at h
    rw [label_st hb, name_st hb, eqS_bad (by decide) hb, if_neg (by decide)] at h
    cases h
    rfl
theorem params_st (f : Nat) (s : St) (q : List Tree × St) (hb : s.bad = true) (h : params ts f s = some q) : q.2 = s := by
  unfold params at h
  rw [eqS_bad (by decide) hb, if_neg (by decide)] at h
  exact paramsL_st ts f [] s q hb h
theorem paramsL_is3 : ∀ (f : Nat) (ps : List (ByteArray × Bool)) (s : St) (q : List Tree × St), (∀ q ∈ ps, isName q.1 = true) → paramsL ts f (ps.map parT) s = some q → q.2.bad = false → ∃ ps' : List (ByteArray × Bool), q.1 = ps'.map parT ∧ ∀ q ∈ ps', isName q.1 = true
  | 0, ps, s, q, hs, h, hb => by unfold paramsL at h; cases h
  | f + 1, ps, s, q, hs, h, hb => by
    unfold paramsL at h
    obtain ⟨l, hl⟩ := label_is ts s
    have e : ps.map parT ++ [.node 5 (name ts (label ts s).2).1 (label ts s).1 []] = (ps ++ [((name ts (label ts s).2).1, l)]).map parT := by
      rw [List.map_append, hl]; rfl
    rw [e] at h
    have key : (name ts (label ts s).2).2.bad = false → ∀ q ∈ ps ++ [((name ts (label ts s).2).1, l)], isName q.1 = true := by
      intro hn q hq
      rw [List.mem_append] at hq
      rcases hq with hq | hq
      · exact hs q hq
      · simp only [List.mem_singleton] at hq; subst hq; exact (name_named ts hn).1
    split at h
    · have h1 : (name ts (label ts s).2).2.next.bad = false := ok_of (fun hx => paramsL_st ts f _ _ _ hx h) hb
      exact paramsL_is3 f _ _ _ (key h1) h hb
    · cases h; exact ⟨_, rfl, key hb⟩
theorem givesS_st {s : St} (h : s.bad = true) : givesS ts s = s := by
  unfold givesS
  rw [label_st h, eqS_bad (by decide) h, if_neg (by decide)]
theorem varS_st {s : St} (h : s.bad = true) : (varS ts s).2 = s := by
  unfold varS
  rw [eqS_bad (by decide) h, if_neg (by decide)]
theorem pubS_st {s : St} (h : s.bad = true) : pubS ts s = s := by
  unfold pubS
  rw [eqS_bad (by decide) h, if_neg (by decide)]
theorem importsL_st (f : Nat) (ks : List Tree) (s : St) (q : List Tree × St) (hb : s.bad = true) (h : importsL ts f ks s = some q) : q.2 = s := by
  cases f with
  | zero => unfold importsL at h; cases h
  | succ f =>
    unfold importsL at h
    rw [eqS_bad (by decide) hb, if_neg (by decide)] at h
    cases h
    rfl
theorem declsL_st (f : Nat) (ks : List Tree) (s : St) (q : List Tree × St) (hb : s.bad = true) (h : declsL ts f ks s = some q) : q.2 = s := by
  cases f with
  | zero => unfold declsL at h; cases h
  | succ f =>
    unfold declsL at h
    rw [hb, Bool.true_or, if_pos rfl] at h
    cases h
    rfl
end
end face
namespace chk
open Go.Proofs.YtoobkaebahogdaaGreatDoor.lexs (Tok scan scan_len)
open Go.Proofs.YtoobkaebahogdaaGreatDoor.syn Go.Proofs.YtoobkaebahogdaaGreatDoor.face

/-- a name, or two with a point between -/
def LongN (x : ByteArray) : Prop := isName x = true ∨ ∃ a b, isName a = true ∧ isName b = true ∧ x = a ++ ⟨#[46]⟩ ++ b
/-- an expression -/
inductive ExT : Tree → Prop
  | num (n : Nat) : ExT (.node 15 empty n [])
  | nam {x : ByteArray} : LongN x → ExT (.node 16 x 0 [])
  | item {x : ByteArray} {e : Tree} : LongN x → ExT e → ExT (.node 17 x 0 [e])
  | call {x : ByteArray} {ks : List Tree} : LongN x → (∀ t ∈ ks, ExT t) → ExT (.node 18 x 0 ks)
  | op {m : Int} {a b : Tree} : ExT a → ExT b → ExT (.node 19 empty m [a, b])
  | neg {a : Tree} : ExT a → ExT (.node 20 empty 0 [a])
  | nott {a : Tree} : ExT a → ExT (.node 21 empty 0 [a])
/-- a place -/
inductive PlT : Tree → Prop
  | nam {x : ByteArray} : LongN x → PlT (.node 16 x 0 [])
  | item {x : ByteArray} {e : Tree} : LongN x → ExT e → PlT (.node 17 x 0 [e])
theorem PlT.ex {t : Tree} (h : PlT t) : ExT t := by
  cases h with
  | nam h => exact .nam h
  | item h e => exact .item h e
/-- a call -/
inductive CaT : Tree → Prop
  | mk {x : ByteArray} {ks : List Tree} : LongN x → (∀ t ∈ ks, ExT t) → CaT (.node 18 x 0 ks)
theorem CaT.ex {t : Tree} (h : CaT t) : ExT t := by
  cases h with
  | mk h e => exact .call h e
mutual
/-- a statement -/
inductive StT : Tree → Prop
  | loc {x : ByteArray} (l : Bool) {e : Tree} : isName x = true → ExT e → StT (.node 7 x (bI l) [e])
  | set {p e : Tree} : PlT p → ExT e → StT (.node 8 empty 0 [p, e])
  | dd {c : Tree} : CaT c → StT (.node 9 empty 0 [c])
  | ift {e b : Tree} : ExT e → BlT b → StT (.node 10 empty 0 [e, b])
  | ife {e b c : Tree} : ExT e → BlT b → BlT c → StT (.node 10 empty 0 [e, b, c])
  | whi {e b : Tree} : ExT e → BlT b → StT (.node 11 empty 0 [e, b])
  | out (l : Bool) {e : Tree} : ExT e → StT (.node 12 empty (bI l) [e])
  | inn (l : Bool) {p : Tree} : PlT p → StT (.node 13 empty (bI l) [p])
  | ret {e : Tree} : ExT e → StT (.node 14 empty 0 [e])
/-- a block -/
inductive BlT : Tree → Prop
  | mk {ks : List Tree} : (∀ t ∈ ks, StT t) → BlT (.node 6 empty 0 ks)
end
section
variable (ts : List Tok)
theorem eat_bad (x : ByteArray) (s : St) : (eat ts x s).2.bad = s.bad := by
  unfold eat
  split <;> rfl
theorem whole_long {s : St} (h : (whole ts s).2.bad = false) : LongN (whole ts s).1 ∧ s.bad = false := by
  refine ⟨?_, ok_of (fun hs => whole_st hs) h⟩
  unfold whole at h ⊢
  dsimp only at h ⊢
  split at h
  · rename_i he
    rw [if_pos he]
    obtain ⟨n2, b2⟩ := name_named ts h
    rw [eat_bad] at b2
    obtain ⟨n1, _⟩ := name_named ts b2
    exact .inr ⟨_, _, n1, n2, rfl⟩
  · rename_i he
    rw [if_neg he]
    exact .inl (name_named ts h).1
structure ShE (f : Nat) : Prop where
  ex : ∀ s q, exprF ts f s = some q → q.2.bad = false → ExT q.1
  bo : ∀ l s q, boundF ts f l s = some q → q.2.bad = false → ExT q.1
  bl : ∀ l n s q, ExT n → boundL ts f l n s = some q → q.2.bad = false → ExT q.1
  un : ∀ s q, unaryF ts f s = some q → q.2.bad = false → ExT q.1
  ak : ∀ s q, askedF ts f s = some q → q.2.bad = false → ExT q.1
  pl : ∀ x s q, LongN x → placeF ts f x s = some q → q.2.bad = false → PlT q.1
  ca : ∀ x s q, LongN x → callF ts f x s = some q → q.2.bad = false → CaT q.1
  cl : ∀ x ks s on q, LongN x → (∀ t ∈ ks, ExT t) → callL ts f x ks s on = some q → q.2.bad = false → CaT q.1
theorem number_ex {s : St} (h : (number ts s).2.bad = false) : ExT (number ts s).1 := by
  unfold number at h ⊢
  cases hh : here ts s with
  | none => rw [hh] at h; simp [St.fail] at h
  | some t =>
    rw [hh] at h
    dsimp only at h ⊢
    split at h
    · rename_i h2
      rw [if_pos h2]
      exact .num _
    · simp [St.fail] at h
theorem shE : ∀ f, ShE ts f
  | 0 => by
    constructor
    · intro s q h; unfold exprF at h; cases h
    · intro l s q h; unfold boundF at h; cases h
    · intro l n s q hn h; unfold boundL at h; cases h
    · intro s q h; unfold unaryF at h; cases h
    · intro s q h; unfold askedF at h; cases h
    · intro x s q hx h; unfold placeF at h; cases h
    · intro x s q hx h; unfold callF at h; cases h
    · intro x ks s on q hx hk h; unfold callL at h; cases h
  | f + 1 => by
    have ih := shE f
    have st := Go.Proofs.YtoobkaebahogdaaGreatDoor.syn.stuck ts f
    constructor
    · intro s q h hb
      unfold exprF at h
      split at h
      · rename_i hs
        cases h
        rw [hs] at hb
        cases hb
      · exact ih.bo _ _ _ h hb
    · intro l s q h hb
      unfold boundF at h
      split at h
      · exact ih.un _ _ h hb
      · obtain ⟨p, hp, h⟩ := Option.bind_eq_some_iff.1 h
        have b1 : p.2.bad = false := ok_of (fun hx => st.bl _ _ _ _ hx h) hb
        exact ih.bl _ _ _ _ (ih.bo _ _ _ hp b1) h hb
    · intro l n s q hn h hb
      unfold boundL at h
      split at h
      · cases h; exact hn
      · split at h
        · cases h; exact hn
        · obtain ⟨p, hp, h⟩ := Option.bind_eq_some_iff.1 h
          split at h
          · cases h
            exact .op hn (ih.bo _ _ _ hp hb)
          · have b1 : p.2.bad = false := ok_of (fun hx => st.bl _ _ _ _ hx h) hb
            exact ih.bl _ _ _ _ (.op hn (ih.bo _ _ _ hp b1)) h hb
    · intro s q h hb
      unfold unaryF at h
      split at h
      · obtain ⟨p, hp, h⟩ := Option.bind_eq_some_iff.1 h
        cases h; exact .neg (ih.un _ _ hp hb)
      · split at h
        · obtain ⟨p, hp, h⟩ := Option.bind_eq_some_iff.1 h
          cases h; exact .nott (ih.un _ _ hp hb)
        · split at h
          · exact ih.ak _ _ h hb
          · split at h
            · cases h; exact number_ex ts hb
            · split at h
              · have b1 : (whole ts s).2.bad = false := ok_of (fun hx => st.c _ _ _ hx h) hb
                exact (ih.ca _ _ _ (whole_long ts b1).1 h hb).ex
              · have b1 : (whole ts s).2.bad = false := ok_of (fun hx => st.p _ _ _ hx h) hb
                exact (ih.pl _ _ _ (whole_long ts b1).1 h hb).ex
    · intro s q h hb
      unfold askedF at h
      obtain ⟨p, hp, h⟩ := Option.bind_eq_some_iff.1 h
      cases h
      have b1 : p.2.bad = false := ok_of (t := must ts ⟨#[41]⟩ p.2) (fun hx => must_st (by decide) hx) hb
      show ExT p.1
      exact ih.ex _ _ hp b1
    · intro x s q hx h hb
      unfold placeF at h
      split at h
      · obtain ⟨p, hp, h⟩ := Option.bind_eq_some_iff.1 h
        cases h; exact .item hx (ih.ex _ _ hp (ok_of (fun hx => must_st (by decide) hx) hb))
      · cases h; exact .nam hx
    · intro x s q hx h hb
      unfold callF at h
      split at h
      · cases h; exact .mk hx (fun t ht => by cases ht)
      · exact ih.cl _ _ _ _ _ hx (fun t ht => by cases ht) h hb
    · intro x ks s on q hx hk h hb
      unfold callL at h
      split at h
      · obtain ⟨p, hp, h⟩ := Option.bind_eq_some_iff.1 h
        have b1 : (eat ts ⟨#[44]⟩ p.2).2.bad = false := ok_of (fun hx => st.cl _ _ _ _ _ hx h) hb
        rw [eat_bad] at b1
        refine ih.cl _ _ _ _ _ hx ?_ h hb
        intro t ht
        rw [List.mem_append] at ht
        rcases ht with ht | ht
        · exact hk t ht
        · simp only [List.mem_singleton] at ht; subst ht; exact ih.ex _ _ hp b1
      · cases h
        exact .mk hx hk
structure ShS (f : Nat) : Prop where
  bl : ∀ s q, blockF ts f s = some q → q.2.bad = false → BlT q.1
  li : ∀ ks s q, (∀ t ∈ ks, StT t) → blockL ts f ks s = some q → q.2.bad = false → BlT q.1
  st : ∀ s q, statF ts f s = some q → q.2.bad = false → StT q.1
theorem shS : ∀ f, ShS ts f
  | 0 => by
    constructor
    · intro s q h; unfold blockF at h; cases h
    · intro ks s q hk h; unfold blockL at h; cases h
    · intro s q h; unfold statF at h; cases h
  | f + 1 => by
    have ih := shS f
    have ie := shE ts f
    have se := Go.Proofs.YtoobkaebahogdaaGreatDoor.syn.stuck ts f
    have sb := stuck2 ts f
    constructor
    · intro s q h hb
      unfold blockF at h
      exact ih.li _ _ _ (fun t ht => by cases ht) h hb
    · intro ks s q hk h hb
      unfold blockL at h
      split at h
      · cases h; exact .mk hk
      · split at h
        · cases h; exact .mk hk
        · obtain ⟨p, hp, h⟩ := Option.bind_eq_some_iff.1 h
          have b1 : p.2.bad = false := ok_of (fun hx => sb.bl _ _ _ hx h) hb
          refine ih.li _ _ _ ?_ h hb
          intro t ht
          rw [List.mem_append] at ht
          rcases ht with ht | ht
          · exact hk t ht
          · simp only [List.mem_singleton] at ht; subst ht; exact ih.st _ _ hp b1
    · intro s q h hb
      unfold statF at h
      split at h
      · obtain ⟨x, hx, h⟩ := Option.bind_eq_some_iff.1 h
        obtain ⟨b, hbk, h⟩ := Option.bind_eq_some_iff.1 h
        split at h
        · obtain ⟨c, hc, h⟩ := Option.bind_eq_some_iff.1 h
          cases h
          have b1 : b.2.next.bad = false := ok_of (fun hy => sb.bk _ _ hy hc) hb
          replace b1 : b.2.bad = false := b1
          have b2 : x.2.bad = false := ok_of (fun hy => sb.bk _ _ hy hbk) b1
          exact .ife (ie.ak _ _ hx b2) (ih.bl _ _ hbk b1) (ih.bl _ _ hc hb)
        · cases h
          have b2 : x.2.bad = false := ok_of (fun hy => sb.bk _ _ hy hbk) hb
          exact .ift (ie.ak _ _ hx b2) (ih.bl _ _ hbk hb)
      · split at h
        · obtain ⟨x, hx, h⟩ := Option.bind_eq_some_iff.1 h
          obtain ⟨b, hbk, h⟩ := Option.bind_eq_some_iff.1 h
          cases h
          have b2 : x.2.bad = false := ok_of (fun hy => sb.bk _ _ hy hbk) hb
          exact .whi (ie.ak _ _ hx b2) (ih.bl _ _ hbk hb)
        · split at h
          · obtain ⟨x, hx, h⟩ := Option.bind_eq_some_iff.1 h
            cases h
            have b1 : x.2.bad = false := ok_of (fun hy => must_st (by decide) hy) hb
            have b2 : (must ts ⟨#[61]⟩ (name ts (label ts s).2).2).bad = false := ok_of (fun hy => se.e _ _ hy hx) b1
            have b3 : (name ts (label ts s).2).2.bad = false := ok_of (fun hy => must_st (by decide) hy) b2
            obtain ⟨l, hl⟩ := label_is ts s
            rw [hl]
            exact .loc l (name_named ts b3).1 (ie.ex _ _ hx b1)
          · split at h
            · obtain ⟨x, hx, h⟩ := Option.bind_eq_some_iff.1 h
              cases h
              have b1 : x.2.bad = false := ok_of (fun hy => must_st (by decide) hy) hb
              have b2 : (whole ts s.next).2.bad = false := ok_of (fun hy => se.c _ _ _ hy hx) b1
              exact .dd (ie.ca _ _ _ (whole_long ts b2).1 hx b1)
            · split at h
              · obtain ⟨x, hx, h⟩ := Option.bind_eq_some_iff.1 h
                cases h
                have b1 : x.2.bad = false := ok_of (fun hy => must_st (by decide) hy) hb
                obtain ⟨l, hl⟩ := label_is ts s.next
                rw [hl]
                exact .out l (ie.ex _ _ hx b1)
              · split at h
                · obtain ⟨x, hx, h⟩ := Option.bind_eq_some_iff.1 h
                  cases h
                  have b1 : x.2.bad = false := ok_of (fun hy => must_st (by decide) hy) hb
                  have b2 : (whole ts (label ts s.next).2).2.bad = false := ok_of (fun hy => se.p _ _ _ hy hx) b1
                  obtain ⟨l, hl⟩ := label_is ts s.next
                  rw [hl]
                  exact .inn l (ie.pl _ _ _ (whole_long ts b2).1 hx b1)
                · split at h
                  · obtain ⟨x, hx, h⟩ := Option.bind_eq_some_iff.1 h
                    cases h
                    have b1 : x.2.bad = false := ok_of (fun hy => must_st (by decide) hy) hb
                    exact .ret (ie.ex _ _ hx b1)
                  · obtain ⟨x, hx, h⟩ := Option.bind_eq_some_iff.1 h
                    obtain ⟨y, hy, h⟩ := Option.bind_eq_some_iff.1 h
                    cases h
                    have b1 : y.2.bad = false := ok_of (fun hz => must_st (by decide) hz) hb
                    have b2 : (must ts ⟨#[61]⟩ x.2).bad = false := ok_of (fun hz => se.e _ _ hz hy) b1
                    have b3 : x.2.bad = false := ok_of (fun hz => must_st (by decide) hz) b2
                    have b4 : (whole ts s).2.bad = false := ok_of (fun hz => se.p _ _ _ hz hx) b3
                    exact .set (ie.pl _ _ _ (whole_long ts b4).1 hx b3) (ie.ex _ _ hy b1)
end
/-- what is known of a declaration -/
def deepK : Kid → Prop
  | .proc _ _ _ _ _ b => BlT b
  | _ => True
section
variable (ts : List Tok)
theorem decl_is4 (f : Nat) (s : St) (q : Tree × St) (h : declF ts f s = some q) (hbad : q.2.bad = false) : ∃ k : Kid, q.1 = k.tree ∧ k.good ∧ k.named ∧ deepK k ∧ s.bad = false := by
  unfold declF at h
  obtain ⟨p, hp⟩ := pub_is ts s
  rw [hp] at h
  split at h
  · obtain ⟨a, ha, h⟩ := Option.bind_eq_some_iff.1 h
    obtain ⟨b, hb, h⟩ := Option.bind_eq_some_iff.1 h
    cases h
    have b1 : (givesS ts (must ts ⟨#[41]⟩ a.2)).bad = false := ok_of (fun hx => (stuck2 ts f).bk _ _ hx hb) hbad
    have b2 : (must ts ⟨#[41]⟩ a.2).bad = false := ok_of (fun hx => givesS_st ts hx) b1
    have b3 : a.2.bad = false := ok_of (fun hx => must_st (by decide) hx) b2
    have b4 : (must ts ⟨#[40]⟩ (name ts (pubS ts s).next).2).bad = false := ok_of (fun hx => params_st ts f _ _ hx ha) b3
    have b5 : (name ts (pubS ts s).next).2.bad = false := ok_of (fun hx => must_st (by decide) hx) b4
    obtain ⟨n1, b6⟩ := name_named ts b5
    have b7 : s.bad = false := ok_of (fun hx => pubS_st ts hx) b6
    obtain ⟨ps, hps, hsz⟩ : ∃ ps : List (ByteArray × Bool), a.1 = ps.map parT ∧ ∀ q ∈ ps, isName q.1 = true := by
      unfold params at ha
      split at ha
      · cases ha; exact ⟨[], rfl, fun q hq => by cases hq⟩
      · exact paramsL_is3 ts f [] _ _ (fun q hq => by cases hq) ha b3
    obtain ⟨l, g, hg⟩ := gives_is ts p (must ts ⟨#[41]⟩ a.2)
    refine ⟨.proc (name ts (pubS ts s).next).1 p l g ps b.1, ?_, ⟨face.name_size ts _, fun q hq => name_short (hsz q hq), (inS ts f).bl _ _ hb⟩, ⟨n1, hsz⟩, (shS ts f).bl _ _ hb hbad, b7⟩
    show Tree.node 4 _ _ _ = Tree.node 4 _ _ _
    rw [hg, hps]
  · cases h
    have b1 : (varS ts (name ts (label ts (pubS ts s)).2).2).2.bad = false := ok_of (fun hx => must_st (by decide) hx) hbad
    have b2 : (name ts (label ts (pubS ts s)).2).2.bad = false := ok_of (fun hx => varS_st ts hx) b1
    obtain ⟨n1, b3⟩ := name_named ts b2
    have b4 : (pubS ts s).bad = false := ok_of (fun hx => label_st hx) b3
    have b5 : s.bad = false := ok_of (fun hx => pubS_st ts hx) b4
    obtain ⟨l, hl⟩ := label_is ts (pubS ts s)
    rw [hl]
    unfold varS
    split
    · obtain ⟨n, hn⟩ := number_is ts (name ts (label ts (pubS ts s)).2).2.next
      rw [hn]
      exact ⟨.var _ p l (some n), rfl, face.name_size ts _, n1, trivial, b5⟩
    · exact ⟨.var _ p l none, rfl, face.name_size ts _, n1, trivial, b5⟩
theorem importsL_is4 : ∀ (f : Nat) (ks : List Kid) (s : St) (q : List Tree × St), (∀ k ∈ ks, k.good ∧ k.named ∧ deepK k) → importsL ts f (ks.map Kid.tree) s = some q → q.2.bad = false → ∃ ks' : List Kid, q.1 = ks'.map Kid.tree ∧ ∀ k ∈ ks', k.good ∧ k.named ∧ deepK k
  | 0, ks, s, q, hk, h, hb => by unfold importsL at h; cases h
  | f + 1, ks, s, q, hk, h, hb => by
    unfold importsL at h
    split at h
    · have e : ks.map Kid.tree ++ [.node 2 (name ts s.next).1 0 []] = (ks ++ [Kid.imp (name ts s.next).1]).map Kid.tree := by rw [List.map_append]; rfl
      rw [e] at h
      have b1 : (must ts ⟨#[59]⟩ (name ts s.next).2).bad = false := ok_of (fun hx => importsL_st ts f _ _ _ hx h) hb
      have b2 : (name ts s.next).2.bad = false := ok_of (fun hx => must_st (by decide) hx) b1
      refine importsL_is4 f _ _ _ ?_ h hb
      intro k hm
      rw [List.mem_append] at hm
      rcases hm with hm | hm
      · exact hk k hm
      · simp only [List.mem_singleton] at hm; subst hm; exact ⟨face.name_size ts _, (name_named ts b2).1, trivial⟩
    · cases h; exact ⟨ks, rfl, hk⟩
theorem declsL_is4 : ∀ (f : Nat) (ks : List Kid) (s : St) (q : List Tree × St), (∀ k ∈ ks, k.good ∧ k.named ∧ deepK k) → declsL ts f (ks.map Kid.tree) s = some q → q.2.bad = false → ∃ ks' : List Kid, q.1 = ks'.map Kid.tree ∧ ∀ k ∈ ks', k.good ∧ k.named ∧ deepK k
  | 0, ks, s, q, hk, h, hb => by unfold declsL at h; cases h
  | f + 1, ks, s, q, hk, h, hb => by
    unfold declsL at h
    split at h
    · cases h; exact ⟨ks, rfl, hk⟩
    · obtain ⟨p, hp, h⟩ := Option.bind_eq_some_iff.1 h
      have b1 : p.2.bad = false := ok_of (fun hx => declsL_st ts f _ _ _ hx h) hb
      obtain ⟨k, hk1, hk2, hk3, hk4, _⟩ := decl_is4 ts _ _ _ hp b1
      have e : ks.map Kid.tree ++ [p.1] = (ks ++ [k]).map Kid.tree := by rw [List.map_append, hk1]; rfl
      rw [e] at h
      refine declsL_is4 f _ _ _ ?_ h hb
      intro k' hm
      rw [List.mem_append] at hm
      rcases hm with hm | hm
      · exact hk k' hm
      · simp only [List.mem_singleton] at hm; subst hm; exact ⟨hk2, hk3, hk4⟩
end
/-- THE SHAPE: of every text that is a module -/
theorem parse_shape4 (x : ByteArray) (h : (parse x).code = 0) : ∃ (m : ByteArray) (ks : List Kid), (parse x).tree = .node 1 m 0 (ks.map Kid.tree) ∧ m.size ≤ 16 ∧ isName m = true ∧ (∀ k ∈ ks, k.good ∧ k.named ∧ deepK k) ∧ fitsT (parse x).tree = true := by
  unfold parse at h ⊢
  cases hs : scan x.data.toList with
  | err c p =>
    rw [hs] at h
    exact absurd h (lexs.scan_err hs)
  | ok ts =>
    obtain ⟨p, q, hp, hq, hm⟩ := moduleF_has (ts := ts) (scan_len hs)
    rw [hs] at h
    simp only [hm] at h ⊢
    unfold judge at h ⊢
    cases hb : q.2.bad with
    | true =>
      rw [if_pos hb] at h
      simp at h
    | false =>
      rw [if_neg (by simp [hb])] at h ⊢
      cases hf : fitsT (.node 1 (headX ts) 0 q.1) with
      | false =>
        rw [if_neg (by simp [hf])] at h
        simp at h
      | true =>
        rw [if_pos rfl]
        have b1 : p.2.bad = false := ok_of (fun hx => declsL_st ts _ _ _ _ hx hq) hb
        have b2 : (headS ts).bad = false := ok_of (fun hx => importsL_st ts _ _ _ _ hx hp) b1
        have b3 : (name ts (must ts ⟨#[109, 111, 100, 117, 108, 101]⟩ ⟨0, false⟩)).2.bad = false := ok_of (fun hx => must_st (by decide) hx) b2
        obtain ⟨ks, e1, hk⟩ := importsL_is4 ts _ [] _ _ (fun k hk => by cases hk) hp b1
        rw [e1] at hq
        obtain ⟨ks', e2, hk'⟩ := declsL_is4 ts _ ks _ _ hk hq hb
        exact ⟨headX ts, ks', by show Tree.node 1 _ 0 q.1 = _; rw [e2], face.name_size ts _, (name_named ts b3).1, hk', hf⟩
end chk
namespace chk
open Go.Proofs.YtoobkaebahogdaaGreatDoor.syn Go.Proofs.YtoobkaebahogdaaGreatDoor.face

theorem name_nopoint {x : ByteArray} (h : isName x = true) : ∀ c ∈ x.data.toList, c ≠ 46 := by
  intro c hc e
  unfold isName at h
  simp only [Bool.and_eq_true] at h
  have h2 := List.all_eq_true.1 h.1.2 c hc
  rw [e] at h2
  exact absurd h2 (by decide)
end chk
namespace pr
open Go.Proofs.YtoobkaebahogdaaGreatDoor.lexs (Tok scan numE val digB)
open Go.Proofs.YtoobkaebahogdaaGreatDoor.syn Go.Proofs.YtoobkaebahogdaaGreatDoor.face

def NuOk (k m : Int) : Prop := (k = 15 → 0 ≤ m ∧ m ≤ 9223372036854775807) ∧ (k = 19 → 1 ≤ m ∧ m ≤ 9)
mutual
def NuT : Tree → Prop
  | .node k _ m ks => NuOk k m ∧ NuL ks
def NuL : List Tree → Prop
  | [] => True
  | t :: r => NuT t ∧ NuL r
end
theorem fine_num2 {l : List UInt8} (h : numE l = 0) (h0 : l ≠ []) : val l < 9223372036854775808 := by
  have h1 : l.all digB = true := by
    unfold numE at h
    split at h
    · cases h
    · rename_i hh; simpa using hh
  have h2 : (decide (1 < l.length) && l.headD 0 == 48) = false := by
    unfold numE at h
    rw [if_neg (by simp [h1])] at h
    split at h
    · cases h
    · rename_i hh; simpa using hh
  rw [lexs.numE_val l h1 h0 h2] at h
  split at h
  · assumption
  · cases h
theorem sign_range {x : ByteArray} (h : 0 ≤ (sign x).2) : 1 ≤ (sign x).1 ∧ (sign x).1 ≤ 9 := by
  unfold sign at h ⊢
  cases hf : signs.find? (fun y => eqS y.1 x) with
  | none => rw [hf] at h; exact absurd h (by decide)
  | some y =>
    have hm := List.mem_of_find?_eq_some hf
    have : ∀ y ∈ signs, 1 ≤ y.2.1 ∧ y.2.1 ≤ 9 := by decide +kernel
    exact this y hm
theorem NuL.snoc {t : Tree} (ht : NuT t) : ∀ {ks : List Tree}, NuL ks → NuL (ks ++ [t])
  | [], _ => by show NuT t ∧ NuL []; exact ⟨ht, by unfold NuL; trivial⟩
  | a :: r, h => by
    unfold NuL at h
    show NuT a ∧ NuL (r ++ [t])
    exact ⟨h.1, NuL.snoc ht h.2⟩
theorem nuT_leaf {k m : Int} {x : ByteArray} (h : NuOk k m) : NuT (.node k x m []) := by unfold NuT; exact ⟨h, by unfold NuL; trivial⟩
theorem nuT_one {k m : Int} {x : ByteArray} {t : Tree} (h : NuOk k m) (ht : NuT t) : NuT (.node k x m [t]) := by
  unfold NuT NuL NuL; exact ⟨h, ht, trivial⟩
theorem nuT_two {k m : Int} {x : ByteArray} {t u : Tree} (h : NuOk k m) (ht : NuT t) (hu : NuT u) : NuT (.node k x m [t, u]) := by
  unfold NuT NuL NuL NuL; exact ⟨h, ht, hu, trivial⟩
theorem nuT_three {k m : Int} {x : ByteArray} {t u v : Tree} (h : NuOk k m) (ht : NuT t) (hu : NuT u) (hv : NuT v) : NuT (.node k x m [t, u, v]) := by
  unfold NuT NuL NuL NuL NuL; exact ⟨h, ht, hu, hv, trivial⟩
section
variable (ts : List Tok) (hG : ∀ t ∈ ts, lexs.GoodTok t)
include hG
/-- what is read as an expression declares nothing -/
structure NuE (f : Nat) : Prop where
  ex : ∀ s q, exprF ts f s = some q → NuT q.1
  bo : ∀ l s q, boundF ts f l s = some q → NuT q.1
  bl : ∀ l n s q, NuT n → boundL ts f l n s = some q → NuT q.1
  un : ∀ s q, unaryF ts f s = some q → NuT q.1
  ak : ∀ s q, askedF ts f s = some q → NuT q.1
  pl : ∀ x s q, placeF ts f x s = some q → NuT q.1
  ca : ∀ x s q, callF ts f x s = some q → NuT q.1
  cl : ∀ x ks s on q, NuL ks → callL ts f x ks s on = some q → NuT q.1
theorem number_nu (s : St) : NuT (number ts s).1 := by
  unfold number
  cases hh : here ts s with
  | none => exact nuT_leaf ⟨by omega, by omega⟩
  | some t =>
    dsimp only
    have hm : t ∈ ts := by
      unfold here at hh
      split at hh
      · cases hh
      · exact List.mem_of_getElem? hh
    by_cases h2 : (t.kind == 2) = true
    · rw [if_pos h2]
      obtain ⟨h3, h4⟩ := hG t hm (by simpa using h2)
      have h5 := (fine_num2 h3 h4)
      exact nuT_leaf ⟨fun _ => ⟨by omega, by omega⟩, by omega⟩
    · rw [if_neg h2]
      exact nuT_leaf ⟨by omega, by omega⟩
theorem nuE : ∀ f, NuE ts f
  | 0 => by
    constructor
    · intro s q h; unfold exprF at h; cases h
    · intro l s q h; unfold boundF at h; cases h
    · intro l n s q hn h; unfold boundL at h; cases h
    · intro s q h; unfold unaryF at h; cases h
    · intro s q h; unfold askedF at h; cases h
    · intro x s q h; unfold placeF at h; cases h
    · intro x s q h; unfold callF at h; cases h
    · intro x ks s on q hk h; unfold callL at h; cases h
  | f + 1 => by
    have ih := nuE f
    constructor
    · intro s q h
      unfold exprF at h
      split at h
      · cases h; exact nuT_leaf ⟨by omega, by omega⟩
      · exact ih.bo _ _ _ h
    · intro l s q h
      unfold boundF at h
      split at h
      · exact ih.un _ _ h
      · obtain ⟨p, hp, h⟩ := Option.bind_eq_some_iff.1 h
        exact ih.bl _ _ _ _ (ih.bo _ _ _ hp) h
    · intro l n s q hn h
      unfold boundL at h
      split at h
      · cases h; exact hn
      · split at h
        · cases h; exact hn
        · rename_i hs
          have hr := sign_range (x := txt ts s) (by simp at hs; omega)
          obtain ⟨p, hp, h⟩ := Option.bind_eq_some_iff.1 h
          have h2 := ih.bo _ _ _ hp
          split at h
          · cases h; exact nuT_two ⟨by omega, fun _ => hr⟩ hn h2
          · exact ih.bl _ _ _ _ (nuT_two ⟨by omega, fun _ => hr⟩ hn h2) h
    · intro s q h
      unfold unaryF at h
      split at h
      · obtain ⟨p, hp, h⟩ := Option.bind_eq_some_iff.1 h
        cases h; exact nuT_one ⟨by omega, by omega⟩ (ih.un _ _ hp)
      · split at h
        · obtain ⟨p, hp, h⟩ := Option.bind_eq_some_iff.1 h
          cases h; exact nuT_one ⟨by omega, by omega⟩ (ih.un _ _ hp)
        · split at h
          · exact ih.ak _ _ h
          · split at h
            · cases h; exact number_nu ts hG s
            · split at h
              · exact ih.ca _ _ _ h
              · exact ih.pl _ _ _ h
    · intro s q h
      unfold askedF at h
      obtain ⟨p, hp, h⟩ := Option.bind_eq_some_iff.1 h
      cases h
      show NuT p.1
      exact ih.ex _ _ hp
    · intro x s q h
      unfold placeF at h
      split at h
      · obtain ⟨p, hp, h⟩ := Option.bind_eq_some_iff.1 h
        cases h; exact nuT_one ⟨by omega, by omega⟩ (ih.ex _ _ hp)
      · cases h; exact nuT_leaf ⟨by omega, by omega⟩
    · intro x s q h
      unfold callF at h
      split at h
      · cases h; exact nuT_leaf ⟨by omega, by omega⟩
      · exact ih.cl _ _ _ _ _ (by unfold NuL; trivial) h
    · intro x ks s on q hk h
      unfold callL at h
      split at h
      · obtain ⟨p, hp, h⟩ := Option.bind_eq_some_iff.1 h
        exact ih.cl _ _ _ _ _ (NuL.snoc (ih.ex _ _ hp) hk) h
      · cases h
        show NuT (.node 18 x 0 ks)
        unfold NuT
        exact ⟨⟨by omega, by omega⟩, hk⟩
structure NuS (f : Nat) : Prop where
  bl : ∀ s q, blockF ts f s = some q → NuT q.1
  li : ∀ ks s q, NuL ks → blockL ts f ks s = some q → NuT q.1
  st : ∀ s q, statF ts f s = some q → NuT q.1
theorem nuS : ∀ f, NuS ts f
  | 0 => by
    constructor
    · intro s q h; unfold blockF at h; cases h
    · intro ks s q hk h; unfold blockL at h; cases h
    · intro s q h; unfold statF at h; cases h
  | f + 1 => by
    have ih := nuS f
    have ie := nuE ts hG f
    constructor
    · intro s q h
      unfold blockF at h
      exact ih.li _ _ _ (by unfold NuL; trivial) h
    · intro ks s q hk h
      unfold blockL at h
      have hn : NuT (.node 6 empty 0 ks) := by unfold NuT; exact ⟨⟨by omega, by omega⟩, hk⟩
      split at h
      · cases h; exact hn
      · split at h
        · cases h; exact hn
        · obtain ⟨p, hp, h⟩ := Option.bind_eq_some_iff.1 h
          exact ih.li _ _ _ (NuL.snoc (ih.st _ _ hp) hk) h
    · intro s q h
      unfold statF at h
      split at h
      · obtain ⟨x, hx, h⟩ := Option.bind_eq_some_iff.1 h
        obtain ⟨b, hb, h⟩ := Option.bind_eq_some_iff.1 h
        split at h
        · obtain ⟨c, hc, h⟩ := Option.bind_eq_some_iff.1 h
          cases h; exact nuT_three ⟨by omega, by omega⟩ (ie.ak _ _ hx) (ih.bl _ _ hb) (ih.bl _ _ hc)
        · cases h; exact nuT_two ⟨by omega, by omega⟩ (ie.ak _ _ hx) (ih.bl _ _ hb)
      · split at h
        · obtain ⟨x, hx, h⟩ := Option.bind_eq_some_iff.1 h
          obtain ⟨b, hb, h⟩ := Option.bind_eq_some_iff.1 h
          cases h; exact nuT_two ⟨by omega, by omega⟩ (ie.ak _ _ hx) (ih.bl _ _ hb)
        · split at h
          · obtain ⟨x, hx, h⟩ := Option.bind_eq_some_iff.1 h
            cases h; exact nuT_one ⟨by omega, by omega⟩ (ie.ex _ _ hx)
          · split at h
            · obtain ⟨x, hx, h⟩ := Option.bind_eq_some_iff.1 h
              cases h; exact nuT_one ⟨by omega, by omega⟩ (ie.ca _ _ _ hx)
            · split at h
              · obtain ⟨x, hx, h⟩ := Option.bind_eq_some_iff.1 h
                cases h; exact nuT_one ⟨by omega, by omega⟩ (ie.ex _ _ hx)
              · split at h
                · obtain ⟨x, hx, h⟩ := Option.bind_eq_some_iff.1 h
                  cases h; exact nuT_one ⟨by omega, by omega⟩ (ie.pl _ _ _ hx)
                · split at h
                  · obtain ⟨x, hx, h⟩ := Option.bind_eq_some_iff.1 h
                    cases h; exact nuT_one ⟨by omega, by omega⟩ (ie.ex _ _ hx)
                  · obtain ⟨x, hx, h⟩ := Option.bind_eq_some_iff.1 h
                    obtain ⟨y, hy, h⟩ := Option.bind_eq_some_iff.1 h
                    cases h; exact nuT_two ⟨by omega, by omega⟩ (ie.pl _ _ _ hx) (ie.ex _ _ hy)
end

section
variable (ts : List Tok) (hG : ∀ t ∈ ts, lexs.GoodTok t)
include hG
omit hG in
theorem paramsL_nu : ∀ (f : Nat) (ks : List Tree) (s : St) (q : List Tree × St), NuL ks → paramsL ts f ks s = some q → NuL q.1
  | 0, ks, s, q, hk, h => by unfold paramsL at h; cases h
  | f + 1, ks, s, q, hk, h => by
    unfold paramsL at h
    have hn := NuL.snoc (nuT_leaf (x := (name ts (label ts s).2).1) (k := 5) (m := (label ts s).1) ⟨by omega, by omega⟩) hk
    split at h
    · exact paramsL_nu f _ _ _ hn h
    · cases h; exact hn
theorem decl_nu (f : Nat) (s : St) (q : Tree × St) (h : declF ts f s = some q) : NuT q.1 := by
  unfold declF at h
  split at h
  · obtain ⟨a, ha, h⟩ := Option.bind_eq_some_iff.1 h
    obtain ⟨b, hb, h⟩ := Option.bind_eq_some_iff.1 h
    cases h
    have h1 : NuL a.1 := by
      unfold params at ha
      split at ha
      · cases ha; unfold NuL; trivial
      · exact paramsL_nu ts f [] _ _ (by unfold NuL; trivial) ha
    show NuT (.node 4 _ _ _)
    unfold NuT
    exact ⟨⟨by omega, by omega⟩, NuL.snoc ((nuS ts hG f).bl _ _ hb) h1⟩
  · cases h
    show NuT (.node 3 _ _ _)
    unfold NuT
    refine ⟨⟨by omega, by omega⟩, ?_⟩
    unfold varS
    split
    · unfold NuL NuL
      exact ⟨number_nu ts hG _, trivial⟩
    · unfold NuL; trivial
omit hG in
theorem importsL_nu : ∀ (f : Nat) (ks : List Tree) (s : St) (q : List Tree × St), NuL ks → importsL ts f ks s = some q → NuL q.1
  | 0, ks, s, q, hk, h => by unfold importsL at h; cases h
  | f + 1, ks, s, q, hk, h => by
    unfold importsL at h
    split at h
    · exact importsL_nu f _ _ _ (NuL.snoc (nuT_leaf ⟨by omega, by omega⟩) hk) h
    · cases h; exact hk
theorem declsL_nu : ∀ (f : Nat) (ks : List Tree) (s : St) (q : List Tree × St), NuL ks → declsL ts f ks s = some q → NuL q.1
  | 0, ks, s, q, hk, h => by unfold declsL at h; cases h
  | f + 1, ks, s, q, hk, h => by
    unfold declsL at h
    split at h
    · cases h; exact hk
    · obtain ⟨p, hp, h⟩ := Option.bind_eq_some_iff.1 h
      exact declsL_nu f _ _ _ (NuL.snoc (decl_nu ts hG _ _ _ hp) hk) h
theorem module_nu (q : Tree × St) (h : moduleF ts = some q) : NuT q.1 := by
  unfold moduleF at h
  obtain ⟨p, hp, h⟩ := Option.bind_eq_some_iff.1 h
  obtain ⟨r, hr, h⟩ := Option.bind_eq_some_iff.1 h
  cases h
  show NuT (.node 1 _ 0 _)
  unfold NuT
  exact ⟨⟨by omega, by omega⟩, declsL_nu ts hG _ _ _ _ (importsL_nu ts _ _ _ _ (by unfold NuL; trivial) hp) hr⟩
end
theorem parse_nu (x : ByteArray) : NuT (parse x).tree := by
  have h0 : NuT none0 := nuT_leaf ⟨by omega, by omega⟩
  unfold parse
  cases hs : scan x.data.toList with
  | err c p => exact h0
  | ok ts =>
    dsimp only
    cases hm : moduleF ts with
    | none => exact h0
    | some q =>
      dsimp only
      unfold judge
      split
      · exact h0
      · split
        · exact module_nu ts (fun t ht => lexs.scan_num hs t ht) q hm
        · exact h0
end pr
end Go.Proofs.YtoobkaebahogdaaGreatDoor
