/- A map of one's own that is a set of names: how many are known. -/
import Derived.Test.YtmkknnofeebknaaDoorProg
import Derived.WalkKit
import Derived.WalkLawsBesides
import Derived.Maps.OwnSet
import Derived.Test.YtmkknnofeebknaaDoorLSFaceSpec
namespace Go.Proofs.YtmkknnofeebknaaDoor.face
open Go.RowKit Go.Maps Go.WideMaps
open Go.Proofs.YtmkknnofeebknaaDoor.syn (isName eqS)
set_option linter.unusedVariables false
set_option linter.unusedSimpArgs false
set_option maxRecDepth 100000

/-! how many names are known: plain facts -/
def keyL (x : ByteArray) : Lit := .string x.data.toList
def keysL (l : List ByteArray) : List Lit := l.map keyL
theorem eqS_key (x y : ByteArray) : (keyL x).sameKey (keyL y) = eqS x y := by
  show (x.data.toList == y.data.toList) = eqS x y
  unfold eqS
  rw [ByteArray.toList_eq, ByteArray.toList_eq]
theorem among_key (l : List ByteArray) (x : ByteArray) : ((keysL l).any fun y => y.sameKey (keyL x)) = among l x := by
  unfold keysL among
  rw [List.any_map]
  congr 1
  funext y
  exact eqS_key y x
theorem fold_le : ∀ (l acc : List Lit), (l.foldl addKey acc).length ≤ acc.length + l.length
  | [], acc => by simp
  | x :: r, acc => by
    rw [List.foldl_cons]
    have h1 := fold_le r (addKey acc x)
    have h2 : (addKey acc x).length ≤ acc.length + 1 := by unfold addKey; split <;> simp
    simp only [List.length_cons]
    omega
theorem fold_apart : ∀ (l seen : List ByteArray), (((keysL l).foldl addKey (keysL seen)).length == seen.length + l.length) = apartB seen l
  | [], seen => by simp [keysL, apartB]
  | x :: r, seen => by
    show (((keyL x :: keysL r).foldl addKey (keysL seen)).length == seen.length + (r.length + 1)) = (!among seen x && apartB (seen ++ [x]) r)
    rw [List.foldl_cons]
    unfold addKey
    rw [among_key]
    cases h : among seen x
    · simp only [Bool.false_eq_true, if_false, Bool.not_false, Bool.true_and]
      have e : keysL seen ++ [keyL x] = keysL (seen ++ [x]) := by simp [keysL]
      have := fold_apart r (seen ++ [x])
      rw [e, ← this]
      simp only [List.length_append, List.length_cons, List.length_nil]
      congr 1
      omega
    · simp only [if_true, Bool.not_true, Bool.false_and]
      have := fold_le (keysL r) (keysL seen)
      have e1 : (keysL seen).length = seen.length := by simp [keysL]
      have e2 : (keysL r).length = r.length := by simp [keysL]
      rw [beq_eq_false_iff_ne]
      show (List.foldl addKey (keysL seen) (keysL r)).length ≠ _
      omega
def setD (l : List ByteArray) : DataW Unit := setOf (.agg []) (keysL l)
theorem setD_size (l : List ByteArray) : (Maps.size (setD l) == l.length) = apartB [] l := by
  unfold setD
  rw [size_setOf _ _ (fun x hx => by obtain ⟨y, _, rfl⟩ := List.mem_map.1 hx; trivial)]
  have := fold_apart l []
  simpa [keysL] using this
theorem setD_snoc (l : List ByteArray) (x : ByteArray) : setD (l ++ [x]) = (setD l).put (keyL x) (.agg []) := by
  unfold setD keysL
  rw [List.map_append, List.map_singleton, setOf_snoc]

/-! the map while it is filled -/
theorem lawS : Keyed Tryd.prog 9 := string_keyed Tryd.underlying9
theorem isName_size {x : ByteArray} (h : isName x = true) : x.size ≤ maxLen := by
  unfold isName at h
  simp only [Bool.and_eq_true, decide_eq_true_eq] at h
  have := h.1.1.1.2
  unfold maxLen
  omega
theorem key_name {x : ByteArray} (h : isName x = true) : keyOf Tryd.prog 9 (.string x) = some (keyL x) := keyOf_string_mk Tryd.underlying9 (isName_size h)
theorem grown_of_below {w w' : World} (hb : Below w.heap.size w w') : w.grownBy w' none := ⟨hb.os, hb.tape, hb.output, hb.size, fun j hj _ => hb.block j hj⟩
theorem grown_cell {w w' : World} {row : Option Nat} (hg : w.grownBy w' row) {a : Addr} {v : Value} (h : w.cell? a = some v) (hne : some a.block ≠ row) : w'.cell? a = some v := by
  have := hg.block a.block (World.block_lt_of_cell? w a h) hne
  unfold World.cell? at h ⊢
  rw [this]
  exact h
end Go.Proofs.YtmkknnofeebknaaDoor.face
