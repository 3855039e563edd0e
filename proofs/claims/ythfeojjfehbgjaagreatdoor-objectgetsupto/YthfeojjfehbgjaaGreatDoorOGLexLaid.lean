/- What the rows' list of package-level variables gives the lexer's walks: the library's variable ErrRange holds an interface's value. And a world in which the list is met. -/
import Derived.Test.YthfeojjfehbgjaaGreatDoorCards
import Derived.Test.YthfeojjfehbgjaaGreatDoorTie
import Derived.Stop.LaidErr
import Derived.Lay
import Derived.MakeChecks
import Derived.Test.YthfeojjfehbgjaaGreatDoorOGLexOwn
namespace Go.Proofs.YthfeojjfehbgjaaGreatDoor.lexs
open Go.RowKit

theorem gER : Tryz.prog.globalNamed "strconv.ErrRange" = some (Tryz.laysPI_ren.g 16) := by kernel_rfl
theorem gERType : (Tryz.prog.globals[Tryz.laysPI_ren.g 16]?).map (·.type) = some 160 := by kernel_rfl
theorem cellsEs : Tryz.prog.cellsOf 178 = 1 := by kernel_rfl
theorem cellsStr : Tryz.prog.cellsOf 9 = 1 := by kernel_rfl
theorem starEs : "*" ++ "errors.errorString" = "*errors.errorString" := by decide
theorem rowEs (u : TypeId) (h : Tryz.prog.typeName? 3 u = some "*errors.errorString") : u = 176 :=
  typeName_ptr_named (nm := "errors.errorString") (by rw [starEs]; kernel_rfl) (by kernel_rfl) (by decide) u (by rw [starEs]; exact h)
/-- the variables that the rows list -/
abbrev laidL : List (String × DataW Unit) := [("math/bits.deBruijn32tab", Rows.laid_math_bits_deBruijn32tab), ("math/bits.deBruijn64tab", Rows.laid_math_bits_deBruijn64tab), ("internal/strconv.uint64pow10", Rows.laid_internal_strconv_uint64pow10), ("strconv.ErrRange", Rows.laid_strconv_ErrRange), ("strconv.ErrSyntax", Rows.laid_strconv_ErrSyntax)]
theorem hasErr_of_laid {W : World} (h : laidMetH Tryz.prog laidL W) : HasErr W := by
  have h0 : laidMet Tryz.prog laidL W := by rw [← MakeChecks.laidMetH_plain _ _ _ (by kernel_rfl)]; exact h
  have h1 := (h0.tail).tail.tail
  obtain ⟨a0, s0, hv0, _⟩ := laid_sentinel h1 gER gERType Tryz.underlying160 rowEs Tryz.underlying176 Tryz.underlying178 rfl rfl Tryz.underlying9 cellsEs cellsStr
  exact ⟨_, by have h2 := World.var?_cell gER hv0 0; simpa using h2, .inr ⟨_, _, rfl⟩⟩
theorem laid_met (os : Os) : laidMetH Tryz.prog laidL ((World.laidAll Tryz.prog os laidL).forCall (fun _ _ => 0) ⟨#[], #[.string ByteArray.empty], []⟩).memory := by
  rw [MakeChecks.laidMetH_plain _ _ _ (by kernel_rfl)]
  exact laidMet_laidAll _ (by kernel_rfl) (by kernel_rfl)
end Go.Proofs.YthfeojjfehbgjaaGreatDoor.lexs
