/-
  The variables of the library that the statements list: the table of powers of ten, the error ErrRange.
-/
import Derived.Test.YtjadmefiilkgmaaGreatDoorBeg2
import Derived.Test.YtjadmefiilkgmaaGreatDoorTie
import Derived.Test.YtjadmefiilkgmaaGreatDoorCards
import Derived.ChangeMaps5
import Derived.PinnedBridge
import Derived.Lay
import Derived.Stop.LaidErr
import Derived.Lib.LaidTab
import Derived.SevenTiedAt
import Derived.Stop.Joined
namespace Go.Proofs.YtjadmefiilkgmaaGreatDoor
open Go.ChangeShapes Go.WideShapes Go.ChangeAt Go.RowKit Go.Shelf
set_option linter.unusedVariables false
set_option maxRecDepth 100000

theorem pow_eq : (Rows.laid_internal_strconv_uint64pow10 : DataW Unit) = Lib.tabData .u64 Lib.pow10Tab := by kernel_rfl
theorem star : "*" ++ "errors.errorString" = "*errors.errorString" := by decide
theorem row146 (u : TypeId) (h : Tryz.prog.typeName? 3 u = some "*errors.errorString") : u = 146 :=
  typeName_ptr_named (nm := "errors.errorString") (by rw [star]; kernel_rfl) (by kernel_rfl) (by decide) u (by rw [star]; exact h)
theorem tabs_of_laid {W : World} (h : laidMetH Tryz.prog [("math/bits.deBruijn32tab", Rows.laid_math_bits_deBruijn32tab), ("math/bits.deBruijn64tab", Rows.laid_math_bits_deBruijn64tab), ("internal/strconv.uint64pow10", Rows.laid_internal_strconv_uint64pow10), ("strconv.ErrRange", Rows.laid_strconv_ErrRange), ("strconv.ErrSyntax", Rows.laid_strconv_ErrSyntax)] W) : Tb W := by
  rw [MakeChecks.laidMetH_plain _ _ _ (by kernel_rfl)] at h
  have h3 := h.tail.tail
  rw [pow_eq] at h3
  refine ⟨Lib.tabIs_of_head (g := 1) (t := 120) (e := 93) (n := Lib.pow10Tab.length) (by kernel_rfl) (by kernel_rfl) (by kernel_rfl) Tryz.underlying93 (by kernel_rfl) (by kernel_rfl) h3, ?_⟩
  obtain ⟨a, s, hv, _, _, _⟩ := laid_sentinel (g := 3) (ti := 81) (tp := 146) (te := 148) (ts := 9) h3.tail (by kernel_rfl) (by kernel_rfl) Tryz.underlying81 row146 Tryz.underlying146 Tryz.underlying148 rfl rfl Tryz.underlying9 (by kernel_rfl) (by kernel_rfl)
  exact ⟨_, (World.var?_cell (show Tryz.prog.globalNamed "strconv.ErrRange" = some 3 by kernel_rfl) hv 0).trans rfl, Or.inr ⟨_, _, rfl⟩⟩
end Go.Proofs.YtjadmefiilkgmaaGreatDoor
