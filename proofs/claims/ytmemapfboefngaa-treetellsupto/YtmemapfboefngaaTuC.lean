/-
  A tree of the call's own handed on as a tree that comes in.
-/
import Derived.Test.YtmemapfboefngaaTtU
namespace Go.Proofs.Ytmemapfboefngaa
open Go.ChangeShapes Go.WideShapes Go.ChangeAt Go.RowKit
set_option linter.unusedVariables false
set_option linter.unusedSimpArgs false
set_option maxRecDepth 100000
theorem Ow.isT {B : Nat} {w : World} {p q : Value} {L : List (List TK.Pr)} {U : List (List Nat)} (h : Ow B w p q L U) : IsT w p q L (U.map nI) := by
  obtain ⟨zs, ys, h1, h2, rfl, h4⟩ := h
  exact ⟨h1.lists, by rw [← h4]; exact h2.lists⟩
end Go.Proofs.Ytmemapfboefngaa
