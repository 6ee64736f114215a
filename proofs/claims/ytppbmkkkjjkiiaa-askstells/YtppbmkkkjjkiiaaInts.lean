/-
  A slice of numbers as a plain list.
-/
import Derived.Test.YtppbmkkkjjkiiaaBase
namespace Go.Proofs.Ytppbmkkkjjkiiaa
open Go.ChangeShapes Go.WideShapes Go.ChangeAt Go.RowKit
set_option linter.unusedVariables false
set_option maxRecDepth 100000

/-- the cells behind an address hold these numbers -/
def IntsAt (w : World) (b o : Nat) (l : List Int) : Prop := ∀ i (h : i < l.length), w.cell? ⟨b, o + i, none⟩ = some (.int .i64 l[i])
/-- a value of type slice of numbers stands for this list -/
def IsInts (w : World) (v : Value) (l : List Int) : Prop :=
  ∃ (a : Option Addr) (cap : Nat), v = .slice a l.length cap ∧ l.length ≤ cap ∧ (l = [] ∨ ∃ b o, a = some ⟨b, o, none⟩ ∧ b < w.heap.size ∧ IntsAt w b o l)

theorem IntsAt.fr {w w' : World} {b o : Nat} {l : List Int} (h : IntsAt w b o l) (hb : b < w.heap.size) (f : Fr w w') : IntsAt w' b o l :=
  fun i hi => (Below.cell f hb).trans (h i hi)
theorem IsInts.fr {w w' : World} {v : Value} {l : List Int} (h : IsInts w v l) (f : Fr w w') : IsInts w' v l := by
  obtain ⟨a, cap, rfl, hc, h0 | ⟨b, o, rfl, hb, hcl⟩⟩ := h
  · exact ⟨a, cap, rfl, hc, Or.inl h0⟩
  · exact ⟨_, cap, rfl, hc, Or.inr ⟨b, o, rfl, Nat.lt_of_lt_of_le hb f.size, hcl.fr hb f⟩⟩

end Go.Proofs.Ytppbmkkkjjkiiaa
