/-
  A slice of values as a plain list.
-/
import Derived.Test.YtjadmefiilkgmaaGreatDoorVal
namespace Go.Proofs.YtjadmefiilkgmaaGreatDoor
open Go.ChangeShapes Go.WideShapes Go.ChangeAt Go.RowKit
set_option linter.unusedVariables false

/-- the cells behind an address hold these values, three cells each -/
def CellsAt (w : World) (b o : Nat) (l : List VM.Vl) : Prop :=
  ∀ i (h : i < l.length), w.cell? ⟨b, o + i * 3, none⟩ = some (.int .i64 l[i].k) ∧ w.cell? ⟨b, o + i * 3 + 1, none⟩ = some (.int .i64 l[i].n) ∧ w.cell? ⟨b, o + i * 3 + 2, none⟩ = some (.string l[i].s)

/-- a value of type slice of values stands for this list -/
def IsRow (w : World) (v : Value) (l : List VM.Vl) : Prop :=
  ∃ (a : Option Addr) (cap : Nat), v = .slice a l.length cap ∧ (l = [] ∨ ∃ b o, a = some ⟨b, o, none⟩ ∧ b < w.heap.size ∧ CellsAt w b o l)

theorem CellsAt.fr {w w' : World} {b o : Nat} {l : List VM.Vl} (h : CellsAt w b o l) (hb : b < w.heap.size) (f : Fr w w') : CellsAt w' b o l := by
  intro i hi
  obtain ⟨h0, h1, h2⟩ := h i hi
  exact ⟨(Below.cell f hb).trans h0, (Below.cell f hb).trans h1, (Below.cell f hb).trans h2⟩

theorem IsRow.fr {w w' : World} {v : Value} {l : List VM.Vl} (h : IsRow w v l) (f : Fr w w') : IsRow w' v l := by
  obtain ⟨a, cap, rfl, h0 | ⟨b, o, rfl, hb, hc⟩⟩ := h
  · exact ⟨a, cap, rfl, Or.inl h0⟩
  · exact ⟨_, cap, rfl, Or.inr ⟨b, o, rfl, Nat.lt_of_lt_of_le hb f.size, hc.fr hb f⟩⟩

end Go.Proofs.YtjadmefiilkgmaaGreatDoor
