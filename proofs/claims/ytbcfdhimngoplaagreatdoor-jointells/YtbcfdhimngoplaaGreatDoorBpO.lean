/-
  What a call answers that answers rows or an error.
-/
import Derived.Test.YtbcfdhimngoplaaGreatDoorGqK
namespace Go.Proofs.YtbcfdhimngoplaaGreatDoor
open Go.ChangeShapes Go.WideShapes Go.ChangeAt Go.RowKit
set_option linter.unusedVariables false
set_option linter.unusedSimpArgs false
def outR (x : Except Nat (List (List VM.Vl))) : List (List VM.Vl) := match x with
 | .error _ => []
 | .ok l => l
def erR (x : Except Nat (List (List VM.Vl))) : Nat := match x with
 | .error c => c
 | .ok _ => 0
theorem ra_out {B : Nat} {x : Except Nat (List (List VM.Vl))} {e : Ending} {w' : World} (h : RA B x e w') : ∃ a c, e = .returned (.tuple #[.slice a (outR x).length c, .int .i64 ((erR x : Nat) : Int)]) ∧ ORR B w' (.slice a (outR x).length c) (outR x) := by
 cases x with
 | error c => exact ⟨none, 0, h, ORR.nil _ _⟩
 | ok l =>
  obtain ⟨u, h1, h2⟩ := h
  obtain ⟨a, c, rfl⟩ := h2.slice
  exact ⟨a, c, h1, h2⟩
end Go.Proofs.YtbcfdhimngoplaaGreatDoor
