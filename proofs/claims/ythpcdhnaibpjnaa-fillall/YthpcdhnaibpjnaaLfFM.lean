/-
  Entries in lists, each as long as can be: plain functions on lists.
-/
import Derived.Test.YthpcdhnaibpjnaaLfMath
namespace Go.Proofs.Ythpcdhnaibpjnaa
namespace LF
open VM
def addLast (acc : List (List En)) (e : En) : List (List En) := acc.dropLast ++ [acc.getLastD [] ++ [e]]
/-- as the program goes: how much room is left, the lists so far, and the entries to come -/
def fl : Nat → List (List En) → List En → List (List En)
  | _, acc, [] => acc
  | room, acc, e :: l => if room < (eb e).length then fl (244 - (eb e).length) (acc ++ [[e]]) l else fl (room - (eb e).length) (addLast acc e) l
def fill (l : List En) : List (List En) := fl 0 [] l
theorem fl_cons (room : Nat) (acc : List (List En)) (e : En) (l : List En) : fl room acc (e :: l) = if room < (eb e).length then fl (244 - (eb e).length) (acc ++ [[e]]) l else fl (room - (eb e).length) (addLast acc e) l := rfl
theorem addLast_snoc (is : List (List En)) (last : List En) (e : En) : addLast (is ++ [last]) e = is ++ [last ++ [e]] := by
  simp [addLast]
end LF
end Go.Proofs.Ythpcdhnaibpjnaa
