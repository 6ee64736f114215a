/-
  Tables' forms, as plain data: what may be wrong with them.
-/
import Derived.Test.YtefojbfihnnpdaaDoorCtW
set_option linter.unusedVariables false
namespace Go.Proofs.YtefojbfihnnpdaaDoor
namespace CT
structure Cl where
  n : ByteArray
  k : Int
  nn : Bool
  u : Bool
structure Sc where
  id : Int
  n : ByteArray
  c : List Cl
abbrev Bs := List UInt8
def bs (s : ByteArray) : Bs := s.data.toList
def nm (s : ByteArray) : Bool := LX.nm (bs s)
def chkC : List Bs → List Cl → Nat
  | _, [] => 0
  | seen, c :: l => if nm c.n = false then 1 else if c.k < 0 ∨ 3 < c.k then 7 else if bs c.n ∈ seen then 6 else chkC (seen ++ [bs c.n]) l
def chkT (n : ByteArray) (c : List Cl) : Nat := if nm n = false ∨ c = [] then 1 else if 6 < c.length then 2 else chkC [] c
def chkS : Int → List Bs → List Sc → Nat
  | _, _, [] => 0
  | last, seen, s :: l => if s.id < 1 ∨ 999 < s.id then 3 else if s.id ≤ last then 4 else if chkT s.n s.c ≠ 0 then chkT s.n s.c else if bs s.n ∈ seen then 6 else chkS s.id (seen ++ [bs s.n]) l
def chk (l : List Sc) : Nat := if 6 < l.length then 2 else chkS 0 [] l
end CT
end Go.Proofs.YtefojbfihnnpdaaDoor
