/-
  Values and rows as plain lists: what the document says of them.
-/
namespace Go.Proofs.YtefojbfihnnpdaaDoor
namespace VM
structure Vl where
  k : Int
  n : Int
  s : ByteArray

/-- the error of a value -/
def chk (x : Vl) : Nat :=
  if x.k < 0 ∨ 3 < x.k then 7
  else if (x.n ≠ 0 ∧ x.k ≠ 1) ∨ (x.s.size ≠ 0 ∧ ¬ (x.k = 2 ∨ x.k = 3)) then 1
  else if 16 < x.s.size then 2 else 0

/-- the first error among values -/
def chkAll : List Vl → Nat
  | [] => 0
  | x :: l => if chk x = 0 then chkAll l else chk x
def chkRow (l : List Vl) : Nat := if 8 < l.length then 2 else chkAll l
end VM
end Go.Proofs.YtefojbfihnnpdaaDoor
