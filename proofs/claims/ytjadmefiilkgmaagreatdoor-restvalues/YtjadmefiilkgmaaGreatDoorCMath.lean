/-
  The order of values and rows, as plain functions.
-/
import Derived.Test.YtjadmefiilkgmaaGreatDoorVMath
import Derived.Lib.Bytealg
namespace Go.Proofs.YtjadmefiilkgmaaGreatDoor
namespace CM
open VM

def ci (x y : Int) : Int := if x < y then -1 else if y < x then 1 else 0
def or3 (x y z : Int) : Int := if x ≠ 0 then x else if y ≠ 0 then y else z
def ord (a b : Vl) : Int := or3 (ci a.k b.k) (ci a.n b.n) (Lib.compareBytes a.s.data.toList b.s.data.toList)
def cmp (a b : Vl) : Int := if chkAll [a, b] = 0 then ord a b else 0
def rows : List Vl → List Vl → Int
  | [], [] => 0
  | [], _ :: _ => -1
  | _ :: _, [] => 1
  | a :: s, b :: t => if cmp a b ≠ 0 then cmp a b else rows s t
end CM
end Go.Proofs.YtjadmefiilkgmaaGreatDoor
