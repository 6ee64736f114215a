/-
  Digits: a step of their value.
-/
import Derived.Test.YtoagobpkenfbkaaGreatDoorVsNum
namespace Go.Proofs.YtoagobpkenfbkaaGreatDoor
namespace VS
theorem vl_cons (acc : Nat) (c : UInt8) (r : Bs) : vl acc (c :: r) = vl (acc * 10 + (c.toNat - 48)) r := by
  generalize h : acc * 10 + (c.toNat - 48) = q
  show vl (acc * 10 + (c.toNat - 48)) r = vl q r
  rw [h]
end VS
end Go.Proofs.YtoagobpkenfbkaaGreatDoor
