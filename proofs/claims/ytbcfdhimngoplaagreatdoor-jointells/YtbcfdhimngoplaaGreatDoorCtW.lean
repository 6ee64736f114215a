/-
  Words and names, as plain functions of lists of bytes.
-/
import Derived.Test.YtbcfdhimngoplaaGreatDoorGpA
set_option linter.unusedVariables false
namespace Go.Proofs.YtbcfdhimngoplaaGreatDoor
namespace VS
abbrev Bs := List UInt8
def dig (b : UInt8) : Bool := decide (48 ≤ b.toNat) && decide (b.toNat ≤ 57)
end VS
namespace LX
open VS (Bs dig)
def small (b : UInt8) : Bool := (decide (97 ≤ b.toNat) && decide (b.toNat ≤ 122)) || decide (b.toNat = 95)
def great (b : UInt8) : Bool := decide (65 ≤ b.toNat) && decide (b.toNat ≤ 90)
def low (b : UInt8) : UInt8 := if great b = true then b + 32 else b
def run (p : UInt8 → Bool) : Bs → Nat
 | [] => 0
 | b :: r => if p b = true then run p r + 1 else 0
def chkWord (s : Bs) : Nat := match s with
 | [] => 1
 | b :: r => if small b = true ∧ (b :: r).all (fun c => small c || dig c) = true then (if 12 < (b :: r).length then 2 else 0) else 1
theorem dig_iff {b : UInt8} : dig b = true ↔ 48 ≤ b.toNat ∧ b.toNat ≤ 57 := by
 unfold VS.dig
 rw [Bool.and_eq_true, decide_eq_true_eq, decide_eq_true_eq]
theorem small_iff {b : UInt8} : small b = true ↔ (97 ≤ b.toNat ∧ b.toNat ≤ 122) ∨ b.toNat = 95 := by
 unfold small
 rw [Bool.or_eq_true, Bool.and_eq_true, decide_eq_true_eq, decide_eq_true_eq, decide_eq_true_eq]
theorem not_true {b : Bool} (h : ¬ b = true) : b = false := by cases b; rfl; exact absurd rfl h
theorem run_zero (p : UInt8 → Bool) (b : UInt8) (r : Bs) (h : p b = false) : run p (b :: r) = 0 := by
 show (if p b = true then run p r + 1 else 0) = 0
 rw [if_neg (by rw [h]; decide)]
theorem run_step (p : UInt8 → Bool) (b : UInt8) (r : Bs) (h : p b = true) : run p (b :: r) = run p r + 1 := if_pos h
theorem run_le (p : UInt8 → Bool) : ∀ l : Bs, run p l ≤ l.length
 | [] => Nat.le_refl _
 | b :: r => by
  have := run_le p r
  show (if p b = true then run p r + 1 else 0) ≤ r.length + 1
  split <;> omega
def rsv : List Bs := [[97, 110, 100], [97, 110, 121], [97, 115], [97, 115, 99], [98, 101, 103, 105, 110], [98, 101, 116, 119, 101, 101, 110], [98, 108, 111, 98], [98, 121], [99, 111, 109, 109, 105, 116], [99, 111, 117, 110, 116], [99, 114, 101, 97, 116, 101], [100, 101, 108, 101, 116, 101], [100, 101, 115, 99], [100, 105, 115, 116, 105, 110, 99, 116], [100, 114, 111, 112], [102, 114, 111, 109], [103, 114, 111, 117, 112], [105, 110], [105, 110, 115, 101, 114, 116], [105, 110, 116, 101, 103, 101, 114], [105, 110, 116, 111], [105, 115], [108, 105, 107, 101], [108, 105, 109, 105, 116], [109, 97, 120], [109, 105, 110], [110, 111, 116], [110, 117, 108, 108], [111, 102, 102, 115, 101, 116], [111, 114], [111, 114, 100, 101, 114], [114, 111, 108, 108, 98, 97, 99, 107], [115, 101, 108, 101, 99, 116], [115, 101, 116], [115, 117, 109], [116, 97, 98, 108, 101], [116, 101, 120, 116], [117, 110, 105, 113, 117, 101], [117, 112, 100, 97, 116, 101], [118, 97, 108, 117, 101, 115], [119, 104, 101, 114, 101]]
def nm (s : Bs) : Bool := decide (chkWord s = 0) && !decide (s ∈ rsv)
end LX
end Go.Proofs.YtbcfdhimngoplaaGreatDoor
