/-
  The order of two values, turned round.
-/
import Derived.Test.YtppbmkkkjjkiiaaAsksIn
namespace Go.Proofs.Ytppbmkkkjjkiiaa
namespace LG
open VM

theorem cb_anti : ∀ l m : List UInt8, Lib.compareBytes m l = - Lib.compareBytes l m
  | [], [] => by simp [Lib.compareBytes]
  | [], _ :: _ => by simp [Lib.compareBytes]
  | _ :: _, [] => by simp [Lib.compareBytes]
  | a :: l, b :: m => by
    have ih := cb_anti l m
    unfold Lib.compareBytes
    by_cases h1 : a < b
    · have h2 : ¬ b < a := by rw [UInt8.lt_iff_toNat_lt] at *; omega
      rw [if_neg h2, if_pos h1, if_pos h1]; rfl
    · by_cases h2 : b < a
      · rw [if_pos h2, if_neg h1, if_pos h2]
      · rw [if_neg h2, if_neg h1, if_neg h1, if_neg h2]
        exact ih
theorem ci_anti (x y : Int) : CM.ci y x = - CM.ci x y := by
  unfold CM.ci
  repeat' split
  all_goals omega
theorem ord_anti (a b : Vl) : CM.ord b a = - CM.ord a b := by
  unfold CM.ord
  rw [ci_anti a.k b.k, ci_anti a.n b.n, cb_anti a.s.data.toList b.s.data.toList]
  unfold CM.or3
  repeat' split
  all_goals omega
theorem chk_two (a b : Vl) : chkAll [a, b] = 0 ↔ chk a = 0 ∧ chk b = 0 := by
  unfold chkAll chkAll chkAll
  by_cases h1 : chk a = 0
  · by_cases h2 : chk b = 0 <;> simp [h1, h2]
  · simp [h1]
theorem cmp_ok {a b : Vl} (h : chkAll [a, b] = 0) : CM.cmp a b = CM.ord a b := if_pos h
end LG
end Go.Proofs.Ytppbmkkkjjkiiaa
