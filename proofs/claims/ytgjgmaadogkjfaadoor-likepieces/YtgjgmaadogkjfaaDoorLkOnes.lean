/-
  Patterns of signs for one piece each.
-/
import Derived.Test.YtgjgmaadogkjfaaDoorLkEsc
namespace Go.Proofs.YtgjgmaadogkjfaaDoor
namespace LK

theorem pc_ones : ∀ n : Nat, pc (List.replicate n 95) = List.replicate n [95]
  | 0 => rfl
  | n + 1 => by rw [List.replicate_succ, pc_low 95 _ (by decide), pc_ones n, List.replicate_succ]
theorem prs_ones : ∀ n : Nat, prs false (List.replicate n [95]) = (false, List.replicate n ((95 : Int), [95]))
  | 0 => rfl
  | n + 1 => by
    rw [List.replicate_succ, List.replicate_succ]
    unfold prs
    rw [if_neg (by decide), prs_ones n]
    rfl
theorem mt_ones : ∀ (n : Nat) (t : List Bs), mt (List.replicate n ((95 : Int), [95])) t = decide (n = t.length)
  | 0, [] => rfl
  | 0, _ :: _ => rfl
  | n + 1, [] => by rw [List.replicate_succ, mt_one_nil (by show (95 : Int) ≠ 37; decide)]; rfl
  | n + 1, x :: t => by
    rw [List.replicate_succ, mt_one (by show (95 : Int) ≠ 37; decide), mt_ones n t]
    simp [one]
end LK
end Go.Proofs.YtgjgmaadogkjfaaDoor
