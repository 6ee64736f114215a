/-
  A pattern in two parts, tried at each cut of a text.
-/
import Derived.Test.YtgjgmaadogkjfaaDoorLkCat
namespace Go.Proofs.YtgjgmaadogkjfaaDoor
namespace LK
def fnd (P Q : List Part) (T : List Bs) (n : Nat) : Bool := (List.range n).any fun j => mt P (T.take j) && mt Q (T.drop j)
theorem fnd_zero (P Q : List Part) (T : List Bs) : fnd P Q T 0 = false := rfl
theorem fnd_succ (P Q : List Part) (T : List Bs) (n : Nat) : fnd P Q T (n + 1) = (fnd P Q T n || (mt P (T.take n) && mt Q (T.drop n))) := by
  unfold fnd
  rw [List.range_succ, List.any_append]
  simp
theorem fnd_all (P Q : List Part) (T : List Bs) : fnd P Q T (T.length + 1) = mt (P ++ Q) T := by
  have h : fnd P Q T (T.length + 1) = true ↔ mt (P ++ Q) T = true := by
    rw [mt_append]
    unfold fnd
    rw [List.any_eq_true]
    constructor
    · rintro ⟨j, hj, h⟩
      rw [List.mem_range] at hj
      rw [Bool.and_eq_true] at h
      exact ⟨j, by omega, h.1, h.2⟩
    · rintro ⟨j, hj, h1, h2⟩
      exact ⟨j, List.mem_range.2 (by omega), by rw [h1, h2]; rfl⟩
  cases h1 : mt (P ++ Q) T with
  | true => exact h.2 h1
  | false =>
    cases h2 : fnd P Q T (T.length + 1) with
    | false => rfl
    | true => rw [h.1 h2] at h1; cases h1
/-- where the i-th cut is -/
def cut (T : List Bs) (i : Nat) : Nat := ((T.take i).flatten).length
theorem cut_step {T : List Bs} {i : Nat} {x : Bs} (h : T[i]? = some x) : cut T (i + 1) = cut T i + x.length := by
  unfold cut
  rw [List.take_add_one, h]
  simp
theorem cut_end (T : List Bs) (i : Nat) (h : T.length ≤ i) : cut T (i + 1) = cut T i := by
  unfold cut
  rw [List.take_of_length_le h, List.take_of_length_le (by omega)]
theorem cut_le (l : Bs) (i : Nat) : cut (pc l) i ≤ l.length := by
  have e : l = ((pc l).take i).flatten ++ ((pc l).drop i).flatten := by rw [← List.flatten_append, List.take_append_drop, pc_flat]
  have := congrArg List.length e
  rw [List.length_append] at this
  unfold cut
  omega
theorem cut_take (l : Bs) (i : Nat) : l.take (cut (pc l) i) = ((pc l).take i).flatten ∧ l.drop (cut (pc l) i) = ((pc l).drop i).flatten := by
  have e : l = ((pc l).take i).flatten ++ ((pc l).drop i).flatten := by rw [← List.flatten_append, List.take_append_drop, pc_flat]
  unfold cut
  obtain ⟨A, hA⟩ : ∃ A, ((pc l).take i).flatten = A := ⟨_, rfl⟩
  obtain ⟨B, hB⟩ : ∃ B, ((pc l).drop i).flatten = B := ⟨_, rfl⟩
  rw [hA, hB] at e ⊢
  rw [e]
  simp
end LK
end Go.Proofs.YtgjgmaadogkjfaaDoor
