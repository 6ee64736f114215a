/-
  What a pattern stands for, part by part: the document's table of how many pieces may be left.
-/
import Derived.Test.YtgjgmaadogkjfaaDoorLkBytes
namespace Go.Proofs.YtgjgmaadogkjfaaDoor
namespace LK

/-- may parts stand for the first k pieces? -/
def row (D : List Part) (T : List Bs) (k : Nat) : Bool := mt D (T.take k)
theorem row_nil (T : List Bs) (k : Nat) (h : k ≤ T.length) : row [] T k = (k == 0) := by
  unfold row
  cases k with
  | zero => rfl
  | succ k =>
    cases T with
    | nil => simp at h
    | cons x T => rfl
theorem row_end (D : List Part) (T : List Bs) : row D T T.length = mt D T := by unfold row; rw [List.take_length]
theorem mt_only {q : Part} (h : q.1 ≠ 37) (r : List Bs) : mt [q] r = true ↔ ∃ x, r = [x] ∧ one q x = true := by
  cases r with
  | nil => rw [mt_one_nil h]; simp
  | cons x r =>
    rw [mt_one h, Bool.and_eq_true]
    constructor
    · rintro ⟨h1, h2⟩
      cases r with
      | nil => exact ⟨x, rfl, h1⟩
      | cons y r => cases h2
    · rintro ⟨y, hy, h1⟩
      cases hy
      exact ⟨h1, rfl⟩
theorem bool_ext {a b : Bool} (h : a = true ↔ b = true) : a = b := by
  cases a <;> cases b <;> simp_all
theorem row_one (D : List Part) {q : Part} (h : q.1 ≠ 37) (T : List Bs) (k : Nat) (x : Bs) (hx : T[k]? = some x) : row (D ++ [q]) T (k + 1) = (row D T k && one q x) := by
  have hk := lt_of_at hx
  have et : T.take (k + 1) = T.take k ++ [x] := by rw [List.take_add_one, hx]; rfl
  have hl : (T.take k).length = k := by rw [List.length_take]; omega
  refine bool_ext ?_
  unfold row
  rw [mt_append, Bool.and_eq_true, et]
  constructor
  · rintro ⟨i, hi, h1, h2⟩
    obtain ⟨y, hy, h3⟩ := (mt_only h _).1 h2
    have hl2 := congrArg List.length hy
    rw [List.length_drop, List.length_append, hl] at hl2
    simp only [List.length_cons, List.length_nil] at hl2
    obtain rfl : i = k := by omega
    rw [List.take_append_of_le_length (by omega), List.take_of_length_le (by omega)] at h1
    rw [List.drop_append_of_le_length (by omega), List.drop_eq_nil_of_le (by omega), List.nil_append] at hy
    simp only [List.cons.injEq, and_true] at hy
    subst hy
    exact ⟨h1, h3⟩
  · rintro ⟨h1, h2⟩
    refine ⟨k, by rw [List.length_append, hl]; omega, ?_, ?_⟩
    · rw [List.take_append_of_le_length (by omega), List.take_of_length_le (by omega)]; exact h1
    · rw [List.drop_append_of_le_length (by omega), List.drop_eq_nil_of_le (by omega), List.nil_append]
      exact (mt_only h _).2 ⟨x, rfl, h2⟩
theorem row_one_zero (D : List Part) {q : Part} (h : q.1 ≠ 37) (T : List Bs) : row (D ++ [q]) T 0 = false := by
  refine bool_ext ?_
  unfold row
  rw [mt_append, List.take_zero]
  constructor
  · rintro ⟨i, hi, h1, h2⟩
    rw [List.drop_nil, mt_one_nil h] at h2
    cases h2
  · intro h; cases h
theorem row_star (D : List Part) (x : Bs) (T : List Bs) (k : Nat) (hk : k ≤ T.length) : row (D ++ [(37, x)]) T k = true ↔ ∃ i, i ≤ k ∧ row D T i = true := by
  have hall : ∀ r : List Bs, mt [((37 : Int), x)] r = true := fun r => by
    rw [mt_star rfl]
    exact (anyTail_iff _ _).2 ⟨r.length, Nat.le_refl _, by rw [List.drop_length]; rfl⟩
  unfold row
  rw [mt_append]
  constructor
  · rintro ⟨i, hi, h1, _⟩
    rw [List.length_take] at hi
    refine ⟨i, by omega, ?_⟩
    rw [List.take_take, Nat.min_eq_left (by omega)] at h1
    exact h1
  · rintro ⟨i, hi, h1⟩
    refine ⟨i, by rw [List.length_take]; omega, ?_, hall _⟩
    rw [List.take_take, Nat.min_eq_left (by omega)]
    exact h1
theorem row_star_zero (D : List Part) (x : Bs) (T : List Bs) : row (D ++ [(37, x)]) T 0 = row D T 0 := by
  refine bool_ext ?_
  rw [row_star D x T 0 (Nat.zero_le _)]
  constructor
  · rintro ⟨i, hi, h⟩
    obtain rfl : i = 0 := by omega
    exact h
  · intro h; exact ⟨0, Nat.le_refl _, h⟩
theorem row_star_succ (D : List Part) (x : Bs) (T : List Bs) (k : Nat) (hk : k + 1 ≤ T.length) : row (D ++ [(37, x)]) T (k + 1) = (row D T (k + 1) || row (D ++ [(37, x)]) T k) := by
  refine bool_ext ?_
  rw [row_star D x T (k + 1) hk, Bool.or_eq_true, row_star D x T k (by omega)]
  constructor
  · rintro ⟨i, hi, h⟩
    by_cases e : i = k + 1
    · subst e; exact Or.inl h
    · exact Or.inr ⟨i, by omega, h⟩
  · rintro (h | ⟨i, hi, h⟩)
    · exact ⟨k + 1, Nat.le_refl _, h⟩
    · exact ⟨i, by omega, h⟩
/-- the whole row as a list -/
def rowL (D : List Part) (T : List Bs) (n : Nat) : List Bool := (List.range n).map (row D T)
theorem rowL_len (D : List Part) (T : List Bs) (n : Nat) : (rowL D T n).length = n := by simp [rowL]
theorem rowL_succ (D : List Part) (T : List Bs) (n : Nat) : rowL D T (n + 1) = rowL D T n ++ [row D T n] := by simp [rowL, List.range_succ]
theorem rowL_at (D : List Part) (T : List Bs) (n k : Nat) (h : k < n) : (rowL D T n)[k]? = some (row D T k) := by simp [rowL, h]
end LK
end Go.Proofs.YtgjgmaadogkjfaaDoor
