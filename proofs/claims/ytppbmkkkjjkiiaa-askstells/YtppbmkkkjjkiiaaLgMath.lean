/-
  Three truth values, as plain functions.
-/
namespace Go.Proofs.Ytppbmkkkjjkiiaa
namespace LG

/-- a truth value as it is, Unknown for every other number -/
def kn (a : Int) : Int := if a = 0 then 0 else if a = 2 then 2 else 1
def and (a b : Int) : Int := min (kn a) (kn b)
def or (a b : Int) : Int := max (kn a) (kn b)
def not (a : Int) : Int := if a = 0 then 2 else if a = 2 then 0 else 1
def all : List Int → Int
  | [] => 2
  | a :: t => and a (all t)
def any : List Int → Int
  | [] => 0
  | a :: t => or a (any t)

theorem kn_in (a : Int) : kn a = 0 ∨ kn a = 1 ∨ kn a = 2 := by unfold kn; split <;> (try split) <;> omega
theorem kn_of {a : Int} (h : a = 0 ∨ a = 1 ∨ a = 2) : kn a = a := by
  rcases h with rfl | rfl | rfl <;> rfl
theorem kn_kn (a : Int) : kn (kn a) = kn a := kn_of (kn_in a)
theorem and_in (a b : Int) : and a b = 0 ∨ and a b = 1 ∨ and a b = 2 := by
  have := kn_in a; have := kn_in b
  unfold and; omega
theorem or_in (a b : Int) : or a b = 0 ∨ or a b = 1 ∨ or a b = 2 := by
  have := kn_in a; have := kn_in b
  unfold or; omega
theorem not_in (a : Int) : not a = 0 ∨ not a = 1 ∨ not a = 2 := by unfold not; split <;> (try split) <;> omega
theorem not_kn (a : Int) : not a = 2 - kn a := by unfold not kn; split <;> (try split) <;> omega
theorem kn_and (a b : Int) : kn (and a b) = min (kn a) (kn b) := kn_of (and_in a b)
theorem kn_or (a b : Int) : kn (or a b) = max (kn a) (kn b) := kn_of (or_in a b)
theorem kn_not (a : Int) : kn (not a) = 2 - kn a := by rw [kn_of (not_in a), not_kn]
theorem and_assoc (a b c : Int) : and (and a b) c = and a (and b c) := by
  show min (kn (and a b)) (kn c) = min (kn a) (kn (and b c))
  rw [kn_and, kn_and]; omega
theorem or_assoc (a b c : Int) : or (or a b) c = or a (or b c) := by
  show max (kn (or a b)) (kn c) = max (kn a) (kn (or b c))
  rw [kn_or, kn_or]; omega
theorem all_in (l : List Int) : all l = 0 ∨ all l = 1 ∨ all l = 2 := by
  cases l with
  | nil => exact Or.inr (Or.inr rfl)
  | cons a t => exact and_in a (all t)
theorem any_in (l : List Int) : any l = 0 ∨ any l = 1 ∨ any l = 2 := by
  cases l with
  | nil => exact Or.inl rfl
  | cons a t => exact or_in a (any t)
theorem and_two (a : Int) : and a 2 = kn a := by
  have := kn_in a
  show min (kn a) 2 = _
  omega
theorem or_nought (a : Int) : or a 0 = kn a := by
  have := kn_in a
  show max (kn a) 0 = _
  omega
theorem two_and (a : Int) : and 2 a = kn a := by
  have := kn_in a
  show min 2 (kn a) = _
  omega
theorem nought_or (a : Int) : or 0 a = kn a := by
  have := kn_in a
  show max 0 (kn a) = _
  omega
theorem all_app (l m : List Int) : all (l ++ m) = and (all l) (all m) := by
  induction l with
  | nil => show all m = and 2 (all m); rw [two_and, kn_of (all_in m)]
  | cons a t ih => show and a (all (t ++ m)) = and (and a (all t)) (all m); rw [ih, and_assoc]
theorem any_app (l m : List Int) : any (l ++ m) = or (any l) (any m) := by
  induction l with
  | nil => show any m = or 0 (any m); rw [nought_or, kn_of (any_in m)]
  | cons a t ih => show or a (any (t ++ m)) = or (or a (any t)) (any m); rw [ih, or_assoc]
theorem not_all (l : List Int) : not (all l) = any (l.map not) := by
  induction l with
  | nil => rfl
  | cons a t ih =>
    show not (and a (all t)) = or (not a) (any (t.map not))
    rw [← ih, not_kn, kn_and]
    show _ = max (kn (not a)) (kn (not (all t)))
    rw [kn_not, kn_not]; omega
end LG
end Go.Proofs.Ytppbmkkkjjkiiaa
