/-
  A row of values that the call owns.
-/
import Derived.Test.YtefojbfihnnpdaaDoorRdRow
namespace Go.Proofs.YtefojbfihnnpdaaDoor
open Go.ChangeShapes Go.WideShapes Go.ChangeAt Go.RowKit
set_option linter.unusedVariables false
set_option linter.unusedSimpArgs false

def rowV (l : List VM.Vl) : List Value := l.flatMap fun x => [.int .i64 x.k, .int .i64 x.n, .string x.s]
theorem rowV_snoc (l : List VM.Vl) (x : VM.Vl) : rowV (l ++ [x]) = rowV l ++ [.int .i64 x.k, .int .i64 x.n, .string x.s] := by simp [rowV]
theorem rowV_len (l : List VM.Vl) : (rowV l).length = l.length * 3 := by
  induction l with
  | nil => rfl
  | cons a t ih =>
    simp only [rowV, List.flatMap_cons, List.length_append, List.length_cons, List.length_nil] at *
    omega
theorem rowV_get (l : List VM.Vl) (i : Nat) (h : i < l.length) : (rowV l)[i * 3]? = some (.int .i64 l[i].k) ∧ (rowV l)[i * 3 + 1]? = some (.int .i64 l[i].n) ∧ (rowV l)[i * 3 + 2]? = some (.string l[i].s) := by
  induction l generalizing i with
  | nil => simp at h
  | cons a t ih =>
    cases i with
    | zero => simp [rowV]
    | succ i =>
      have := ih i (by simpa using h)
      have e : rowV (a :: t) = .int .i64 a.k :: .int .i64 a.n :: .string a.s :: rowV t := by simp [rowV]
      rw [e, show (i + 1) * 3 = i * 3 + 1 + 1 + 1 by omega]
      simpa using this

/-- a row of values that the call owns -/
abbrev Ov (B : Nat) (v : Value) (l : List VM.Vl) (w : World) : Prop := w.ownsRow B 46 3 v l.length (rowV l)
theorem Ov.keep {B : Nat} {v : Value} {l : List VM.Vl} {w w' : World} (h : Ov B v l w) (hk : ∀ k, B ≤ k → k < w.heap.size → w'.heap[k]? = w.heap[k]?) : Ov B v l w' := by
  refine ⟨h.1, ?_⟩
  rcases h.2 with h0 | ⟨g, cap, cur, h1, h2, h3, h4⟩
  · exact Or.inl h0
  · exact Or.inr ⟨g, cap, cur, h1, h2, (hk g h2 (Array.getElem?_eq_some_iff.1 h3).1).trans h3, h4⟩
theorem Ov.row {B : Nat} {v : Value} {l : List VM.Vl} {w : World} (h : Ov B v l w) : IsRowB B w v l := by
  rcases h.2 with ⟨rfl, h0⟩ | ⟨g, cap, cur, rfl, h2, h3, h4, h5, h6, h7⟩
  · have := List.length_eq_zero_iff.1 h0
    subst this
    exact ⟨none, 0, rfl, Or.inl rfl⟩
  · refine ⟨_, cap, rfl, Or.inr ⟨g, 0, rfl, h2, (Array.getElem?_eq_some_iff.1 h3).1, ?_, cur, h3⟩⟩
    intro i hi
    obtain ⟨a, b, c⟩ := rowV_get l i hi
    have key : ∀ j u, (rowV l)[j]? = some u → w.cell? ⟨g, 0 + j, none⟩ = some u := by
      intro j u hu
      rw [Nat.zero_add, Lib.cell_of_heap h3]
      rw [← h7, List.getElem?_take] at hu
      split at hu
      · rw [← hu, Array.getElem?_toList]
      · cases hu
    exact ⟨key _ _ a, key _ _ b, key _ _ c⟩

end Go.Proofs.YtefojbfihnnpdaaDoor
