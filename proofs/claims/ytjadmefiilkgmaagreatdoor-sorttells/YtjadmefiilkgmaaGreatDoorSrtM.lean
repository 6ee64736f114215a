/-
  Putting one more into a list in order.
-/
import Derived.Test.YtjadmefiilkgmaaGreatDoorAppRow
import Derived.Test.YtjadmefiilkgmaaGreatDoorOrM
namespace Go.Proofs.YtjadmefiilkgmaaGreatDoor
namespace SM
open VM
theorem ins_sorted {A1 A2 : List Vl} {x : Vl} (h : (A1 ++ A2).Pairwise (fun a b => le a b = true)) (h2 : ∀ y ∈ A2, le x y = true) (h1 : ∀ B y, A1 = B ++ [y] → le y x = true) : (A1 ++ x :: A2).Pairwise (fun a b => le a b = true) := by
  rw [List.pairwise_append] at h ⊢
  obtain ⟨p1, p2, p3⟩ := h
  have hx : ∀ a ∈ A1, le a x = true := by
    intro a ha
    rcases List.eq_nil_or_concat A1 with h0 | ⟨B, y, hB⟩
    · subst h0; simp at ha
    · rw [List.concat_eq_append] at hB
      have hy := h1 B y hB
      subst hB
      rcases List.mem_append.1 ha with hb | hb
      · exact le_trans a y x ((List.pairwise_append.1 p1).2.2 a hb y (by simp)) hy
      · simp at hb; subst hb; exact hy
  refine ⟨p1, List.pairwise_cons.2 ⟨h2, p2⟩, fun a ha b hb => ?_⟩
  rcases List.mem_cons.1 hb with rfl | hb
  · exact hx a ha
  · exact p3 a ha b hb
theorem srt_snoc {l A1 A2 : List Vl} {x : Vl} (h : A1 ++ A2 = srt l) (h2 : ∀ y ∈ A2, le x y = true) (h1 : ∀ B y, A1 = B ++ [y] → le y x = true) : A1 ++ x :: A2 = srt (l ++ [x]) := by
  refine sorted_one ?_ (ins_sorted (by rw [h]; exact srt_sorted l) h2 h1) (srt_sorted _)
  refine List.Perm.trans List.perm_middle ?_
  rw [h]
  refine List.Perm.trans (List.Perm.cons x (srt_perm l)) ?_
  refine List.Perm.trans ?_ (srt_perm (l ++ [x])).symm
  exact (List.perm_append_singleton x l).symm
theorem le_of_lt {x y : Vl} (h : CM.ord x y < 0) : le x y = true := by unfold le; simp; omega
theorem le_of_not {x y : Vl} (h : ¬ CM.ord x y < 0) : le y x = true := by
  have := ord_anti x y
  unfold le; simp; omega
end SM
/-- the cells of two that stand side by side change about -/
theorem rowV_swap (A1 A2 : List VM.Vl) (x y : VM.Vl) (j : Nat) (hj : A1.length * 3 = j) :
    ((((((rowV (A1 ++ y :: x :: A2)).set (j + 3) (.int .i64 y.k)).set (j + 3 + 1) (.int .i64 y.n)).set (j + 3 + 2) (.string y.s)).set j (.int .i64 x.k)).set (j + 1) (.int .i64 x.n)).set (j + 2) (.string x.s) = rowV (A1 ++ x :: y :: A2) := by
  have hl := rowV_len A1
  rw [rowV_app, rowV_app]
  have e1 : rowV (y :: x :: A2) = [.int .i64 y.k, .int .i64 y.n, .string y.s, .int .i64 x.k, .int .i64 x.n, .string x.s] ++ rowV A2 := by simp [rowV]
  have e2 : rowV (x :: y :: A2) = [.int .i64 x.k, .int .i64 x.n, .string x.s, .int .i64 y.k, .int .i64 y.n, .string y.s] ++ rowV A2 := by simp [rowV]
  rw [e1, e2]
  rw [List.set_append_right (h := by omega), List.set_append_right (h := by omega), List.set_append_right (h := by omega), List.set_append_right (h := by omega), List.set_append_right (h := by omega), List.set_append_right (h := by omega)]
  rw [show j + 3 - (rowV A1).length = 3 by omega, show j + 3 + 1 - (rowV A1).length = 4 by omega, show j + 3 + 2 - (rowV A1).length = 5 by omega, show j - (rowV A1).length = 0 by omega, show j + 1 - (rowV A1).length = 1 by omega, show j + 2 - (rowV A1).length = 2 by omega]
  simp
end Go.Proofs.YtjadmefiilkgmaaGreatDoor
