/-
  What the document's own answer TimesOf is, for every two numbers.
-/
import Derived.Test.YtbljoohikhjdjaaRefWh
namespace Go.Proofs.Ytbljoohikhjdjaa
open Go.ChangeShapes Go.WideShapes Go.ChangeAt Go.RowKit
set_option linter.unusedVariables false
set_option maxRecDepth 100000

set_option maxHeartbeats 400000 in
theorem times_pp (a b : Int) (w : World) (ha : WH.Ok a) (hb : WH.Ok b) (h1 : 0 < a) (h2 : 0 < b) :
    Calls Try.prog 17 #[.int .i64 a, .int .i64 b] w fun e w' => e = .returned (two (a * b)) ∧ w' = w := by
  have hz : (a == 0) = false := by simp; omega
  have hz2 : (b == 0) = false := by simp; omega
  have n1 : ¬ a < 0 := by omega
  have n2 : ¬ b < 0 := by omega
  have sg : 0 < a * b := by exact Int.mul_pos h1 h2
  have et := top_Ok hb (show b ≠ 0 by omega)
  have ht : 9223372036854775807 / b < a ↔ 9223372036854775807 < a * b := Int.ediv_lt_iff_lt_mul h2
  rcases WH.ok_em (a * b) with ho | ho
  · rw [two_in ho]
    have hw := WH.wrap_ok ho
    have t1 : ¬ 9223372036854775807 / b < a := by rw [ht]; unfold WH.Ok at ho; omega
    clear ht ho sg
    obtain ⟨ha0, ha1⟩ := ha
    obtain ⟨hb0, hb1⟩ := hb
    go_enter Try.func17, Try.ntmps17
    go_wp2_with fail
    go_ret2
    exact ⟨by first | rfl | exact ret_two hw rfl, rfl⟩
  · rw [two_out ho]
    have t1 : 9223372036854775807 / b < a := by rw [ht]; unfold WH.Ok at ho; omega
    clear ht ho sg
    obtain ⟨ha0, ha1⟩ := ha
    obtain ⟨hb0, hb1⟩ := hb
    go_enter Try.func17, Try.ntmps17
    go_wp2_with fail
    go_ret2
    exact ⟨rfl, rfl⟩

set_option maxHeartbeats 400000 in
theorem times_nn (a b : Int) (w : World) (ha : WH.Ok a) (hb : WH.Ok b) (h1 : a < 0) (h2 : b < 0) :
    Calls Try.prog 17 #[.int .i64 a, .int .i64 b] w fun e w' => e = .returned (two (a * b)) ∧ w' = w := by
  have hz : (a == 0) = false := by simp; omega
  have hz2 : (b == 0) = false := by simp; omega
  have n1 : ¬ 0 < a := by omega
  have n2 : ¬ 0 < b := by omega
  have sg : 0 < a * b := by exact Int.mul_pos_of_neg_of_neg h1 h2
  have et := top_Ok hb (show b ≠ 0 by omega)
  have ht := top_neg (a := a) h2
  rcases WH.ok_em (a * b) with ho | ho
  · rw [two_in ho]
    have hw := WH.wrap_ok ho
    have t1 : ¬ a < Int.tdiv 9223372036854775807 b := by rw [ht]; unfold WH.Ok at ho; omega
    clear ht ho sg
    obtain ⟨ha0, ha1⟩ := ha
    obtain ⟨hb0, hb1⟩ := hb
    go_enter Try.func17, Try.ntmps17
    go_wp2_with fail
    go_ret2
    exact ⟨by first | rfl | exact ret_two hw rfl, rfl⟩
  · rw [two_out ho]
    have t1 : a < Int.tdiv 9223372036854775807 b := by rw [ht]; unfold WH.Ok at ho; omega
    clear ht ho sg
    obtain ⟨ha0, ha1⟩ := ha
    obtain ⟨hb0, hb1⟩ := hb
    go_enter Try.func17, Try.ntmps17
    go_wp2_with fail
    go_ret2
    exact ⟨rfl, rfl⟩

set_option maxHeartbeats 400000 in
theorem times_pn (a b : Int) (w : World) (ha : WH.Ok a) (hb : WH.Ok b) (h1 : 0 < a) (h2 : b < 0) :
    Calls Try.prog 17 #[.int .i64 a, .int .i64 b] w fun e w' => e = .returned (two (a * b)) ∧ w' = w := by
  have hz : (a == 0) = false := by simp; omega
  have hz2 : (b == 0) = false := by simp; omega
  have n1 : ¬ a < 0 := by omega
  have n2 : ¬ 0 < b := by omega
  have sg : a * b < 0 := by exact Int.mul_neg_of_pos_of_neg h1 h2
  have ht : b < wrap64 (-Int.tdiv 9223372036854775808 a) ↔ a * b < -9223372036854775808 := by
    have h := low_pos (a := b) h1
    rw [← low_Ok h1, Int.neg_tdiv, Int.mul_comm] at h
    exact h
  rcases WH.ok_em (a * b) with ho | ho
  · rw [two_in ho]
    have hw := WH.wrap_ok ho
    have t1 : ¬ b < wrap64 (-Int.tdiv 9223372036854775808 a) := by rw [ht]; unfold WH.Ok at ho; omega
    clear ht ho sg
    obtain ⟨ha0, ha1⟩ := ha
    obtain ⟨hb0, hb1⟩ := hb
    go_enter Try.func17, Try.ntmps17
    go_wp2_with fail
    go_ret2
    exact ⟨by first | rfl | exact ret_two hw rfl, rfl⟩
  · rw [two_out ho]
    have t1 : b < wrap64 (-Int.tdiv 9223372036854775808 a) := by rw [ht]; unfold WH.Ok at ho; omega
    clear ht ho sg
    obtain ⟨ha0, ha1⟩ := ha
    obtain ⟨hb0, hb1⟩ := hb
    go_enter Try.func17, Try.ntmps17
    go_wp2_with fail
    go_ret2
    exact ⟨rfl, rfl⟩

set_option maxHeartbeats 400000 in
theorem times_np (a b : Int) (w : World) (ha : WH.Ok a) (hb : WH.Ok b) (h1 : a < 0) (h2 : 0 < b) :
    Calls Try.prog 17 #[.int .i64 a, .int .i64 b] w fun e w' => e = .returned (two (a * b)) ∧ w' = w := by
  have hz : (a == 0) = false := by simp; omega
  have hz2 : (b == 0) = false := by simp; omega
  have n1 : ¬ 0 < a := by omega
  have n2 : ¬ b < 0 := by omega
  have sg : a * b < 0 := by exact Int.mul_neg_of_neg_of_pos h1 h2
  have ht : a < wrap64 (-Int.tdiv 9223372036854775808 b) ↔ a * b < -9223372036854775808 := by
    have h := low_pos (a := a) h2
    rw [← low_Ok h2, Int.neg_tdiv] at h
    exact h
  rcases WH.ok_em (a * b) with ho | ho
  · rw [two_in ho]
    have hw := WH.wrap_ok ho
    have t1 : ¬ a < wrap64 (-Int.tdiv 9223372036854775808 b) := by rw [ht]; unfold WH.Ok at ho; omega
    clear ht ho sg
    obtain ⟨ha0, ha1⟩ := ha
    obtain ⟨hb0, hb1⟩ := hb
    go_enter Try.func17, Try.ntmps17
    go_wp2_with fail
    go_ret2
    exact ⟨by first | rfl | exact ret_two hw rfl, rfl⟩
  · rw [two_out ho]
    have t1 : a < wrap64 (-Int.tdiv 9223372036854775808 b) := by rw [ht]; unfold WH.Ok at ho; omega
    clear ht ho sg
    obtain ⟨ha0, ha1⟩ := ha
    obtain ⟨hb0, hb1⟩ := hb
    go_enter Try.func17, Try.ntmps17
    go_wp2_with fail
    go_ret2
    exact ⟨rfl, rfl⟩

theorem timesOf_any (a b : Int) (w : World) (ha : WH.Ok a) (hb : WH.Ok b) :
    Calls Try.prog 17 #[.int .i64 a, .int .i64 b] w fun e w' => e = .returned (two (a * b)) ∧ w' = w := by
  by_cases h0 : a = 0
  · subst h0
    rw [Int.zero_mul, two_in ⟨by omega, by omega⟩]
    clear ha hb
    go_enter Try.func17, Try.ntmps17
    go_wp2_with fail
    go_ret2
    exact ⟨rfl, rfl⟩
  by_cases h1 : b = 0
  · subst h1
    rw [Int.mul_zero, two_in ⟨by omega, by omega⟩]
    clear ha hb
    go_enter Try.func17, Try.ntmps17
    go_wp2_with fail
    go_ret2
    exact ⟨rfl, rfl⟩
  rcases Int.lt_or_gt_of_ne h0 with ha1 | ha1 <;> rcases Int.lt_or_gt_of_ne h1 with hb1 | hb1
  · exact times_nn a b w ha hb ha1 hb1
  · exact times_np a b w ha hb ha1 hb1
  · exact times_pn a b w ha hb ha1 hb1
  · exact times_pp a b w ha hb ha1 hb1
end Go.Proofs.Ytbljoohikhjdjaa
