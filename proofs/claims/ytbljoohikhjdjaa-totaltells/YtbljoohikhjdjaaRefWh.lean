/-
  What the document's own answers on whole numbers are: PlusOf, MinusOf, TimesOf, OverOf and LeftOf, for every two numbers.
-/
import Derived.Test.YtbljoohikhjdjaaWBegun
namespace Go.Proofs.Ytbljoohikhjdjaa
open Go.ChangeShapes Go.WideShapes Go.ChangeAt Go.RowKit
set_option linter.unusedVariables false
set_option maxRecDepth 100000

theorem two_in {x : Int} (h : WH.Ok x) : two x = .tuple #[.int .i64 x, .int .i64 0] := by
  unfold two
  rw [WH.val_ok h, WH.err_ok h]
theorem two_out {x : Int} (h : ¬ WH.Ok x) : two x = .tuple #[.int .i64 0, .int .i64 8] := by
  unfold two
  rw [WH.val_over h, WH.err_over h]

set_option maxHeartbeats 400000 in
theorem plusOf_any (a b : Int) (w : World) (ha : WH.Ok a) (hb : WH.Ok b) :
    Calls Try.prog 15 #[.int .i64 a, .int .i64 b] w fun e w' => e = .returned (two (a + b)) ∧ w' = w := by
  obtain ⟨ha0, ha1⟩ := ha
  obtain ⟨hb0, hb1⟩ := hb
  rcases WH.ok_em (a + b) with ho | ho
  · rw [two_in ho]
    have hw := WH.wrap_ok ho
    obtain ⟨o0, o1⟩ := ho
    by_cases h1 : 0 < b
    · have e1 : wrap64 (9223372036854775807 - b) = 9223372036854775807 - b := WH.wrap_ok ⟨by omega, by omega⟩
      have t1 : ¬ 9223372036854775807 - b < a := by omega
      have t2 : ¬ b < 0 := by omega
      go_enter Try.func15, Try.ntmps15
      go_wp2_with fail
      go_ret2
      exact ⟨by first | rfl | exact ret_two hw rfl, rfl⟩
    by_cases h2 : b < 0
    · have e1 : wrap64 (-9223372036854775808 - b) = -9223372036854775808 - b := WH.wrap_ok ⟨by omega, by omega⟩
      have t1 : ¬ a < -9223372036854775808 - b := by omega
      go_enter Try.func15, Try.ntmps15
      go_wp2_with fail
      go_ret2
      exact ⟨by first | rfl | exact ret_two hw rfl, rfl⟩
    · go_enter Try.func15, Try.ntmps15
      go_wp2_with fail
      go_ret2
      exact ⟨by first | rfl | exact ret_two hw rfl, rfl⟩
  · rw [two_out ho]
    unfold WH.Ok at ho
    by_cases h1 : 0 < b
    · have e1 : wrap64 (9223372036854775807 - b) = 9223372036854775807 - b := WH.wrap_ok ⟨by omega, by omega⟩
      have t1 : 9223372036854775807 - b < a := by omega
      clear ho
      go_enter Try.func15, Try.ntmps15
      go_wp2_with fail
      go_ret2
      exact ⟨rfl, rfl⟩
    · have h2 : b < 0 := by omega
      have e1 : wrap64 (-9223372036854775808 - b) = -9223372036854775808 - b := WH.wrap_ok ⟨by omega, by omega⟩
      have t1 : a < -9223372036854775808 - b := by omega
      clear ho
      go_enter Try.func15, Try.ntmps15
      go_wp2_with fail
      go_ret2
      exact ⟨rfl, rfl⟩

set_option maxHeartbeats 400000 in
theorem minusOf_any (a b : Int) (w : World) (ha : WH.Ok a) (hb : WH.Ok b) :
    Calls Try.prog 16 #[.int .i64 a, .int .i64 b] w fun e w' => e = .returned (two (a - b)) ∧ w' = w := by
  obtain ⟨ha0, ha1⟩ := ha
  obtain ⟨hb0, hb1⟩ := hb
  rcases WH.ok_em (a - b) with ho | ho
  · rw [two_in ho]
    have hw := WH.wrap_ok ho
    obtain ⟨o0, o1⟩ := ho
    by_cases h1 : b < 0
    · have e1 : wrap64 (9223372036854775807 + b) = 9223372036854775807 + b := WH.wrap_ok ⟨by omega, by omega⟩
      have t1 : ¬ 9223372036854775807 + b < a := by omega
      have t2 : ¬ 0 < b := by omega
      go_enter Try.func16, Try.ntmps16
      go_wp2_with fail
      go_ret2
      exact ⟨by first | rfl | exact ret_two hw rfl, rfl⟩
    by_cases h2 : 0 < b
    · have e1 : wrap64 (-9223372036854775808 + b) = -9223372036854775808 + b := WH.wrap_ok ⟨by omega, by omega⟩
      have t1 : ¬ a < -9223372036854775808 + b := by omega
      go_enter Try.func16, Try.ntmps16
      go_wp2_with fail
      go_ret2
      exact ⟨by first | rfl | exact ret_two hw rfl, rfl⟩
    · go_enter Try.func16, Try.ntmps16
      go_wp2_with fail
      go_ret2
      exact ⟨by first | rfl | exact ret_two hw rfl, rfl⟩
  · rw [two_out ho]
    unfold WH.Ok at ho
    by_cases h1 : b < 0
    · have e1 : wrap64 (9223372036854775807 + b) = 9223372036854775807 + b := WH.wrap_ok ⟨by omega, by omega⟩
      have t1 : 9223372036854775807 + b < a := by omega
      clear ho
      go_enter Try.func16, Try.ntmps16
      go_wp2_with fail
      go_ret2
      exact ⟨rfl, rfl⟩
    · have h2 : 0 < b := by omega
      have e1 : wrap64 (-9223372036854775808 + b) = -9223372036854775808 + b := WH.wrap_ok ⟨by omega, by omega⟩
      have t1 : a < -9223372036854775808 + b := by omega
      clear ho
      go_enter Try.func16, Try.ntmps16
      go_wp2_with fail
      go_ret2
      exact ⟨rfl, rfl⟩

set_option maxHeartbeats 400000 in
theorem overOf_any (a b : Int) (w : World) (ha : WH.Ok a) (hb : WH.Ok b) :
    Calls Try.prog 21 #[.int .i64 a, .int .i64 b] w fun e w' => e = .returned (divTwo a b) ∧ w' = w := by
  by_cases h0 : b = 0
  · subst h0
    clear hb ha
    unfold divTwo
    rw [if_pos rfl]
    go_enter Try.func21, Try.ntmps21
    go_wp2_with fail
    go_ret2
    exact ⟨rfl, rfl⟩
  unfold divTwo
  rw [if_neg h0]
  by_cases h1 : b = -1
  · subst h1
    rw [tdiv_minus]
    obtain ⟨ha0, ha1⟩ := ha
    by_cases h2 : a = -9223372036854775808
    · subst h2
      rw [two_out (by unfold WH.Ok; omega)]
      clear hb ha0 ha1
      go_enter Try.func21, Try.ntmps21
      go_wp2_with fail
      go_ret2
      exact ⟨rfl, rfl⟩
    · have ho : WH.Ok (-a) := ⟨by omega, by omega⟩
      rw [two_in ho]
      have hw := WH.wrap_ok ho
      have ht := tdiv_minus a
      clear hb ho
      go_enter Try.func21, Try.ntmps21
      go_wp2_with fail
      go_ret2
      exact ⟨by first | rfl | exact ret_two hw rfl | (rw [ht]; exact ret_two hw rfl), rfl⟩
  · have ho := WH.tdiv_Ok ha h0 h1
    rw [two_in ho]
    have hw := WH.wrap_ok ho
    clear ho
    obtain ⟨ha0, ha1⟩ := ha
    obtain ⟨hb0, hb1⟩ := hb
    by_cases h2 : a = -9223372036854775808
    · subst h2
      go_enter Try.func21, Try.ntmps21
      go_wp2_with fail
      go_ret2
      exact ⟨ret_two (by rw [← Int.neg_tdiv]; exact hw) rfl, rfl⟩
    · go_enter Try.func21, Try.ntmps21
      go_wp2_with fail
      go_ret2
      exact ⟨by first | rfl | exact ret_two hw rfl, rfl⟩

theorem left_eq {a b : Int} (ha : WH.Ok a) (h0 : b ≠ 0) (h1 : b ≠ -1) : wrap64 (a - wrap64 (wrap64 (a.tdiv b) * b)) = a.tmod b := by
  rw [WH.wrap_ok (WH.tdiv_Ok ha h0 h1)]
  obtain ⟨e, _⟩ := WH.tmod_near a b h0
  rw [Int.mul_comm] at e
  have hm := tmod_Ok ha h0
  generalize a.tdiv b * b = p at *
  generalize a.tmod b = r at *
  have : wrap64 (a - wrap64 p) = wrap64 (a - p) := by
    rw [wrap64, wrap64, wrap64]
    omega
  rw [this, show a - p = r by omega]
  exact WH.wrap_ok hm

set_option maxHeartbeats 400000 in
theorem leftOf_any (a b : Int) (w : World) (ha : WH.Ok a) (hb : WH.Ok b) :
    Calls Try.prog 22 #[.int .i64 a, .int .i64 b] w fun e w' => e = .returned (modTwo a b) ∧ w' = w := by
  by_cases h0 : b = 0
  · subst h0
    clear hb ha
    unfold modTwo
    rw [if_pos rfl]
    go_enter Try.func22, Try.ntmps22
    go_wp2_with fail
    go_ret2
    exact ⟨rfl, rfl⟩
  unfold modTwo
  rw [if_neg h0]
  by_cases h1 : b = -1
  · subst h1
    have e : a.tmod (-1) = 0 := by rw [Int.tmod_neg]; exact Int.tmod_one a
    rw [e]
    clear hb ha e
    go_enter Try.func22, Try.ntmps22
    go_wp2_with fail
    go_ret2
    exact ⟨rfl, rfl⟩
  · have hw := left_eq ha h0 h1
    obtain ⟨ha0, ha1⟩ := ha
    obtain ⟨hb0, hb1⟩ := hb
    go_enter Try.func22, Try.ntmps22
    go_wp2_with fail
    go_ret2
    exact ⟨by first | rfl | exact ret_two hw rfl, rfl⟩

theorem top_pos {a b : Int} (hb : 0 < b) : Int.tdiv 9223372036854775807 b < a ↔ 9223372036854775807 < a * b := by
  rw [Int.tdiv_eq_ediv_of_nonneg (by omega)]
  exact Int.ediv_lt_iff_lt_mul hb
theorem top_neg {a b : Int} (hb : b < 0) : a < Int.tdiv 9223372036854775807 b ↔ 9223372036854775807 < a * b := by
  have e : Int.tdiv 9223372036854775807 b = -Int.tdiv 9223372036854775807 (-b) := by rw [Int.tdiv_neg, Int.neg_neg]
  have h := top_pos (a := -a) (b := -b) (by omega)
  rw [Int.neg_mul_neg] at h
  rw [e, ← h]
  omega
theorem low_pos {a b : Int} (hb : 0 < b) : a < Int.tdiv (-9223372036854775808) b ↔ a * b < -9223372036854775808 := by
  have h : Int.tdiv 9223372036854775808 b < -a ↔ 9223372036854775808 < -a * b := by
    rw [Int.tdiv_eq_ediv_of_nonneg (by omega)]
    exact Int.ediv_lt_iff_lt_mul hb
  have e : Int.tdiv (-9223372036854775808) b = -Int.tdiv 9223372036854775808 b := Int.neg_tdiv ..
  rw [Int.neg_mul] at h
  rw [e]
  generalize a * b = p at *
  omega
theorem top_Ok {b : Int} (hb : WH.Ok b) (h : b ≠ 0) : wrap64 (Int.tdiv 9223372036854775807 b) = Int.tdiv 9223372036854775807 b := by
  by_cases h1 : b = -1
  · subst h1
    rw [tdiv_minus]
    exact WH.wrap_ok ⟨by omega, by omega⟩
  · exact WH.wrap_ok (WH.tdiv_Ok ⟨by omega, by omega⟩ h h1)
theorem low_Ok {b : Int} (h : 0 < b) : wrap64 (Int.tdiv (-9223372036854775808) b) = Int.tdiv (-9223372036854775808) b :=
  WH.wrap_ok (WH.tdiv_Ok ⟨by omega, by omega⟩ (by omega) (by omega))
end Go.Proofs.Ytbljoohikhjdjaa
