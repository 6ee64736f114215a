/-
  What Add, Sub, Mul, Neg, Div and Mod of package whole answer, for every two numbers.
-/
import Derived.Test.YtbljoohikhjdjaaWhMath
namespace Go.Proofs.Ytbljoohikhjdjaa
open Go.ChangeShapes Go.WideShapes Go.ChangeAt Go.RowKit
set_option linter.unusedVariables false
set_option maxRecDepth 100000

/-- the two answers of a number that may run over -/
def two (x : Int) : Value := .tuple #[.int .i64 (WH.val x), .int .i64 (WH.err x)]

set_option maxHeartbeats 400000 in
theorem add_any (a b : Int) (w : World) (ha : WH.Ok a) (hb : WH.Ok b) :
    Calls Try.prog 11 #[.int .i64 a, .int .i64 b] w fun e w' => e = .returned (two (a + b)) ∧ w' = w := by
  have ht := WH.add_test ha hb
  obtain ⟨ha0, ha1⟩ := ha
  obtain ⟨hb0, hb1⟩ := hb
  unfold two
  rcases WH.ok_em (a + b) with ho | ho
  · have ht' : ¬ bits .and .i64 (bits .xor .i64 a (wrap64 (a + b))) (bits .xor .i64 b (wrap64 (a + b))) < 0 := fun h => (ht.1 h) ho
    rw [WH.val_ok ho, WH.err_ok ho]
    have hw := WH.wrap_ok ho
    rw [hw] at ht'
    clear ht ho
    go_enter Try.func11, Try.ntmps11
    go_wp2_with fail
    go_ret2
    exact ⟨by first | rfl | exact ret_two hw rfl, rfl⟩
  · have ht' := ht.2 ho
    rw [WH.val_over ho, WH.err_over ho]
    clear ht ho
    go_enter Try.func11, Try.ntmps11
    go_wp2_with fail
    go_ret2
    exact ⟨rfl, rfl⟩

set_option maxHeartbeats 400000 in
theorem sub_any (a b : Int) (w : World) (ha : WH.Ok a) (hb : WH.Ok b) :
    Calls Try.prog 12 #[.int .i64 a, .int .i64 b] w fun e w' => e = .returned (two (a - b)) ∧ w' = w := by
  have ht := WH.sub_test ha hb
  obtain ⟨ha0, ha1⟩ := ha
  obtain ⟨hb0, hb1⟩ := hb
  unfold two
  rcases WH.ok_em (a - b) with ho | ho
  · have ht' : ¬ bits .and .i64 (bits .xor .i64 a b) (bits .xor .i64 a (wrap64 (a - b))) < 0 := fun h => (ht.1 h) ho
    rw [WH.val_ok ho, WH.err_ok ho]
    have hw := WH.wrap_ok ho
    rw [hw] at ht'
    clear ht ho
    go_enter Try.func12, Try.ntmps12
    go_wp2_with fail
    go_ret2
    exact ⟨by first | rfl | exact ret_two hw rfl, rfl⟩
  · have ht' := ht.2 ho
    rw [WH.val_over ho, WH.err_over ho]
    clear ht ho
    go_enter Try.func12, Try.ntmps12
    go_wp2_with fail
    go_ret2
    exact ⟨rfl, rfl⟩

set_option maxHeartbeats 400000 in
theorem neg_any (a : Int) (w : World) (ha : WH.Ok a) :
    Calls Try.prog 14 #[.int .i64 a] w fun e w' => e = .returned (two (-a)) ∧ w' = w := by
  obtain ⟨ha0, ha1⟩ := ha
  unfold two
  by_cases h : a = -9223372036854775808
  · have ho : ¬ WH.Ok (-a) := by unfold WH.Ok; omega
    rw [WH.val_over ho, WH.err_over ho]
    clear ho
    subst h
    go_enter Try.func14, Try.ntmps14
    go_wp2_with fail
    go_ret2
    exact ⟨rfl, rfl⟩
  · have ho : WH.Ok (-a) := by unfold WH.Ok; omega
    rw [WH.val_ok ho, WH.err_ok ho]
    have hw := WH.wrap_ok ho
    clear ho
    go_enter Try.func14, Try.ntmps14
    go_wp2_with fail
    go_ret2
    exact ⟨by first | rfl | exact ret_two hw rfl, rfl⟩

set_option maxHeartbeats 400000 in
theorem mul_any (a b : Int) (w : World) (ha : WH.Ok a) (hb : WH.Ok b) :
    Calls Try.prog 13 #[.int .i64 a, .int .i64 b] w fun e w' => e = .returned (two (a * b)) ∧ w' = w := by
  have hn := fun W => neg_any a W ha
  by_cases h0 : b = 0
  · subst h0
    rw [Int.mul_zero]
    clear hb ha hn
    go_enter Try.func13, Try.ntmps13
    go_wp2_with fail
    go_ret2
    exact ⟨rfl, rfl⟩
  by_cases h1 : b = -1
  · subst h1
    rw [show a * -1 = -a by omega]
    clear hb ha
    unfold two at *
    generalize WH.val (-a) = p at *
    generalize WH.err (-a) = q at *
    go_enter Try.func13, Try.ntmps13
    go_wp2_with (go_at_call 14; refine (hn _).mono ?_; rintro e w' ⟨rfl, rfl⟩)
    go_ret2
    exact ⟨rfl, rfl⟩
  · have ht := WH.mul_test ha hb h0 h1
    clear hn
    obtain ⟨ha0, ha1⟩ := ha
    obtain ⟨hb0, hb1⟩ := hb
    unfold two
    rcases WH.ok_em (a * b) with ho | ho
    · have ht' := ht.2 ho
      have hbe : (wrap64 ((wrap64 (a * b)).tdiv b) != a) = false := by rw [ht']; simp
      rw [WH.val_ok ho, WH.err_ok ho]
      have hw := WH.wrap_ok ho
      clear ht ho
      go_enter Try.func13, Try.ntmps13
      go_wp2_with fail
      go_ret2
      exact ⟨ret_two hw rfl, rfl⟩
    · have ht' : ¬ wrap64 ((wrap64 (a * b)).tdiv b) = a := fun h => ho (ht.1 h)
      have hbe : (wrap64 ((wrap64 (a * b)).tdiv b) != a) = true := by simpa using ht'
      rw [WH.val_over ho, WH.err_over ho]
      clear ht ho
      go_enter Try.func13, Try.ntmps13
      go_wp2_with fail
      go_ret2
      exact ⟨rfl, rfl⟩

/-- the two answers of Div -/
def divTwo (a b : Int) : Value := if b = 0 then .tuple #[.int .i64 0, .int .i64 9] else two (a.tdiv b)
/-- the two answers of Mod -/
def modTwo (a b : Int) : Value := if b = 0 then .tuple #[.int .i64 0, .int .i64 9] else .tuple #[.int .i64 (a.tmod b), .int .i64 0]

theorem tdiv_minus (a : Int) : a.tdiv (-1) = -a := by rw [Int.tdiv_neg, Int.tdiv_one]

set_option maxHeartbeats 400000 in
theorem div_any (a b : Int) (w : World) (ha : WH.Ok a) (hb : WH.Ok b) :
    Calls Try.prog 19 #[.int .i64 a, .int .i64 b] w fun e w' => e = .returned (divTwo a b) ∧ w' = w := by
  have hn := fun W => neg_any a W ha
  by_cases h0 : b = 0
  · subst h0
    clear hb ha hn
    unfold divTwo
    rw [if_pos rfl]
    go_enter Try.func19, Try.ntmps19
    go_wp2_with fail
    go_ret2
    exact ⟨rfl, rfl⟩
  by_cases h1 : b = -1
  · subst h1
    unfold divTwo
    rw [if_neg h0, tdiv_minus]
    clear hb ha
    unfold two at *
    generalize WH.val (-a) = p at *
    generalize WH.err (-a) = q at *
    go_enter Try.func19, Try.ntmps19
    go_wp2_with (go_at_call 14; refine (hn _).mono ?_; rintro e w' ⟨rfl, rfl⟩)
    go_ret2
    exact ⟨rfl, rfl⟩
  · have ho := WH.tdiv_Ok ha h0 h1
    unfold divTwo
    rw [if_neg h0]
    unfold two
    rw [WH.val_ok ho, WH.err_ok ho]
    have hw := WH.wrap_ok ho
    clear ho hn
    obtain ⟨ha0, ha1⟩ := ha
    obtain ⟨hb0, hb1⟩ := hb
    go_enter Try.func19, Try.ntmps19
    go_wp2_with fail
    go_ret2
    exact ⟨ret_two hw rfl, rfl⟩

theorem tmod_Ok {a b : Int} (ha : WH.Ok a) (hb : b ≠ 0) : WH.Ok (a.tmod b) := by
  obtain ⟨_, h1, h2, h3, h4⟩ := WH.tmod_near a b hb
  obtain ⟨a0, a1⟩ := ha
  have h5 : (a.tmod b).natAbs ≤ a.natAbs := by rw [Int.natAbs_tmod]; exact Nat.mod_le _ _
  by_cases h : 0 ≤ a
  · have := h1 h; unfold WH.Ok; omega
  · have := h2 (by omega); unfold WH.Ok; omega

set_option maxHeartbeats 400000 in
theorem mod_any (a b : Int) (w : World) (ha : WH.Ok a) (hb : WH.Ok b) :
    Calls Try.prog 20 #[.int .i64 a, .int .i64 b] w fun e w' => e = .returned (modTwo a b) ∧ w' = w := by
  by_cases h0 : b = 0
  · subst h0
    clear hb ha
    unfold modTwo
    rw [if_pos rfl]
    go_enter Try.func20, Try.ntmps20
    go_wp2_with fail
    go_ret2
    exact ⟨rfl, rfl⟩
  · have ho := tmod_Ok ha h0
    unfold modTwo
    rw [if_neg h0]
    have hw := WH.wrap_ok ho
    clear ho
    obtain ⟨ha0, ha1⟩ := ha
    obtain ⟨hb0, hb1⟩ := hb
    go_enter Try.func20, Try.ntmps20
    go_wp2_with fail
    go_ret2
    exact ⟨by first | rfl | exact ret_two hw rfl, rfl⟩
end Go.Proofs.Ytbljoohikhjdjaa
