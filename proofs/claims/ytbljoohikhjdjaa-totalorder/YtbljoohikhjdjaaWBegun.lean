/-
  The examples that the statements on whole numbers hold first are met.
-/
import Derived.Test.YtbljoohikhjdjaaTot
namespace Go.Proofs.Ytbljoohikhjdjaa
open Go.ChangeShapes Go.WideShapes Go.ChangeAt Go.RowKit
set_option linter.unusedVariables false
set_option maxRecDepth 100000

theorem ok_of {x : Int} (h0 : -9223372036854775808 ≤ x) (h1 : x ≤ 9223372036854775807) : WH.Ok x := ⟨h0, h1⟩
theorem two_ok {x y : Int} (h : x = y) (h0 : -9223372036854775808 ≤ y) (h1 : y ≤ 9223372036854775807) : two x = .tuple #[.int .i64 y, .int .i64 0] := by
  subst h
  unfold two
  rw [WH.val_ok ⟨h0, h1⟩, WH.err_ok ⟨h0, h1⟩]
theorem two_over {x : Int} (h : 9223372036854775807 < x) : two x = .tuple #[.int .i64 0, .int .i64 8] := by
  have ho : ¬ WH.Ok x := by unfold WH.Ok; omega
  unfold two
  rw [WH.val_over ho, WH.err_over ho]

theorem begin1 (w : World) : Calls Try.prog 13 #[.int .i64 (-4294967296), .int .i64 2147483648] w fun e w' => e = .returned (.tuple #[.int .i64 (-9223372036854775808), .int .i64 0]) ∧ w' = w := by
  have h := mul_any (-4294967296) 2147483648 w (ok_of (by omega) (by omega)) (ok_of (by omega) (by omega))
  rw [two_ok (y := -9223372036854775808) (by omega) (by omega) (by omega)] at h
  exact h
theorem begin2 (w : World) : Calls Try.prog 13 #[.int .i64 4294967296, .int .i64 2147483648] w fun e w' => e = .returned (.tuple #[.int .i64 0, .int .i64 8]) ∧ w' = w := by
  have h := mul_any 4294967296 2147483648 w (ok_of (by omega) (by omega)) (ok_of (by omega) (by omega))
  rw [two_over (by omega)] at h
  exact h
theorem begin3 (w : World) : Calls Try.prog 20 #[.int .i64 (-7), .int .i64 3] w fun e w' => e = .returned (.tuple #[.int .i64 (-1), .int .i64 0]) ∧ w' = w := by
  have h := mod_any (-7) 3 w (ok_of (by omega) (by omega)) (ok_of (by omega) (by omega))
  rw [show modTwo (-7) 3 = .tuple #[.int .i64 (-1), .int .i64 0] by rfl] at h
  exact h
theorem begin4 (w : World) : Calls Try.prog 14 #[.int .i64 (-9223372036854775808)] w fun e w' => e = .returned (.tuple #[.int .i64 0, .int .i64 8]) ∧ w' = w := by
  have h := neg_any (-9223372036854775808) w (ok_of (by omega) (by omega))
  rw [two_over (by omega)] at h
  exact h
theorem begin5 (w : World) : Calls Try.prog 19 #[.int .i64 1, .int .i64 0] w fun e w' => e = .returned (.tuple #[.int .i64 0, .int .i64 9]) ∧ w' = w := by
  have h := div_any 1 0 w (ok_of (by omega) (by omega)) (ok_of (by omega) (by omega))
  rw [show divTwo 1 0 = .tuple #[.int .i64 0, .int .i64 9] by rfl] at h
  exact h
theorem lit_ints (W : World) (x y z : Int) : IsInts (W.alloc (.cells #[.int .i64 x, .int .i64 y, .int .i64 z] 2)) (.slice (some ⟨W.heap.size, 0, none⟩) 3 3) [x, y, z] := by
  refine ⟨_, _, rfl, Nat.le_refl _, Or.inr ⟨W.heap.size, 0, rfl, by simp, ?_⟩⟩
  have h3 : (W.alloc (.cells #[.int .i64 x, .int .i64 y, .int .i64 z] 2)).heap[W.heap.size]? = some (.cells #[.int .i64 x, .int .i64 y, .int .i64 z] 2 (0, 0)) := by
    show (W.heap.push _)[W.heap.size]? = _
    rw [Array.getElem?_push_size]
  intro i hi
  rw [Nat.zero_add]
  simp only [World.cell?, h3]
  match i, hi with
  | 0, _ => rfl
  | 1, _ => rfl
  | 2, _ => rfl
theorem begin6 (w : World) : Calls Try.prog 23 #[.slice (some ⟨w.heap.size, 0, none⟩) 3 3] (w.alloc (.cells #[.int .i64 9223372036854775807, .int .i64 5, .int .i64 (-6)] 2)) fun e w' =>
    e = .returned (.tuple #[.int .i64 9223372036854775806, .int .i64 0]) ∧ Fr w w' := by
  refine (sum_any _ _ _ (lit_ints w 9223372036854775807 5 (-6)) ?_ (by simp)).mono ?_
  · intro x hx
    simp at hx
    rcases hx with rfl | rfl | rfl <;> exact ok_of (by omega) (by omega)
  · rintro e w' ⟨rfl, rfl⟩
    refine ⟨?_, (Fr.refl w).alloc _⟩
    unfold sumTwo
    rw [if_neg (by simp), two_ok (y := 9223372036854775806) (by simp) (by omega) (by omega)]

set_option maxHeartbeats 1000000 in
theorem wholeBegun_any (w : World) : Calls Try.prog 18 #[] w fun e w' => e = .returned (.bool true) ∧ Fr w w' := by
  go_enter Try.func18, Try.ntmps18
  go_wp2_with (go_at_call 13; refine (begin1 _).mono ?_)
  rintro e w1 ⟨rfl, rfl⟩
  go_wp2_with (go_at_call 13; refine (begin2 _).mono ?_)
  rintro e w2 ⟨rfl, rfl⟩
  go_wp2_with (go_at_call 20; refine (begin3 _).mono ?_)
  rintro e w3 ⟨rfl, rfl⟩
  go_wp2_with (go_at_call 23; refine (begin6 _).mono ?_)
  rintro e w4 ⟨rfl, hb⟩
  go_wp2_with (go_at_call 14; refine (begin4 _).mono ?_)
  rintro e w5 ⟨rfl, rfl⟩
  go_wp2_with (go_at_call 19; refine (begin5 _).mono ?_)
  rintro e w6 ⟨rfl, rfl⟩
  go_wp2_with fail
  go_ret
  exact ⟨rfl, by assumption⟩
end Go.Proofs.Ytbljoohikhjdjaa
