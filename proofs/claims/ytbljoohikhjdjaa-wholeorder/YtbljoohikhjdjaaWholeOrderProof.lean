/-
  Proved: for every two int64 WholeOrder answers true: a is less than b just if what is taken away is below 0, or runs over below; the sign of a product is that of both. No condition.
-/
import Derived.Test.YtbljoohikhjdjaaWBegun
namespace Go.Proofs.Ytbljoohikhjdjaa.wholeOrderProof
open Go.ChangeShapes Go.WideShapes Go.ChangeAt Go.RowKit
set_option linter.unusedVariables false
set_option maxRecDepth 100000

theorem signs (a b p : Int) (hp : p = a * b) : (a < 0 ∧ b < 0 ∧ 0 ≤ p) ∨ (a < 0 ∧ b = 0 ∧ 0 ≤ p) ∨ (a < 0 ∧ 0 < b ∧ p < 0) ∨ (a = 0 ∧ 0 ≤ p) ∨ (0 < a ∧ b < 0 ∧ p < 0) ∨ (0 < a ∧ b = 0 ∧ 0 ≤ p) ∨ (0 < a ∧ 0 < b ∧ 0 ≤ p) := by
  subst hp
  rcases Int.lt_trichotomy a 0 with h | h | h
  · rcases Int.lt_trichotomy b 0 with k | k | k
    · have := Int.mul_pos_of_neg_of_neg h k; omega
    · subst k; rw [Int.mul_zero]; omega
    · have := Int.mul_neg_of_neg_of_pos h k; omega
  · subst h; rw [Int.zero_mul]; omega
  · rcases Int.lt_trichotomy b 0 with k | k | k
    · have := Int.mul_neg_of_pos_of_neg h k; omega
    · subst k; rw [Int.mul_zero]; omega
    · have := Int.mul_pos h k; omega

set_option maxHeartbeats 4000000 in
theorem core (a b d e p f : Int) (w : World)
    (c1 : ∀ W, Calls Try.prog 12 #[.int .i64 a, .int .i64 b] W fun x w' => x = .returned (.tuple #[.int .i64 d, .int .i64 e]) ∧ w' = W)
    (c2 : ∀ W, Calls Try.prog 13 #[.int .i64 a, .int .i64 b] W fun x w' => x = .returned (.tuple #[.int .i64 p, .int .i64 f]) ∧ w' = W)
    (he : (e = 0 ∧ (d < 0 ↔ a < b)) ∨ (e = 8 ∧ (a < 0 ↔ a < b))) (hf : f = 8 ∨ (f = 0 ∧ p = a * b)) :
    Calls Try.prog 7 #[.int .i64 a, .int .i64 b] w fun x w' => x = .returned (.bool true) ∧ Fr w w' := by
  rcases he with ⟨rfl, hi⟩ | ⟨rfl, hi⟩ <;> rcases hf with rfl | ⟨rfl, hp⟩
  · go_enter Try.func7, Try.ntmps7
    go_wp2_with (go_at_call 12; refine (c1 _).mono ?_)
    rintro _ w1 ⟨rfl, rfl⟩
    go_wp2_with (go_at_call 13; refine (c2 _).mono ?_)
    rintro _ w1 ⟨rfl, rfl⟩
    go_wp2_with (go_at_call 18; refine (wholeBegun_any _).mono ?_)
    rintro _ w2 ⟨rfl, hfr⟩
    go_wp2_with fail
    go_ret
    exact ⟨rfl, hfr⟩
  · have hs := signs a b p hp
    clear hp
    rcases hs with ⟨h1, h2, h3⟩ | ⟨h1, rfl, h3⟩ | ⟨h1, h2, h3⟩ | ⟨rfl, h3⟩ | ⟨h1, h2, h3⟩ | ⟨h1, rfl, h3⟩ | ⟨h1, h2, h3⟩
    all_goals (
      go_enter Try.func7, Try.ntmps7
      go_wp2_with (go_at_call 12; refine (c1 _).mono ?_)
      rintro _ w1 ⟨rfl, rfl⟩
      go_wp2_with (go_at_call 13; refine (c2 _).mono ?_)
      rintro _ w1 ⟨rfl, rfl⟩
      go_wp2_with (go_at_call 18; refine (wholeBegun_any _).mono ?_)
      rintro _ w2 ⟨rfl, hfr⟩
      go_wp2_with fail
      all_goals (go_ret; refine ⟨?_, hfr⟩; first | rfl | (refine ret_bool ?_; simp_all; try omega)))
  · go_enter Try.func7, Try.ntmps7
    go_wp2_with (go_at_call 12; refine (c1 _).mono ?_)
    rintro _ w1 ⟨rfl, rfl⟩
    go_wp2_with (go_at_call 13; refine (c2 _).mono ?_)
    rintro _ w1 ⟨rfl, rfl⟩
    go_wp2_with (go_at_call 18; refine (wholeBegun_any _).mono ?_)
    rintro _ w2 ⟨rfl, hfr⟩
    go_wp2_with fail
    go_ret
    exact ⟨rfl, hfr⟩
  · have hs := signs a b p hp
    clear hp
    rcases hs with ⟨h1, h2, h3⟩ | ⟨h1, rfl, h3⟩ | ⟨h1, h2, h3⟩ | ⟨rfl, h3⟩ | ⟨h1, h2, h3⟩ | ⟨h1, rfl, h3⟩ | ⟨h1, h2, h3⟩
    all_goals (first | (have q : (a < 0 ↔ a < 0) := hi; clear hi q) | skip)
    all_goals (
      go_enter Try.func7, Try.ntmps7
      go_wp2_with (go_at_call 12; refine (c1 _).mono ?_)
      rintro _ w1 ⟨rfl, rfl⟩
      go_wp2_with (go_at_call 13; refine (c2 _).mono ?_)
      rintro _ w1 ⟨rfl, rfl⟩
      go_wp2_with (go_at_call 18; refine (wholeBegun_any _).mono ?_)
      rintro _ w2 ⟨rfl, hfr⟩
      go_wp2_with fail
      all_goals (go_ret; refine ⟨?_, hfr⟩; first | rfl | (refine ret_bool ?_; simp_all; try omega)))

theorem walk (a b : Int) (w : World) (ha : -9223372036854775808 ≤ a ∧ a ≤ 9223372036854775807) (hb : -9223372036854775808 ≤ b ∧ b ≤ 9223372036854775807) :
    Calls Try.prog 7 #[.int .i64 a, .int .i64 b] w fun e w' => e = .returned (.bool true) ∧ Fr w w' := by
  refine core a b (WH.val (a - b)) (WH.err (a - b)) (WH.val (a * b)) (WH.err (a * b)) w (fun W => sub_any a b W ha hb) (fun W => mul_any a b W ha hb) ?_ ?_
  · rcases WH.ok_em (a - b) with ho | ho
    · rw [WH.val_ok ho, WH.err_ok ho]
      exact Or.inl ⟨rfl, by omega⟩
    · rw [WH.err_over ho]
      unfold WH.Ok at ho
      exact Or.inr ⟨rfl, by omega⟩
  · rcases WH.ok_em (a * b) with ho | ho
    · rw [WH.val_ok ho, WH.err_ok ho]
      exact Or.inr ⟨rfl, rfl⟩
    · rw [WH.err_over ho]
      exact Or.inl rfl

set_option maxRecDepth 100000 in
theorem lifted (os : Os) (started : os.Started) (H : Type) (enc : TypeId × Value → H) :
    ReturnsInHanded {} Try.checked os 7 .any (Rows.wholeOrderSpec.pre6 enc Try.prog Try.f7 Rows.wholeOrderRow.domain false) (Rows.wholeOrderSpec.post enc Try.prog Try.f7 false true false false) := by
  refine returnsInHanded_of_change_sized (C := Try.checked) own started (by kernel_rfl) Try.func7
    (ChangeSpec.witness6 (enc := enc) (C := Try.checked) false ⟨#[], #[.int .i64 0, .int .i64 0], []⟩ 8 (by kernel_rfl) (by kernel_rfl) (by kernel_rfl) (by kernel_rfl)) ?_
  intro W base args ds gs before hval0 hW hcnd hsz0 _
  have hval : ∀ (j : Nat) t v, Try.f7.params[j]? = some t → args[j]? = some v → Value.okWide Try.prog W .any base t v := hval0
  have hsz : (DataW.weightsEach Try.prog (Try.f7.params.toList ++ Rows.wholeOrderSpec.plain.varTypes Try.prog) (ds ++ gs)).all (· ≤ reachBytes) = true := hsz0
  have hW' := hW
  obtain ⟨p, q, hA0, hV, rfl, hfz, hnd⟩ := hW
  have hA : DataW.TrodAll enc Try.prog W 0 (fun _ => true) true Try.f7.params.toList args.toList ds p := hA0
  rw [Try.params7] at hA hval hsz
  obtain ⟨v0, vs0, d0, ds0, p0, q0, hargs, rfl, rfl, h0, r0⟩ := trodAll_cons hA
  obtain ⟨v1, vs1, d1, ds1, p1, q1, rfl, rfl, rfl, h1, r1⟩ := trodAll_cons r0
  obtain ⟨rfl, rfl, rfl⟩ := trodAll_nil r1
  obtain rfl : args = #[v0, v1] := by cases args; simp_all
  obtain ⟨rfl, rfl⟩ := trodVars_none hV
  obtain ⟨a0, rfl, rfl, rfl, w0⟩ := open_int Try.underlying2 (hval 0 2 v0 rfl rfl) h0
  obtain ⟨a1, rfl, rfl, rfl, w1⟩ := open_int Try.underlying2 (hval 1 2 v1 rfl rfl) h1
  clear hA0 hval0 hsz0
  refine (walk a0 a1 W (wf_i64 w0) (wf_i64 w1)).mono fun e W' ⟨he, bel⟩ => ?_
  subst he
  exact ⟨_, rfl, _, _, _, [], _, [], hW', trodAll_mk1 (shut_bool Try.underlying4 _), (trodAll_cons_mk (shut_int Try.underlying2 w0) (trodAll_cons_mk (shut_int Try.underlying2 w1) trodAll_mk0)), rfl, Below.frame bel _, fun h => by cases h⟩

theorem over : Rows.wholeOrderRow.holds Try.pinned (OpenSpec.ofChange Rows.wholeOrderSpec) :=
  OpenClaim.holds_of_wide 7 Try.f7 rfl rfl rfl rfl rfl rfl rfl ⟨rfl, rfl, rfl, rfl, rfl⟩ rfl rfl rfl rfl rfl (by kernel_rfl) Try.func7 (by kernel_rfl)
    (of_decide_eq_true (by kernel_rfl)) (by unfold Func.isWrapper; first | (rw [if_pos (by decide +kernel)]; kernel_rfl) | (rw [if_neg (by decide +kernel)]; exact ⟨rfl, rfl⟩))
    (fun os started H enc _ => lifted os started H enc)

end Go.Proofs.Ytbljoohikhjdjaa.wholeOrderProof
namespace Go.Proofs.Ytbljoohikhjdjaa
theorem wholeOrder_holds : Rows.WholeOrderSaid := wholeOrderProof.over
#print axioms wholeOrder_holds
end Go.Proofs.Ytbljoohikhjdjaa
