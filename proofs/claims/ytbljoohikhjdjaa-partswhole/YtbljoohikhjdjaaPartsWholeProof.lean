/-
  Proved: for every two int64 PartsWhole answers true: a is b times its Div, and its Mod; what is left is nearer to 0 than b, and of a's sign. No condition.
-/
import Derived.Test.YtbljoohikhjdjaaWBegun
namespace Go.Proofs.Ytbljoohikhjdjaa.partsWholeProof
open Go.ChangeShapes Go.WideShapes Go.ChangeAt Go.RowKit
set_option linter.unusedVariables false
set_option maxRecDepth 100000

set_option maxHeartbeats 4000000 in
theorem core (a b q r p : Int) (w : World)
    (c1 : ∀ W, Calls Try.prog 19 #[.int .i64 a, .int .i64 b] W fun y w' => y = .returned (.tuple #[.int .i64 q, .int .i64 0]) ∧ w' = W)
    (c2 : ∀ W, Calls Try.prog 20 #[.int .i64 a, .int .i64 b] W fun y w' => y = .returned (.tuple #[.int .i64 r, .int .i64 0]) ∧ w' = W)
    (c3 : ∀ W, Calls Try.prog 13 #[.int .i64 q, .int .i64 b] W fun y w' => y = .returned (.tuple #[.int .i64 p, .int .i64 0]) ∧ w' = W)
    (c4 : ∀ W, Calls Try.prog 11 #[.int .i64 p, .int .i64 r] W fun y w' => y = .returned (.tuple #[.int .i64 a, .int .i64 0]) ∧ w' = W)
    (hz : (b == 0) = false)
    (hb : (0 < b ∧ 0 ≤ b ∧ -b < r ∧ r < b ∧ wrap64 (-b) = -b) ∨ (b < 0 ∧ (b == -9223372036854775808) = false ∧ b < r ∧ r < -b ∧ wrap64 (-b) = -b) ∨ (b = -9223372036854775808 ∧ -9223372036854775808 < r))
    (hr : r = 0 ∨ ((r == 0) = false ∧ r < 0 ∧ a < 0) ∨ ((r == 0) = false ∧ 0 < r ∧ 0 < a)) :
    Calls Try.prog 5 #[.int .i64 a, .int .i64 b] w fun x w' => x = .returned (.bool true) ∧ Fr w w' := by
  rcases hb with ⟨h1, h2, h3, h4, h5⟩ | ⟨h1, h2, h3, h4, h5⟩ | ⟨rfl, h1⟩ <;> rcases hr with rfl | ⟨k0, k1, k2⟩ | ⟨k0, k1, k2⟩
  all_goals (
    go_enter Try.func5, Try.ntmps5
    go_wp2_with (go_at_call 19; refine (c1 _).mono ?_)
    rintro _ w1 ⟨rfl, rfl⟩
    go_wp2_with (go_at_call 20; refine (c2 _).mono ?_)
    rintro _ w1 ⟨rfl, rfl⟩
    go_wp2_with (go_at_call 18; refine (wholeBegun_any _).mono ?_)
    rintro _ w2 ⟨rfl, hfr⟩
    go_wp2_with (go_at_call 13; refine (c3 _).mono ?_)
    rintro _ w3 ⟨rfl, rfl⟩
    go_wp2_with (go_at_call 11; refine (c4 _).mono ?_)
    rintro _ w3 ⟨rfl, rfl⟩
    go_wp2_with fail
    go_ret
    refine ⟨?_, hfr⟩
    first | rfl | (refine ret_bool ?_; simp_all; try omega))

set_option maxHeartbeats 4000000 in
theorem nought (a : Int) (w : World)
    (c1 : ∀ W, Calls Try.prog 19 #[.int .i64 a, .int .i64 0] W fun y w' => y = .returned (.tuple #[.int .i64 0, .int .i64 9]) ∧ w' = W)
    (c2 : ∀ W, Calls Try.prog 20 #[.int .i64 a, .int .i64 0] W fun y w' => y = .returned (.tuple #[.int .i64 0, .int .i64 9]) ∧ w' = W) :
    Calls Try.prog 5 #[.int .i64 a, .int .i64 0] w fun x w' => x = .returned (.bool true) ∧ Fr w w' := by
  go_enter Try.func5, Try.ntmps5
  go_wp2_with (go_at_call 19; refine (c1 _).mono ?_)
  rintro _ w1 ⟨rfl, rfl⟩
  go_wp2_with (go_at_call 20; refine (c2 _).mono ?_)
  rintro _ w1 ⟨rfl, rfl⟩
  go_wp2_with (go_at_call 18; refine (wholeBegun_any _).mono ?_)
  rintro _ w2 ⟨rfl, hfr⟩
  go_wp2_with fail
  go_ret
  exact ⟨rfl, hfr⟩

set_option maxHeartbeats 4000000 in
theorem edge (w : World)
    (c1 : ∀ W, Calls Try.prog 19 #[.int .i64 (-9223372036854775808), .int .i64 (-1)] W fun y w' => y = .returned (.tuple #[.int .i64 0, .int .i64 8]) ∧ w' = W)
    (c2 : ∀ W, Calls Try.prog 20 #[.int .i64 (-9223372036854775808), .int .i64 (-1)] W fun y w' => y = .returned (.tuple #[.int .i64 0, .int .i64 0]) ∧ w' = W) :
    Calls Try.prog 5 #[.int .i64 (-9223372036854775808), .int .i64 (-1)] w fun x w' => x = .returned (.bool true) ∧ Fr w w' := by
  go_enter Try.func5, Try.ntmps5
  go_wp2_with (go_at_call 19; refine (c1 _).mono ?_)
  rintro _ w1 ⟨rfl, rfl⟩
  go_wp2_with (go_at_call 20; refine (c2 _).mono ?_)
  rintro _ w1 ⟨rfl, rfl⟩
  go_wp2_with (go_at_call 18; refine (wholeBegun_any _).mono ?_)
  rintro _ w2 ⟨rfl, hfr⟩
  go_wp2_with fail
  go_ret
  exact ⟨rfl, hfr⟩

theorem walk (a b : Int) (w : World) (ha : -9223372036854775808 ≤ a ∧ a ≤ 9223372036854775807) (hb : -9223372036854775808 ≤ b ∧ b ≤ 9223372036854775807) :
    Calls Try.prog 5 #[.int .i64 a, .int .i64 b] w fun e w' => e = .returned (.bool true) ∧ Fr w w' := by
  have c1 := fun W => div_any a b W ha hb
  have c2 := fun W => mod_any a b W ha hb
  by_cases h0 : b = 0
  · subst h0
    unfold divTwo at c1
    unfold modTwo at c2
    rw [if_pos rfl] at c1 c2
    exact nought a w c1 c2
  unfold divTwo at c1
  unfold modTwo at c2
  rw [if_neg h0] at c1 c2
  by_cases h1 : b = -1 ∧ a = -9223372036854775808
  · obtain ⟨rfl, rfl⟩ := h1
    rw [tdiv_minus, two_over (by omega)] at c1
    rw [Int.tmod_neg, Int.tmod_one] at c2
    exact edge w c1 c2
  · have hq : WH.Ok (a.tdiv b) := by
      by_cases h2 : b = -1
      · subst h2
        rw [tdiv_minus]
        exact ⟨by omega, by omega⟩
      · exact WH.tdiv_Ok ha h0 h2
    have hr := tmod_Ok ha h0
    obtain ⟨e, s1, s2, n1, n2⟩ := WH.tmod_near a b h0
    rw [Int.mul_comm] at e
    have hp : WH.Ok (a.tdiv b * b) := by
      obtain ⟨a0, a1⟩ := ha
      have h5 : (a.tmod b).natAbs ≤ a.natAbs := by rw [Int.natAbs_tmod]; exact Nat.mod_le _ _
      generalize a.tdiv b * b = p at *
      generalize a.tmod b = r at *
      unfold WH.Ok
      by_cases h : 0 ≤ a
      · have := s1 h; omega
      · have := s2 (by omega); omega
    have c3 := fun W => mul_any (a.tdiv b) b W hq hb
    have c4 := fun W => add_any (a.tdiv b * b) (a.tmod b) W hp hr
    rw [e] at c4
    unfold two at c1 c3 c4
    rw [WH.val_ok hq, WH.err_ok hq] at c1
    rw [WH.val_ok hp, WH.err_ok hp] at c3
    rw [WH.val_ok ha, WH.err_ok ha] at c4
    refine core a b _ _ _ w c1 c2 c3 c4 (by simp; omega) ?_ ?_
    · rcases Int.lt_or_gt_of_ne h0 with hn | hn
      · have := n2 hn
        by_cases hm : b = -9223372036854775808
        · subst hm
          exact Or.inr (Or.inr ⟨rfl, this.1⟩)
        · exact Or.inr (Or.inl ⟨hn, by simp; omega, this.1, this.2, WH.wrap_ok ⟨by omega, by omega⟩⟩)
      · have := n1 hn
        exact Or.inl ⟨hn, by omega, this.1, this.2, WH.wrap_ok ⟨by omega, by omega⟩⟩
    · generalize a.tmod b = r at *
      rcases Int.lt_trichotomy r 0 with h | h | h
      · refine Or.inr (Or.inl ⟨by simp; omega, h, ?_⟩)
        have := s1
        omega
      · exact Or.inl h
      · refine Or.inr (Or.inr ⟨by simp; omega, h, ?_⟩)
        have := s2
        omega

set_option maxRecDepth 100000 in
theorem lifted (os : Os) (started : os.Started) (H : Type) (enc : TypeId × Value → H) :
    ReturnsInHanded {} Try.checked os 5 .any (Rows.partsWholeSpec.pre6 enc Try.prog Try.f5 Rows.partsWholeRow.domain false) (Rows.partsWholeSpec.post enc Try.prog Try.f5 false true false false) := by
  refine returnsInHanded_of_change_sized (C := Try.checked) own started (by kernel_rfl) Try.func5
    (ChangeSpec.witness6 (enc := enc) (C := Try.checked) false ⟨#[], #[.int .i64 0, .int .i64 0], []⟩ 8 (by kernel_rfl) (by kernel_rfl) (by kernel_rfl) (by kernel_rfl)) ?_
  intro W base args ds gs before hval0 hW hcnd hsz0 _
  have hval : ∀ (j : Nat) t v, Try.f5.params[j]? = some t → args[j]? = some v → Value.okWide Try.prog W .any base t v := hval0
  have hsz : (DataW.weightsEach Try.prog (Try.f5.params.toList ++ Rows.partsWholeSpec.plain.varTypes Try.prog) (ds ++ gs)).all (· ≤ reachBytes) = true := hsz0
  have hW' := hW
  obtain ⟨p, q, hA0, hV, rfl, hfz, hnd⟩ := hW
  have hA : DataW.TrodAll enc Try.prog W 0 (fun _ => true) true Try.f5.params.toList args.toList ds p := hA0
  rw [Try.params5] at hA hval hsz
  obtain ⟨v0, vs0, d0, ds0, p0, q0, hargs, rfl, rfl, h0, r0⟩ := trodAll_cons hA
  obtain ⟨v1, vs1, d1, ds1, p1, q1, rfl, rfl, rfl, h1, r1⟩ := trodAll_cons r0
  obtain ⟨rfl, rfl, rfl⟩ := trodAll_nil r1
  obtain rfl : args = #[v0, v1] := by cases args; simp_all
  obtain ⟨rfl, rfl⟩ := trodVars_none hV
  obtain ⟨a0, rfl, rfl, rfl, w0⟩ := open_int Try.underlying2 (hval 0 2 v0 rfl rfl) h0
  obtain ⟨a1, rfl, rfl, rfl, w1⟩ := open_int Try.underlying2 (hval 1 2 v1 rfl rfl) h1
  clear hA0 hval0 hsz0
  refine (walk a0 a1 W (wf_i64 w0) (wf_i64 w1)).mono fun e W' ⟨he, bel⟩ => ?_
  subst he
  exact ⟨_, rfl, _, _, _, [], _, [], hW', trodAll_mk1 (shut_bool Try.underlying4 _), (trodAll_cons_mk (shut_int Try.underlying2 w0) (trodAll_cons_mk (shut_int Try.underlying2 w1) trodAll_mk0)), rfl, Below.frame bel _, fun h => by cases h⟩

theorem over : Rows.partsWholeRow.holds Try.pinned (OpenSpec.ofChange Rows.partsWholeSpec) :=
  OpenClaim.holds_of_wide 5 Try.f5 rfl rfl rfl rfl rfl rfl rfl ⟨rfl, rfl, rfl, rfl, rfl⟩ rfl rfl rfl rfl rfl (by kernel_rfl) Try.func5 (by kernel_rfl)
    (of_decide_eq_true (by kernel_rfl)) (by unfold Func.isWrapper; first | (rw [if_pos (by decide +kernel)]; kernel_rfl) | (rw [if_neg (by decide +kernel)]; exact ⟨rfl, rfl⟩))
    (fun os started H enc _ => lifted os started H enc)

end Go.Proofs.Ytbljoohikhjdjaa.partsWholeProof
namespace Go.Proofs.Ytbljoohikhjdjaa
theorem partsWhole_holds : Rows.PartsWholeSaid := partsWholeProof.over
#print axioms partsWhole_holds
end Go.Proofs.Ytbljoohikhjdjaa
