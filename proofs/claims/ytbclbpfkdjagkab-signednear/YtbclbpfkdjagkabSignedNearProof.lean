/-
  Proved: for every two int64 SignedNear answers true: what is nearer to 0 has the lesser Zig, and of n and -n that of the number below 0 is one less. No condition.
-/
import Derived.Test.YtbclbpfkdjagkabBegun
import Derived.Deep.RegionHeld3
namespace Go.Proofs.Ytbclbpfkdjagkab.signedNearProof
open Go.ChangeShapes Go.WideShapes Go.ChangeAt Go.RowKit
open Go.ChangeMaps (open_string shut_string)
set_option linter.unusedVariables false

theorem zig_pos {n : Int} (h : 0 ≤ n) : zigN n = 2 * n := if_pos h
theorem zig_neg {n : Int} (h : n < 0) : zigN n = -2 * n - 1 := if_neg (by omega)

set_option maxRecDepth 100000 in
set_option maxHeartbeats 1000000 in
theorem walk (a b : Int) (w : World) (ha : -9223372036854775808 ≤ a ∧ a ≤ 9223372036854775807) (hb : -9223372036854775808 ≤ b ∧ b ≤ 9223372036854775807) :
    Calls Try.prog 4 #[.int .i64 a, .int .i64 b] w fun e w' => e = .returned (.bool true) ∧ Fr w w' := by
  obtain ⟨ha0, ha1⟩ := ha
  obtain ⟨hb0, hb1⟩ := hb
  by_cases h1 : 0 ≤ a
  · have za := zig_pos h1
    by_cases h2 : 0 ≤ b
    · have zb := zig_pos h2
      by_cases h3 : a < b
      · go_enter Try.func4, Try.ntmps4
        go_wp2_with (first
          | (go_at_call 13; refine (zig_any _ _ (by omega) (by omega)).mono ?_; rintro e w' ⟨rfl, rfl⟩)
          | (go_at_call 11; refine (numBegun_any _).mono ?_; rintro e w' ⟨rfl, hb⟩))
        go_ret
        exact ⟨by first | rfl | (refine ret_bool ?_; simp; omega), by repeat (first | exact Fr.refl _ | assumption | refine Fr.trans ?_ (by assumption))⟩
      · go_enter Try.func4, Try.ntmps4
        go_wp2_with (first
          | (go_at_call 13; refine (zig_any _ _ (by omega) (by omega)).mono ?_; rintro e w' ⟨rfl, rfl⟩)
          | (go_at_call 11; refine (numBegun_any _).mono ?_; rintro e w' ⟨rfl, hb⟩))
        go_ret
        exact ⟨by first | rfl | (refine ret_bool ?_; simp; omega), by repeat (first | exact Fr.refl _ | assumption | refine Fr.trans ?_ (by assumption))⟩
    · have zb := zig_neg (show b < 0 by omega)
      have hne : (zigN a != zigN b) = true := by rw [za, zb, bne_iff_ne]; omega
      by_cases h3 : a ≤ 0
      · go_enter Try.func4, Try.ntmps4
        go_wp2_with (first
          | (go_at_call 13; refine (zig_any _ _ (by omega) (by omega)).mono ?_; rintro e w' ⟨rfl, rfl⟩)
          | (go_at_call 11; refine (numBegun_any _).mono ?_; rintro e w' ⟨rfl, hb⟩))
        go_ret
        exact ⟨by first | rfl | (refine ret_bool ?_; simp; omega), by repeat (first | exact Fr.refl _ | assumption | refine Fr.trans ?_ (by assumption))⟩
      · have zm := zig_neg (show -a < 0 by omega)
        have h3' : 0 < a := by omega
        go_enter Try.func4, Try.ntmps4
        go_wp2_with (first
          | (go_at_call 13; refine (zig_any _ _ (by omega) (by omega)).mono ?_; rintro e w' ⟨rfl, rfl⟩)
          | (go_at_call 11; refine (numBegun_any _).mono ?_; rintro e w' ⟨rfl, hb⟩))
        go_ret
        exact ⟨by first | rfl | (refine ret_bool ?_; simp; omega), by repeat (first | exact Fr.refl _ | assumption | refine Fr.trans ?_ (by assumption))⟩
  · have za := zig_neg (show a < 0 by omega)
    have h1' : a < 0 := by omega
    by_cases h2 : 0 ≤ b
    · have zb := zig_pos h2
      have hne : (zigN a != zigN b) = true := by rw [za, zb, bne_iff_ne]; omega
      go_enter Try.func4, Try.ntmps4
      go_wp2_with (first
        | (go_at_call 13; refine (zig_any _ _ (by omega) (by omega)).mono ?_; rintro e w' ⟨rfl, rfl⟩)
        | (go_at_call 11; refine (numBegun_any _).mono ?_; rintro e w' ⟨rfl, hb⟩))
      go_ret
      exact ⟨by first | rfl | (refine ret_bool ?_; simp; omega), by repeat (first | exact Fr.refl _ | assumption | refine Fr.trans ?_ (by assumption))⟩
    · have zb := zig_neg (show b < 0 by omega)
      have h2' : b < 0 := by omega
      have hd : (decide (0 ≤ a) == decide (0 ≤ b)) = true := by rw [decide_eq_false (by omega), decide_eq_false (by omega)]; rfl
      by_cases h3 : b < a
      · go_enter Try.func4, Try.ntmps4
        go_wp2_with (first
          | (go_at_call 13; refine (zig_any _ _ (by omega) (by omega)).mono ?_; rintro e w' ⟨rfl, rfl⟩)
          | (go_at_call 11; refine (numBegun_any _).mono ?_; rintro e w' ⟨rfl, hb⟩))
        go_ret
        exact ⟨by first | rfl | (refine ret_bool ?_; simp; omega), by repeat (first | exact Fr.refl _ | assumption | refine Fr.trans ?_ (by assumption))⟩
      · go_enter Try.func4, Try.ntmps4
        go_wp2_with (first
          | (go_at_call 13; refine (zig_any _ _ (by omega) (by omega)).mono ?_; rintro e w' ⟨rfl, rfl⟩)
          | (go_at_call 11; refine (numBegun_any _).mono ?_; rintro e w' ⟨rfl, hb⟩))
        go_ret
        exact ⟨by first | rfl | (refine ret_bool ?_; simp; omega), by repeat (first | exact Fr.refl _ | assumption | refine Fr.trans ?_ (by assumption))⟩

set_option maxRecDepth 100000 in
theorem lifted (os : Os) (started : os.Started) (H : Type) (enc : TypeId × Value → H) :
    ReturnsInHanded {} Try.checked os 4 .any (Rows.signedNearSpec.pre6 enc Try.prog Try.f4 Rows.signedNearRow.domain false) (Rows.signedNearSpec.post enc Try.prog Try.f4 false true false false) := by
  refine returnsInHanded_of_change_sized (C := Try.checked) own started (by kernel_rfl) Try.func4
    (ChangeSpec.witness6 (enc := enc) (C := Try.checked) false ⟨#[], #[.int .i64 0, .int .i64 0], []⟩ 8 (by kernel_rfl) (by kernel_rfl) (by kernel_rfl) (by kernel_rfl)) ?_
  intro W base args ds gs before hval0 hW hcnd hsz0 _
  have hval : ∀ (j : Nat) t v, Try.f4.params[j]? = some t → args[j]? = some v → Value.okWide Try.prog W .any base t v := hval0
  have hsz : (DataW.weightsEach Try.prog (Try.f4.params.toList ++ Rows.signedNearSpec.plain.varTypes Try.prog) (ds ++ gs)).all (· ≤ reachBytes) = true := hsz0
  have hW' := hW
  obtain ⟨p, q, hA0, hV, rfl, hfz, hnd⟩ := hW
  have hA : DataW.TrodAll enc Try.prog W 0 (fun _ => true) true Try.f4.params.toList args.toList ds p := hA0
  rw [Try.params4] at hA hval hsz
  obtain ⟨v0, vs0, d0, ds0, p0, q0, hargs, rfl, rfl, h0, r0⟩ := trodAll_cons hA
  obtain ⟨v1, vs1, d1, ds1, p1, q1, rfl, rfl, rfl, h1, r1⟩ := trodAll_cons r0
  obtain ⟨rfl, rfl, rfl⟩ := trodAll_nil r1
  obtain rfl : args = #[v0, v1] := by cases args; simp_all
  obtain ⟨rfl, rfl⟩ := trodVars_none hV
  obtain ⟨a0, rfl, rfl, rfl, w0⟩ := open_int Try.underlying2 (hval 0 2 v0 rfl rfl) h0
  obtain ⟨a1, rfl, rfl, rfl, w1⟩ := open_int Try.underlying2 (hval 1 2 v1 rfl rfl) h1
  clear hA0 hval0 hsz0
  refine (walk a0 a1 W (wf_i64 w0) (wf_i64 w1)).mono fun e W' ⟨he, bel⟩ => ?_
  subst he
  exact ⟨_, rfl, _, _, _, [], _, [], hW', trodAll_mk1 (shut_bool Try.underlying4 _), (trodAll_cons_mk (shut_int Try.underlying2 w0) (trodAll_cons_mk (shut_int Try.underlying2 w1) trodAll_mk0)), rfl, Below.frame bel _, fun h => by cases h⟩

theorem over : Rows.signedNearRow.holds Try.pinned (OpenSpec.ofChange Rows.signedNearSpec) :=
  OpenClaim.holds_of_wide 4 Try.f4 rfl rfl rfl rfl rfl rfl rfl ⟨rfl, rfl, rfl, rfl, rfl⟩ rfl rfl rfl rfl rfl (by kernel_rfl) Try.func4 (by kernel_rfl)
    (of_decide_eq_true (by kernel_rfl)) (by unfold Func.isWrapper; first | (rw [if_pos (by decide +kernel)]; kernel_rfl) | (rw [if_neg (by decide +kernel)]; exact ⟨rfl, rfl⟩))
    (fun os started H enc _ => lifted os started H enc)

end Go.Proofs.Ytbclbpfkdjagkab.signedNearProof
namespace Go.Proofs.Ytbclbpfkdjagkab
theorem signedNear_holds : Rows.SignedNearSaid := signedNearProof.over
#print axioms signedNear_holds
end Go.Proofs.Ytbclbpfkdjagkab
