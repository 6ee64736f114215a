/-
  Proved: for every three ints LogicKleene answers true: De Morgan's and Kleene's laws of And, Or and Not. No condition.
-/
import Derived.Test.YtppbmkkkjjkiiaaLBegun
namespace Go.Proofs.Ytppbmkkkjjkiiaa.logicKleeneProof
open Go.ChangeShapes Go.WideShapes Go.ChangeAt Go.RowKit
set_option linter.unusedVariables false
set_option maxRecDepth 100000

theorem and_eq (a b : Int) : LG.and a b = min (LG.kn a) (LG.kn b) := rfl
theorem or_eq (a b : Int) : LG.or a b = max (LG.kn a) (LG.kn b) := rfl

set_option maxHeartbeats 4000000 in
theorem walk (a b c : Int) (w : World) (ha : -9223372036854775808 ≤ a ∧ a ≤ 9223372036854775807) (hb : -9223372036854775808 ≤ b ∧ b ≤ 9223372036854775807) (hc : -9223372036854775808 ≤ c ∧ c ≤ 9223372036854775807) :
    Calls Try.prog 4 #[.int .i64 a, .int .i64 b, .int .i64 c] w fun e w' => e = .returned (.bool true) ∧ Fr w w' := by
  clear ha hb hc
  have ka := LG.kn_in a
  have kb := LG.kn_in b
  have kc := LG.kn_in c
  have e1 : (LG.not (LG.and a b) == LG.or (LG.not a) (LG.not b)) = true := by
    rw [beq_iff_eq, LG.not_kn, LG.kn_and, or_eq, LG.kn_not, LG.kn_not]; omega
  have e2 : (LG.not (LG.or a b) == LG.and (LG.not a) (LG.not b)) = true := by
    rw [beq_iff_eq, LG.not_kn, LG.kn_or, and_eq, LG.kn_not, LG.kn_not]; omega
  have e3 : (LG.and a (LG.or b c) == LG.or (LG.and a b) (LG.and a c)) = true := by
    rw [beq_iff_eq, and_eq, or_eq (LG.and a b), LG.kn_or, LG.kn_and, LG.kn_and]; omega
  have e4 : (LG.or a (LG.and b c) == LG.and (LG.or a b) (LG.or a c)) = true := by
    rw [beq_iff_eq, or_eq, and_eq (LG.or a b), LG.kn_and, LG.kn_or, LG.kn_or]; omega
  have e5 : (LG.and a (LG.or a b) == LG.not (LG.not a)) = true := by
    rw [beq_iff_eq, and_eq, LG.kn_or, LG.not_kn, LG.kn_not]; omega
  have e6 : (LG.or a (LG.and a b) == LG.not (LG.not a)) = true := by
    rw [beq_iff_eq, or_eq, LG.kn_and, LG.not_kn, LG.kn_not]; omega
  have e7 : (LG.and a b == LG.and b a) = true := by rw [beq_iff_eq, and_eq, and_eq]; omega
  have e8 : (LG.or a b == LG.or b a) = true := by rw [beq_iff_eq, or_eq, or_eq]; omega
  have e9 : (LG.and a (LG.and b c) == LG.and (LG.and a b) c) = true := by rw [beq_iff_eq, LG.and_assoc]
  have e10 : (LG.or a (LG.or b c) == LG.or (LG.or a b) c) = true := by rw [beq_iff_eq, LG.or_assoc]
  have e11 : ((LG.or a (LG.not a) == 2) == (LG.not (LG.not a) != 1)) = true := by
    rw [or_eq, LG.kn_not, LG.not_kn (LG.not a), LG.kn_not]
    rcases ka with h | h | h <;> rw [h] <;> decide
  have e12 : ((LG.and a (LG.not a) == 0) == (LG.not (LG.not a) != 1)) = true := by
    rw [and_eq, LG.kn_not, LG.not_kn (LG.not a), LG.kn_not]
    rcases ka with h | h | h <;> rw [h] <;> decide
  clear ka kb kc
  go_enter Try.func4, Try.ntmps4
  go_wp2_with (go_at_call 10; refine (logicBegun_any _).mono ?_)
  rintro _ w1 ⟨rfl, hf⟩
  have HF : Hid _ := hf
  clear hf
  go_wp2_with (first
    | (go_at_call 11; refine (and_any _ _ _).mono ?_; rintro _ w2 ⟨rfl, rfl⟩)
    | (go_at_call 13; refine (or_any _ _ _).mono ?_; rintro _ w2 ⟨rfl, rfl⟩)
    | (go_at_call 15; refine (not_any _ _).mono ?_; rintro _ w2 ⟨rfl, rfl⟩))
  all_goals (
    go_ret
    exact ⟨by first | rfl | (refine ret_bool ?_; simp_all), HF.out⟩)

set_option maxRecDepth 100000 in
theorem lifted (os : Os) (started : os.Started) (H : Type) (enc : TypeId × Value → H) :
    ReturnsInHanded {} Try.checked os 4 .any (Rows.logicKleeneSpec.pre6 enc Try.prog Try.f4 Rows.logicKleeneRow.domain false) (Rows.logicKleeneSpec.post enc Try.prog Try.f4 false true false false) := by
  refine returnsInHanded_of_change_sized (C := Try.checked) own started (by kernel_rfl) Try.func4
    (ChangeSpec.witness6 (enc := enc) (C := Try.checked) false ⟨#[], #[.int .i64 0, .int .i64 0, .int .i64 0], []⟩ 8 (by kernel_rfl) (by kernel_rfl) (by kernel_rfl) (by kernel_rfl)) ?_
  intro W base args ds gs before hval0 hW hcnd hsz0 _
  have hval : ∀ (j : Nat) t v, Try.f4.params[j]? = some t → args[j]? = some v → Value.okWide Try.prog W .any base t v := hval0
  have hsz : (DataW.weightsEach Try.prog (Try.f4.params.toList ++ Rows.logicKleeneSpec.plain.varTypes Try.prog) (ds ++ gs)).all (· ≤ reachBytes) = true := hsz0
  have hW' := hW
  obtain ⟨p, q, hA0, hV, rfl, hfz, hnd⟩ := hW
  have hA : DataW.TrodAll enc Try.prog W 0 (fun _ => true) true Try.f4.params.toList args.toList ds p := hA0
  rw [Try.params4] at hA hval hsz
  obtain ⟨v0, vs0, d0, ds0, p0, q0, hargs, rfl, rfl, h0, r0⟩ := trodAll_cons hA
  obtain ⟨v1, vs1, d1, ds1, p1, q1, rfl, rfl, rfl, h1, r1⟩ := trodAll_cons r0
  obtain ⟨v2, vs2, d2, ds2, p2, q2, rfl, rfl, rfl, h2, r2⟩ := trodAll_cons r1
  obtain ⟨rfl, rfl, rfl⟩ := trodAll_nil r2
  obtain rfl : args = #[v0, v1, v2] := by cases args; simp_all
  obtain ⟨rfl, rfl⟩ := trodVars_none hV
  obtain ⟨a0, rfl, rfl, rfl, w0⟩ := open_int Try.underlying3 (hval 0 3 v0 rfl rfl) h0
  obtain ⟨a1, rfl, rfl, rfl, w1⟩ := open_int Try.underlying3 (hval 1 3 v1 rfl rfl) h1
  obtain ⟨a2, rfl, rfl, rfl, w2⟩ := open_int Try.underlying3 (hval 2 3 v2 rfl rfl) h2
  clear hA0 hval0 hsz0
  refine (walk a0 a1 a2 W (wf_i64 w0) (wf_i64 w1) (wf_i64 w2)).mono fun e W' ⟨he, bel⟩ => ?_
  subst he
  exact ⟨_, rfl, _, _, _, [], _, [], hW', trodAll_mk1 (shut_bool Try.underlying4 _), (trodAll_cons_mk (shut_int Try.underlying3 w0) (trodAll_cons_mk (shut_int Try.underlying3 w1) (trodAll_cons_mk (shut_int Try.underlying3 w2) trodAll_mk0))), rfl, Below.frame bel _, fun h => by cases h⟩

theorem over : Rows.logicKleeneRow.holds Try.pinned (OpenSpec.ofChange Rows.logicKleeneSpec) :=
  OpenClaim.holds_of_wide 4 Try.f4 rfl rfl rfl rfl rfl rfl rfl ⟨rfl, rfl, rfl, rfl, rfl⟩ rfl rfl rfl rfl rfl (by kernel_rfl) Try.func4 (by kernel_rfl)
    (of_decide_eq_true (by kernel_rfl)) (by unfold Func.isWrapper; first | (rw [if_pos (by decide +kernel)]; kernel_rfl) | (rw [if_neg (by decide +kernel)]; exact ⟨rfl, rfl⟩))
    (fun os started H enc _ => lifted os started H enc)

end Go.Proofs.Ytppbmkkkjjkiiaa.logicKleeneProof
namespace Go.Proofs.Ytppbmkkkjjkiiaa
theorem logicKleene_holds : Rows.LogicKleeneSaid := logicKleeneProof.over
#print axioms logicKleene_holds
end Go.Proofs.Ytppbmkkkjjkiiaa
