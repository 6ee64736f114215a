/-
  Proved: for every two numbers of 64 bits NumLess answers true: the lesser of two numbers has no more bytes, none has more than ten, and one digit more is 128 times as much. No condition.
-/
import Derived.Test.YtbclbpfkdjagkaaBegun
namespace Go.Proofs.Ytbclbpfkdjagkaa.numLessProof
open Go.ChangeShapes Go.WideShapes Go.ChangeAt Go.RowKit
open Go.ChangeMaps (open_string shut_string)
set_option linter.unusedVariables false

set_option maxRecDepth 100000 in
set_option maxHeartbeats 1000000 in
theorem walk (a b : Int) (w : World) (ha : 0 ≤ a ∧ a ≤ 18446744073709551615) (hb : 0 ≤ b ∧ b ≤ 18446744073709551615) :
    Calls Try.prog 7 #[.int .u64 a, .int .u64 b] w fun e w' => e = .returned (.bool true) ∧ Fr w w' := by
  obtain ⟨ha0, ha1⟩ := ha
  obtain ⟨hb0, hb1⟩ := hb
  have la : ((NM.enc a.toNat).length : Int) ≤ 10 := by have := NM.enc_ten (n := a.toNat) (by omega); omega
  have lb : ((NM.enc b.toNat).length : Int) ≤ 10 := by have := NM.enc_ten (n := b.toNat) (by omega); omega
  have lt : 128 ≤ a → (((NM.enc (a / 128).toNat).length : Int) == ((NM.enc a.toNat).length : Int) - 1) = true := by
    intro h
    have h1 := NM.enc_tail (a := a.toNat) (by omega)
    have h2 := NM.enc_pos a.toNat
    rw [show (a / 128).toNat = a.toNat / 128 by omega, beq_iff_eq]
    omega
  have HM : Hid _ := fun h : a ≤ b => NM.enc_mono b.toNat a.toNat (by omega)
  by_cases h1 : a < 128
  · clear lt
    by_cases h : b < a
    · go_enter Try.func7, Try.ntmps7
      go_wp2_with (first
        | (go_at_call 12; refine (write_int _ _ (by omega) (by omega)).mono ?_; rintro e w' ⟨rfl, hb⟩)
        | (go_at_call 11; refine (numBegun_any _).mono ?_; rintro e w' ⟨rfl, hb⟩))
      go_ret
      exact ⟨rfl, by repeat (first | exact Fr.refl _ | assumption | refine Fr.trans ?_ (by assumption))⟩
    · have hm : ((NM.enc a.toNat).length : Int) ≤ ((NM.enc b.toNat).length : Int) := by have := HM.out (by omega); omega
      go_enter Try.func7, Try.ntmps7
      go_wp2_with (first
        | (go_at_call 12; refine (write_int _ _ (by omega) (by omega)).mono ?_; rintro e w' ⟨rfl, hb⟩)
        | (go_at_call 11; refine (numBegun_any _).mono ?_; rintro e w' ⟨rfl, hb⟩))
      go_ret
      exact ⟨rfl, by repeat (first | exact Fr.refl _ | assumption | refine Fr.trans ?_ (by assumption))⟩
  · have lt' := lt (by omega)
    clear lt
    have h1' : 128 ≤ a := by omega
    by_cases h : b < a
    · go_enter Try.func7, Try.ntmps7
      go_wp2_with (first
        | (go_at_call 12; refine (write_int _ _ (by omega) (by omega)).mono ?_; rintro e w' ⟨rfl, hb⟩)
        | (go_at_call 11; refine (numBegun_any _).mono ?_; rintro e w' ⟨rfl, hb⟩))
      go_ret
      exact ⟨rfl, by repeat (first | exact Fr.refl _ | assumption | refine Fr.trans ?_ (by assumption))⟩
    · have hm : ((NM.enc a.toNat).length : Int) ≤ ((NM.enc b.toNat).length : Int) := by have := HM.out (by omega); omega
      go_enter Try.func7, Try.ntmps7
      go_wp2_with (first
        | (go_at_call 12; refine (write_int _ _ (by omega) (by omega)).mono ?_; rintro e w' ⟨rfl, hb⟩)
        | (go_at_call 11; refine (numBegun_any _).mono ?_; rintro e w' ⟨rfl, hb⟩))
      go_ret
      exact ⟨rfl, by repeat (first | exact Fr.refl _ | assumption | refine Fr.trans ?_ (by assumption))⟩

set_option maxRecDepth 100000 in
theorem lifted (os : Os) (started : os.Started) (H : Type) (enc : TypeId × Value → H) :
    ReturnsInHanded {} Try.checked os 7 .any (Rows.numLessSpec.pre6 enc Try.prog Try.f7 Rows.numLessRow.domain false) (Rows.numLessSpec.post enc Try.prog Try.f7 false true false false) := by
  refine returnsInHanded_of_change_sized (C := Try.checked) own started (by kernel_rfl) Try.func7
    (ChangeSpec.witness6 (enc := enc) (C := Try.checked) false ⟨#[], #[.int .u64 0, .int .u64 0], []⟩ 8 (by kernel_rfl) (by kernel_rfl) (by kernel_rfl) (by kernel_rfl)) ?_
  intro W base args ds gs before hval0 hW hcnd hsz0 _
  have hval : ∀ (j : Nat) t v, Try.f7.params[j]? = some t → args[j]? = some v → Value.okWide Try.prog W .any base t v := hval0
  have hsz : (DataW.weightsEach Try.prog (Try.f7.params.toList ++ Rows.numLessSpec.plain.varTypes Try.prog) (ds ++ gs)).all (· ≤ reachBytes) = true := hsz0
  have hW' := hW
  obtain ⟨p, q, hA0, hV, rfl, hfz, hnd⟩ := hW
  have hA : DataW.TrodAll enc Try.prog W 0 (fun _ => true) true Try.f7.params.toList args.toList ds p := hA0
  rw [Try.params7] at hA hval hsz
  obtain ⟨v0, vs0, d0, ds0, p0, q0, hargs, rfl, rfl, h0, r0⟩ := trodAll_cons hA
  obtain ⟨v1, vs1, d1, ds1, p1, q1, rfl, rfl, rfl, h1, r1⟩ := trodAll_cons r0
  obtain ⟨rfl, rfl, rfl⟩ := trodAll_nil r1
  obtain rfl : args = #[v0, v1] := by cases args; simp_all
  obtain ⟨rfl, rfl⟩ := trodVars_none hV
  obtain ⟨a0, rfl, rfl, rfl, w0⟩ := open_int Try.underlying22 (hval 0 22 v0 rfl rfl) h0
  obtain ⟨a1, rfl, rfl, rfl, w1⟩ := open_int Try.underlying22 (hval 1 22 v1 rfl rfl) h1
  clear hA0 hval0 hsz0
  refine (walk a0 a1 W (wf_u64 w0) (wf_u64 w1)).mono fun e W' ⟨he, bel⟩ => ?_
  subst he
  exact ⟨_, rfl, _, _, _, [], _, [], hW', trodAll_mk1 (shut_bool Try.underlying4 _), (trodAll_cons_mk (shut_int Try.underlying22 w0) (trodAll_cons_mk (shut_int Try.underlying22 w1) trodAll_mk0)), rfl, Below.frame bel _, fun h => by cases h⟩

theorem over : Rows.numLessRow.holds Try.pinned (OpenSpec.ofChange Rows.numLessSpec) :=
  OpenClaim.holds_of_wide 7 Try.f7 rfl rfl rfl rfl rfl rfl rfl ⟨rfl, rfl, rfl, rfl, rfl⟩ rfl rfl rfl rfl rfl (by kernel_rfl) Try.func7 (by kernel_rfl)
    (of_decide_eq_true (by kernel_rfl)) (by unfold Func.isWrapper; first | (rw [if_pos (by decide +kernel)]; kernel_rfl) | (rw [if_neg (by decide +kernel)]; exact ⟨rfl, rfl⟩))
    (fun os started H enc _ => lifted os started H enc)

end Go.Proofs.Ytbclbpfkdjagkaa.numLessProof
namespace Go.Proofs.Ytbclbpfkdjagkaa
theorem numLess_holds : Rows.NumLessSaid := numLessProof.over
#print axioms numLess_holds
end Go.Proofs.Ytbclbpfkdjagkaa
