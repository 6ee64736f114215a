/-
  Proved: for every text, place and mask SumBurst answers true: bits that are turned within 32 in a row give another sum. No condition but the form's own reach.
-/
import Derived.Test.YtbclbpfkdjagkacTurned
namespace Go.Proofs.Ytbclbpfkdjagkac.sumBurstProof
open Go.ChangeShapes Go.WideShapes Go.ChangeAt Go.RowKit
open Go.ChangeMaps (open_string shut_string)
set_option linter.unusedVariables false

set_option maxRecDepth 100000 in
set_option maxHeartbeats 1000000 in
theorem core (s t : ByteArray) (at_ mask : Int) (A B : Nat) (w : World) (hs : s.size ≤ 140737488351232) (ht : t.size ≤ 140737488351232)
    (hT : Hid (Calls Try.prog 11 #[.string s, .int .i64 at_, .int .u32 mask] w fun e w' => e = .returned (.string t) ∧ Fr w w'))
    (e1 : Hid (SM.more 0 s.data.toList = A)) (e2 : Hid (SM.more 0 t.data.toList = B)) (h3 : Hid (((s.toList == t.toList) == ((A : Int) == (B : Int))) = true)) :
    Calls Try.prog 5 #[.string s, .int .i64 at_, .int .u32 mask] w fun e w' => e = .returned (.bool true) ∧ Fr w w' := by
  have HS : Hid (s.size ≤ maxLen) := by unfold Hid maxLen; omega
  have HT : Hid (t.size ≤ maxLen) := by unfold Hid maxLen; omega
  go_enter Try.func5, Try.ntmps5
  go_wp2_with fail
  refine hT.out.mono ?_
  rintro e w1 ⟨rfl, hb⟩
  go_wp2_with fail
  refine (sumBegun_any _).mono ?_
  rintro e w' ⟨rfl, rfl⟩
  go_wp2_with fail
  refine (of_named _ _ _ HS.out e1.out).mono ?_
  rintro e w' ⟨rfl, rfl⟩
  go_wp2_with fail
  refine (of_named _ _ _ HT.out e2.out).mono ?_
  rintro e w' ⟨rfl, rfl⟩
  go_wp2_with fail
  go_ret
  exact ⟨ret_bool h3.out, hb⟩

theorem eq_test (s t : ByteArray) (A B : Nat) (h : s.data.toList = t.data.toList ↔ A = B) : ((s.toList == t.toList) == ((A : Int) == (B : Int))) = true := by
  rw [ByteArray.toList_eq, ByteArray.toList_eq]
  by_cases c : A = B
  · have h1 := h.2 c
    rw [h1, c]; simp
  · have e1 : (s.data.toList == t.data.toList) = false := by rw [beq_eq_false_iff_ne]; exact fun e => c (h.1 e)
    have e2 : ((A : Int) == (B : Int)) = false := by rw [beq_eq_false_iff_ne]; omega
    rw [e1, e2]; rfl

theorem walk (s : ByteArray) (a m : Int) (w : World) (hs : s.size ≤ 140737488351232) (ha : -9223372036854775808 ≤ a ∧ a ≤ 9223372036854775807) (hm : 0 ≤ m ∧ m ≤ 4294967295) :
    Calls Try.prog 5 #[.string s, .int .i64 a, .int .u32 m] w fun e w' => e = .returned (.bool true) ∧ Fr w w' := by
  by_cases h : a < 0 ∨ 8 * (s.size : Int) ≤ a
  · exact core s s a m _ _ w hs hs (turned_out s a m w hs h) rfl rfl (eq_test s s _ _ ⟨fun _ => rfl, fun _ => rfl⟩)
  · obtain ⟨at_, rfl⟩ := Int.eq_ofNat_of_zero_le (show 0 ≤ a by omega)
    obtain ⟨mask, rfl⟩ := Int.eq_ofNat_of_zero_le hm.1
    have hl := SM.turned_len s.data.toList at_ mask 32
    have h0 : (0 : Nat) < 4294967296 := by omega
    refine core s ⟨(SM.turned s.data.toList at_ mask 32).toArray⟩ at_ mask _ _ w hs ?_ (turned_in s at_ mask w hs (by omega) (by omega)) rfl rfl (eq_test s _ _ _ ⟨fun e => ?_, fun e => ?_⟩)
    · have : (⟨(SM.turned s.data.toList at_ mask 32).toArray⟩ : ByteArray).size = (SM.turned s.data.toList at_ mask 32).length := by simp [ByteArray.size]
      rw [this, hl]; simpa using hs
    · rw [← e]
    · exact SM.turned_told h0 s.data.toList at_ mask (by simp; omega) e

set_option maxRecDepth 100000 in
theorem lifted (os : Os) (started : os.Started) (H : Type) (enc : TypeId × Value → H) :
    ReturnsInHanded {} Try.checked os 5 .any (Rows.sumBurstSpec.pre6 enc Try.prog Try.f5 Rows.sumBurstRow.domain false) (Rows.sumBurstSpec.post enc Try.prog Try.f5 false true false false) := by
  refine returnsInHanded_of_change_sized (C := Try.checked) own started (by kernel_rfl) Try.func5
    (ChangeSpec.witness6 (enc := enc) (C := Try.checked) false ⟨#[], #[.string ByteArray.empty, .int .i64 0, .int .u32 0], []⟩ 8 (by kernel_rfl) (by kernel_rfl) (by kernel_rfl) (by kernel_rfl)) ?_
  intro W base args ds gs before hval0 hW hcnd hsz0 _
  have hval : ∀ (j : Nat) t v, Try.f5.params[j]? = some t → args[j]? = some v → Value.okWide Try.prog W .any base t v := hval0
  have hsz : (DataW.weightsEach Try.prog (Try.f5.params.toList ++ Rows.sumBurstSpec.plain.varTypes Try.prog) (ds ++ gs)).all (· ≤ reachBytes) = true := hsz0
  have hW' := hW
  obtain ⟨p, q, hA0, hV, rfl, hfz, hnd⟩ := hW
  have hA : DataW.TrodAll enc Try.prog W 0 (fun _ => true) true Try.f5.params.toList args.toList ds p := hA0
  rw [Try.params5] at hA hval hsz
  obtain ⟨v0, vs0, d0, ds0, p0, q0, hargs, rfl, rfl, h0, r0⟩ := trodAll_cons hA
  obtain ⟨v1, vs1, d1, ds1, p1, q1, rfl, rfl, rfl, h1, r1⟩ := trodAll_cons r0
  obtain ⟨v2, vs2, d2, ds2, p2, q2, rfl, rfl, rfl, h2, r2⟩ := trodAll_cons r1
  obtain ⟨rfl, rfl, rfl⟩ := trodAll_nil r2
  obtain rfl : args = #[v0, v1, v2] := by cases args; simp_all
  obtain ⟨rfl, rfl⟩ := trodVars_none hV
  obtain ⟨a0, rfl, rfl, rfl, w0⟩ := open_string Try.underlying9 (hval 0 9 v0 rfl rfl) h0
  obtain ⟨a1, rfl, rfl, rfl, w1⟩ := open_int Try.underlying3 (hval 1 3 v1 rfl rfl) h1
  obtain ⟨a2, rfl, rfl, rfl, w2⟩ := open_int Try.underlying22 (hval 2 22 v2 rfl rfl) h2
  have b0 : a0.size ≤ 140737488351232 := by
    have h := sized_string hsz (j := 0) (t := 9) rfl rfl
    simpa [reachBytes] using h
  clear hA0 hval0 hsz0
  refine (walk a0 a1 a2 W b0 (wf_i64 w1) (wf_u32 w2)).mono fun e W' ⟨he, bel⟩ => ?_
  subst he
  exact ⟨_, rfl, _, _, _, [], _, [], hW', trodAll_mk1 (shut_bool Try.underlying4 _), (trodAll_cons_mk (shut_string Try.underlying9 w0) (trodAll_cons_mk (shut_int Try.underlying3 w1) (trodAll_cons_mk (shut_int Try.underlying22 w2) trodAll_mk0))), rfl, Below.frame bel _, fun h => by cases h⟩

theorem over : Rows.sumBurstRow.holds Try.pinned (OpenSpec.ofChange Rows.sumBurstSpec) :=
  OpenClaim.holds_of_wide 5 Try.f5 rfl rfl rfl rfl rfl rfl rfl ⟨rfl, rfl, rfl, rfl, rfl⟩ rfl rfl rfl rfl rfl (by kernel_rfl) Try.func5 (by kernel_rfl)
    (of_decide_eq_true (by kernel_rfl)) (by unfold Func.isWrapper; first | (rw [if_pos (by decide +kernel)]; kernel_rfl) | (rw [if_neg (by decide +kernel)]; exact ⟨rfl, rfl⟩))
    (fun os started H enc _ => lifted os started H enc)

end Go.Proofs.Ytbclbpfkdjagkac.sumBurstProof
namespace Go.Proofs.Ytbclbpfkdjagkac
theorem sumBurst_holds : Rows.SumBurstSaid := sumBurstProof.over
#print axioms sumBurst_holds
end Go.Proofs.Ytbclbpfkdjagkac
