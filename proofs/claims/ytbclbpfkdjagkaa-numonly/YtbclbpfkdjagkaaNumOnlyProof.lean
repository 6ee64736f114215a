/-
  Proved: for every text NumOnly answers true: what is read is written as it stood, and with an error nothing is read. No condition but the form's own reach.
-/
import Derived.Test.YtbclbpfkdjagkaaBegun
import Derived.Deep.RegionHeld3
namespace Go.Proofs.Ytbclbpfkdjagkaa.numOnlyProof
open Go.ChangeShapes Go.WideShapes Go.ChangeAt Go.RowKit
open Go.ChangeMaps (open_string shut_string)
set_option linter.unusedVariables false

set_option maxRecDepth 100000 in
set_option maxHeartbeats 1000000 in
theorem walk (s : ByteArray) (w : World) (hs : s.size ≤ 140737488351232) :
    Calls Try.prog 5 #[.string s] w fun e w' => e = .returned (.bool true) ∧ Fr w w' := by
  have HS : Hid (s.size ≤ maxLen) := by unfold Hid maxLen; omega
  by_cases he : (NM.rd s.data.toList 0 0).2.2 = 0
  · obtain ⟨m, h1, h2, h3, h4, _⟩ := NM.rd_only _ _ _ he
    have hlt := NM.rd_lt s.data.toList
    simp only [Nat.zero_add, Nat.pow_zero, Nat.mul_one, Nat.sub_zero] at h1 h2 h3 h4
    obtain ⟨k, hk⟩ : ∃ k, k = (NM.rd s.data.toList 0 0).2.1 := ⟨_, rfl⟩
    have hr : rdv s = .tuple #[.int .u64 m, .int .i64 k, .int .i64 0] := by unfold rdv; rw [he, h1, ← hk]; rfl
    rw [h1] at hlt
    rw [← hk] at h2 h3 h4
    have hl : s.data.toList.length = s.size := by simp
    have h2' : (1 : Int) ≤ (k : Int) := by omega
    have h3' : (k : Int) ≤ (s.size : Int) := by omega
    have HE : Hid _ := h4
    have hm : m < 18446744073709551616 := hlt
    clear h1 h4 he hk hl hlt
    go_enter Try.func5, Try.ntmps5
    go_wp2_with (first
      | (go_at_call 9; refine (read_any _ _ HS.out).mono ?_; rintro e w' ⟨rfl, rfl⟩)
      | (go_at_call 12; refine (write_int _ _ (by omega) (by omega)).mono ?_; rintro e w' ⟨rfl, hb⟩)
      | (go_at_call 11; refine (numBegun_any _).mono ?_; rintro e w' ⟨rfl, hb⟩))
    go_region_held3 (fun _ => True) (trivial) (first | (go_at_call 12; refine (write_int _ _ (by omega) (by omega)).mono ?_; rintro e w' ⟨rfl, hb⟩))
    go_wp2
    go_ret
    refine ⟨ret_bool ?_, by repeat (first | exact Fr.refl _ | assumption | refine Fr.trans ?_ (by assumption) | refine Fr.drew ?_)⟩
    rw [HE.out, ByteArray.toList_eq, data_extract]
    simp
  · have hb := NM.rd_bad _ _ _ he
    obtain ⟨e, hee⟩ : ∃ e, e = (NM.rd s.data.toList 0 0).2.2 := ⟨_, rfl⟩
    have hr : rdv s = .tuple #[.int .u64 0, .int .i64 0, .int .i64 e] := by unfold rdv; rw [hb.1, hb.2, ← hee]; rfl
    have hne : ((e : Int) == 0) = false := by rw [← hee] at he; simp; omega
    have hne' : ((e : Int) != 0) = true := by rw [← hee] at he; simp; omega
    clear hee he hb
    go_enter Try.func5, Try.ntmps5
    go_wp2_with (first
      | (go_at_call 9; refine (read_any _ _ HS.out).mono ?_; rintro e w' ⟨rfl, rfl⟩)
      | (go_at_call 11; refine (numBegun_any _).mono ?_; rintro e w' ⟨rfl, hb⟩))
    go_ret
    exact ⟨rfl, by repeat (first | exact Fr.refl _ | assumption | refine Fr.trans ?_ (by assumption))⟩

set_option maxRecDepth 100000 in
theorem lifted (os : Os) (started : os.Started) (H : Type) (enc : TypeId × Value → H) :
    ReturnsInHanded {} Try.checked os 5 .any (Rows.numOnlySpec.pre6 enc Try.prog Try.f5 Rows.numOnlyRow.domain false) (Rows.numOnlySpec.post enc Try.prog Try.f5 false true false false) := by
  refine returnsInHanded_of_change_sized (C := Try.checked) own started (by kernel_rfl) Try.func5
    (ChangeSpec.witness6 (enc := enc) (C := Try.checked) false ⟨#[], #[.string ByteArray.empty], []⟩ 8 (by kernel_rfl) (by kernel_rfl) (by kernel_rfl) (by kernel_rfl)) ?_
  intro W base args ds gs before hval0 hW hcnd hsz0 _
  have hval : ∀ (j : Nat) t v, Try.f5.params[j]? = some t → args[j]? = some v → Value.okWide Try.prog W .any base t v := hval0
  have hsz : (DataW.weightsEach Try.prog (Try.f5.params.toList ++ Rows.numOnlySpec.plain.varTypes Try.prog) (ds ++ gs)).all (· ≤ reachBytes) = true := hsz0
  have hW' := hW
  obtain ⟨p, q, hA0, hV, rfl, hfz, hnd⟩ := hW
  have hA : DataW.TrodAll enc Try.prog W 0 (fun _ => true) true Try.f5.params.toList args.toList ds p := hA0
  rw [Try.params5] at hA hval hsz
  obtain ⟨v0, vs0, d0, ds0, p0, q0, hargs, rfl, rfl, h0, r0⟩ := trodAll_cons hA
  obtain ⟨rfl, rfl, rfl⟩ := trodAll_nil r0
  obtain rfl : args = #[v0] := by cases args; simp_all
  obtain ⟨rfl, rfl⟩ := trodVars_none hV
  obtain ⟨a0, rfl, rfl, rfl, w0⟩ := open_string Try.underlying9 (hval 0 9 v0 rfl rfl) h0
  have b0 : a0.size ≤ 140737488351232 := by
    have h := sized_string hsz (j := 0) (t := 9) rfl rfl
    simpa [reachBytes] using h
  clear hA0 hval0 hsz0
  refine (walk a0 W b0).mono fun e W' ⟨he, bel⟩ => ?_
  subst he
  exact ⟨_, rfl, _, _, _, [], _, [], hW', trodAll_mk1 (shut_bool Try.underlying4 _), (trodAll_cons_mk (shut_string Try.underlying9 w0) trodAll_mk0), rfl, Below.frame bel _, fun h => by cases h⟩

theorem over : Rows.numOnlyRow.holds Try.pinned (OpenSpec.ofChange Rows.numOnlySpec) :=
  OpenClaim.holds_of_wide 5 Try.f5 rfl rfl rfl rfl rfl rfl rfl ⟨rfl, rfl, rfl, rfl, rfl⟩ rfl rfl rfl rfl rfl (by kernel_rfl) Try.func5 (by kernel_rfl)
    (of_decide_eq_true (by kernel_rfl)) (by unfold Func.isWrapper; first | (rw [if_pos (by decide +kernel)]; kernel_rfl) | (rw [if_neg (by decide +kernel)]; exact ⟨rfl, rfl⟩))
    (fun os started H enc _ => lifted os started H enc)

end Go.Proofs.Ytbclbpfkdjagkaa.numOnlyProof
namespace Go.Proofs.Ytbclbpfkdjagkaa
theorem numOnly_holds : Rows.NumOnlySaid := numOnlyProof.over
#print axioms numOnly_holds
end Go.Proofs.Ytbclbpfkdjagkaa
