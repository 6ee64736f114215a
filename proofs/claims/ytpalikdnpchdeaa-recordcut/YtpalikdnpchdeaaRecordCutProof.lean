/-
  Each beginning of a row's bytes ends too early: Read tells ErrNone of it. For every row and every place.
-/
import Derived.Test.YtpalikdnpchdeaaOpen
import Derived.Test.YtpalikdnpchdeaaLMath
namespace Go.Proofs.Ytpalikdnpchdeaa.RecordCut
open Go.ChangeShapes Go.WideShapes Go.ChangeAt Go.RowKit
set_option linter.unusedVariables false
set_option linter.unusedSimpArgs false

set_option maxRecDepth 100000 in
set_option maxHeartbeats 2000000 in
theorem walk (v0 : Value) (l0 : List VM.Vl) (k : Int) (w : World) (hr : IsRow w v0 l0) (hw : Wide l0) (hl : l0.length ≤ 9223372036854775807) (hk : -9223372036854775808 ≤ k ∧ k ≤ 9223372036854775807) :
    Calls Try.prog 6 #[v0, .int .i64 k] w fun e w' => e = .returned (.bool true) ∧ Fr w w' := by
  by_cases hc : VM.chkRow l0 = 0
  · have hwr := recWrite_ok v0 l0 w hr hw hc
    have hsz : (⟨(WM.row l0).toArray⟩ : ByteArray).size = (WM.row l0).length := mk_size _
    have hcut := fun (q : Nat) (hq : q < (WM.row l0).length) => LM.row_cut hc hw hq
    have hdl : (⟨(WM.row l0).toArray⟩ : ByteArray).data.toList = WM.row l0 := by simp
    have hbig : (WM.row l0).length ≤ 1048576 := row_small hc hw
    generalize hs : (⟨(WM.row l0).toArray⟩ : ByteArray) = s at *
    rw [← hdl] at hcut hsz hbig
    clear hs hdl hr hw
    by_cases h0 : k < 0
    · go_enter Try.func6, Try.ntmps6
      go_wp2_with (first
        | (go_at_call 11; refine hwr.mono ?_; rintro e w1 ⟨rfl, hf1⟩)
        | (go_at_call 16; refine (begun_any _).mono ?_; rintro e w2 ⟨rfl, hf2⟩))
      go_ret
      exact ⟨rfl, Fr.trans hf1 hf2⟩
    · by_cases h1 : (s.size : Int) ≤ k
      · have h0' : 0 ≤ k := by omega
        clear hsz hcut hbig h0
        go_enter Try.func6, Try.ntmps6
        go_wp2_with (first
          | (go_at_call 11; refine hwr.mono ?_; rintro e w1 ⟨rfl, hf1⟩)
          | (go_at_call 16; refine (begun_any _).mono ?_; rintro e w2 ⟨rfl, hf2⟩))
        go_ret
        exact ⟨rfl, Fr.trans hf1 hf2⟩
      · obtain ⟨q, rfl⟩ := Int.eq_ofNat_of_zero_le (show 0 ≤ k by omega)
        have hq : q < s.size := by omega
        have hc2 := hcut q (by omega)
        have hrd : ∀ W, Calls Try.prog 12 #[.string (s.extract 0 q)] W fun e w' => e = .returned (.tuple #[.slice none 0 0, .int .i64 0, .int .i64 5]) ∧ Fr W w' := by
          intro W
          refine (recRead_any (s.extract 0 q) W ?_).mono ?_
          · rw [ByteArray.size_extract]; omega
          · rintro e w' ⟨he, hf⟩
            unfold ReadsAs at he
            rw [Lib.extract_data] at he
            simp only [List.drop_zero, Nat.sub_zero] at he
            rw [hc2] at he
            exact ⟨he, hf⟩
        have hq' : (q : Int) < (s.size : Int) := by omega
        clear hcut hc2 hsz
        go_enter Try.func6, Try.ntmps6
        go_wp2_with (first
          | (go_at_call 11; refine hwr.mono ?_; rintro e w1 ⟨rfl, hf1⟩)
          | (go_at_call 16; refine (begun_any _).mono ?_; rintro e w2 ⟨rfl, hf2⟩)
          | (go_at_call 12; refine (hrd _).mono ?_; rintro e w3 ⟨rfl, hf3⟩))
        go_ret
        exact ⟨rfl, Fr.trans (Fr.trans hf1 hf2) hf3⟩
  · have hwr := recWrite_bad v0 l0 w hr hl hc
    generalize VM.chkRow l0 = c at *
    have q1 : ((c : Int) != 0) = true := by simp; omega
    have q2 : ¬ ((c : Int) = 0) := by omega
    clear hr hw
    go_enter Try.func6, Try.ntmps6
    go_wp2_with (first
      | (go_at_call 11; refine hwr.mono ?_; rintro e w1 ⟨rfl, hf1⟩)
      | (go_at_call 16; refine (begun_any _).mono ?_; rintro e w2 ⟨rfl, hf2⟩))
    go_ret
    exact ⟨rfl, Fr.trans hf1 hf2⟩

set_option maxRecDepth 100000 in
theorem lifted (os : Os) (started : os.Started) (H : Type) (enc : TypeId × Value → H) :
    ReturnsInHanded {} Try.checked os 6 .any (Rows.recordCutSpec.pre6 enc Try.prog Try.f6 Rows.recordCutRow.domain false) (Rows.recordCutSpec.post enc Try.prog Try.f6 false true false false) := by
  refine returnsInHanded_of_change_sized (C := Try.checked) own started (by kernel_rfl) Try.func6
    (ChangeSpec.witness6 (enc := enc) (C := Try.checked) false ⟨#[], #[.slice none 0 0, .int .i64 0], []⟩ 8 (by kernel_rfl) (by kernel_rfl) (by kernel_rfl) (by kernel_rfl)) ?_
  intro W base args ds gs before hval0 hW hcnd hsz0 _
  have hval : ∀ (j : Nat) t v, Try.f6.params[j]? = some t → args[j]? = some v → Value.okWide Try.prog W .any base t v := hval0
  have hsz : (DataW.weightsEach Try.prog (Try.f6.params.toList ++ Rows.recordCutSpec.plain.varTypes Try.prog) (ds ++ gs)).all (· ≤ reachBytes) = true := hsz0
  have hW' := hW
  obtain ⟨p, q, hA0, hV, rfl, hfz, hnd⟩ := hW
  have hA : DataW.TrodAll enc Try.prog W 0 (fun _ => true) true Try.f6.params.toList args.toList ds p := hA0
  rw [Try.params6] at hA hval hsz
  obtain ⟨v0, vs0, d0, ds0, p0, q0, hargs, rfl, rfl, h0, r0⟩ := trodAll_cons hA
  obtain ⟨v1, vs1, d1, ds1, p1, q1, rfl, rfl, rfl, h1, r1⟩ := trodAll_cons r0
  obtain ⟨rfl, rfl, rfl⟩ := trodAll_nil r1
  obtain rfl : args = #[v0, v1] := by cases args; simp_all
  obtain ⟨rfl, rfl⟩ := trodVars_none hV
  obtain ⟨l0, rw0, wd0, ln0, sl0, dd0⟩ := open_row (hval 0 22 v0 rfl rfl) h0
  obtain ⟨a1, rfl, rfl, rfl, w1⟩ := open_int Try.underlying3 (hval 1 3 v1 rfl rfl) h1
  clear hA0 hval0 hsz0
  refine (walk v0 l0 a1 W rw0 wd0 (by unfold maxLen at ln0; omega) (wf_i64 w1)).mono fun e W' ⟨he, bel⟩ => ?_
  subst he
  exact ⟨_, rfl, _, _, _, [], _, [], hW', trodAll_mk1 (shut_bool Try.underlying4 _), (trodAll_cons_mk (shut_row h0 bel) (trodAll_cons_mk (shut_int Try.underlying3 w1) trodAll_mk0)), rfl, Below.frame bel _, fun h => by cases h⟩

theorem over : Rows.recordCutRow.holds Try.pinned (OpenSpec.ofChange Rows.recordCutSpec) :=
  OpenClaim.holds_of_wide 6 Try.f6 rfl rfl rfl rfl rfl rfl rfl ⟨rfl, rfl, rfl, rfl, rfl⟩ rfl rfl rfl rfl rfl (by kernel_rfl) Try.func6 (by kernel_rfl)
    (of_decide_eq_true (by kernel_rfl)) (by unfold Func.isWrapper; first | (rw [if_pos (by decide +kernel)]; kernel_rfl) | (rw [if_neg (by decide +kernel)]; exact ⟨rfl, rfl⟩))
    (fun os started H enc _ => lifted os started H enc)

end Go.Proofs.Ytpalikdnpchdeaa.RecordCut
namespace Go.Proofs.Ytpalikdnpchdeaa
theorem recordCut_holds : Rows.RecordCutSaid := RecordCut.over
end Go.Proofs.Ytpalikdnpchdeaa
