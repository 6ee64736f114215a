/-
  What is read as a row is written as it stood: no row has two texts. For every text.
-/
import Derived.Test.YtpalikdnpchdeaaOpen
import Derived.Test.YtpalikdnpchdeaaLMath
namespace Go.Proofs.Ytpalikdnpchdeaa.RecordOnly
open Go.ChangeShapes Go.WideShapes Go.ChangeAt Go.RowKit
open Go.ChangeMaps (open_string shut_string)
set_option linter.unusedVariables false
set_option linter.unusedSimpArgs false

set_option maxRecDepth 100000 in
set_option maxHeartbeats 2000000 in
theorem walk (s : ByteArray) (w : World) (hs : s.size ≤ 140737488351232) :
    Calls Try.prog 5 #[.string s] w fun e w' => e = .returned (.bool true) ∧ Fr w w' := by
  have hrd := recRead_any s w (by omega)
  unfold ReadsAs at hrd
  match hx : RM.row s.data.toList with
  | .error c =>
    rw [hx] at hrd
    simp only at hrd
    have hne := RM.row_err hx
    have q1 : ((c : Int) != 0) = true := by simp; omega
    have q2 : ¬ ((c : Int) = 0) := by omega
    clear hx
    go_enter Try.func5, Try.ntmps5
    go_wp2_with (first
      | (go_at_call 12; refine hrd.mono ?_; rintro e w1 ⟨rfl, hf1⟩)
      | (go_at_call 16; refine (begun_any _).mono ?_; rintro e w2 ⟨rfl, hf2⟩))
    go_ret
    exact ⟨rfl, Fr.trans hf1 hf2⟩
  | .ok (xs, t) =>
    rw [hx] at hrd
    simp only at hrd
    obtain ⟨h1, h2, h3⟩ := LM.row_only hx
    have hle := RM.row_le hx
    have hdl : s.data.toList.length = s.size := LM.dl s
    rw [hdl] at hle
    have hlen : (WM.row xs).length = s.size - t.length := by
      have := congrArg List.length h3
      rw [List.length_append, hdl] at this
      omega
    have hwr := fun v W hr => recWrite_ok v xs W hr h2 h1
    have hex : (⟨(WM.row xs).toArray⟩ : ByteArray) = s.extract 0 (s.size - t.length) := by
      rw [Lib.extract_eq]
      congr 1
      rw [h3, List.drop_zero, Nat.sub_zero, ← hlen, List.take_left' rfl]
    rw [hex] at hwr
    have hcast : (s.size : Int) - (t.length : Int) = ((s.size - t.length : Nat) : Int) := by omega
    rw [hcast] at hrd
    generalize hq : s.size - t.length = q at *
    have hqs : q ≤ s.size := by omega
    have hqs' : (q : Int) ≤ (s.size : Int) := by omega
    clear hx h1 h2 h3 hle hdl hlen hex hcast hq
    go_enter Try.func5, Try.ntmps5
    go_wp2_with (go_at_call 12; refine hrd.mono ?_)
    rintro e w1 ⟨⟨v, rfl, hrow⟩, hf1⟩
    have HR : Hid _ := hrow
    obtain ⟨a, cap, rfl, _⟩ := hrow
    go_wp2_with (go_at_call 16; refine (begun_any _).mono ?_)
    rintro e w2 ⟨rfl, hf2⟩
    have hw2 := hwr _ w2 (IsRow.fr HR.out hf2)
    have F2 : Hid _ := Fr.trans hf1 hf2
    clear hf1 hf2 hrd hwr HR
    go_wp2_with (go_at_call 11; refine hw2.mono ?_)
    rintro e w3 ⟨rfl, hf3⟩
    have F3 : Hid _ := Fr.trans F2.out hf3
    clear hf3 hw2
    go_wp2_with fail
    go_ret
    exact ⟨rfl, F3.out⟩

set_option maxRecDepth 100000 in
theorem lifted (os : Os) (started : os.Started) (H : Type) (enc : TypeId × Value → H) :
    ReturnsInHanded {} Try.checked os 5 .any (Rows.recordOnlySpec.pre6 enc Try.prog Try.f5 Rows.recordOnlyRow.domain false) (Rows.recordOnlySpec.post enc Try.prog Try.f5 false true false false) := by
  refine returnsInHanded_of_change_sized (C := Try.checked) own started (by kernel_rfl) Try.func5
    (ChangeSpec.witness6 (enc := enc) (C := Try.checked) false ⟨#[], #[.string ByteArray.empty], []⟩ 8 (by kernel_rfl) (by kernel_rfl) (by kernel_rfl) (by kernel_rfl)) ?_
  intro W base args ds gs before hval0 hW hcnd hsz0 _
  have hval : ∀ (j : Nat) t v, Try.f5.params[j]? = some t → args[j]? = some v → Value.okWide Try.prog W .any base t v := hval0
  have hsz : (DataW.weightsEach Try.prog (Try.f5.params.toList ++ Rows.recordOnlySpec.plain.varTypes Try.prog) (ds ++ gs)).all (· ≤ reachBytes) = true := hsz0
  have hW' := hW
  obtain ⟨p, q, hA0, hV, rfl, hfz, hnd⟩ := hW
  have hA : DataW.TrodAll enc Try.prog W 0 (fun _ => true) true Try.f5.params.toList args.toList ds p := hA0
  rw [Try.params5] at hA hval hsz
  obtain ⟨v0, vs0, d0, ds0, p0, q0, hargs, rfl, rfl, h0, r0⟩ := trodAll_cons hA
  obtain ⟨rfl, rfl, rfl⟩ := trodAll_nil r0
  obtain rfl : args = #[v0] := by cases args; simp_all
  obtain ⟨rfl, rfl⟩ := trodVars_none hV
  obtain ⟨a0, rfl, rfl, rfl, w0⟩ := open_string Try.underlying9 (hval 0 9 v0 rfl rfl) h0
  have b0 : a0.size ≤ 140737488351232 := by
    have h := sized_string hsz (j := 0) (t := 9) rfl rfl
    simpa [reachBytes] using h
  clear hA0 hval0 hsz0
  refine (walk a0 W b0).mono fun e W' ⟨he, bel⟩ => ?_
  subst he
  exact ⟨_, rfl, _, _, _, [], _, [], hW', trodAll_mk1 (shut_bool Try.underlying4 _), (trodAll_cons_mk (shut_string Try.underlying9 w0) trodAll_mk0), rfl, Below.frame bel _, fun h => by cases h⟩

theorem over : Rows.recordOnlyRow.holds Try.pinned (OpenSpec.ofChange Rows.recordOnlySpec) :=
  OpenClaim.holds_of_wide 5 Try.f5 rfl rfl rfl rfl rfl rfl rfl ⟨rfl, rfl, rfl, rfl, rfl⟩ rfl rfl rfl rfl rfl (by kernel_rfl) Try.func5 (by kernel_rfl)
    (of_decide_eq_true (by kernel_rfl)) (by unfold Func.isWrapper; first | (rw [if_pos (by decide +kernel)]; kernel_rfl) | (rw [if_neg (by decide +kernel)]; exact ⟨rfl, rfl⟩))
    (fun os started H enc _ => lifted os started H enc)

end Go.Proofs.Ytpalikdnpchdeaa.RecordOnly
namespace Go.Proofs.Ytpalikdnpchdeaa
theorem recordOnly_holds : Rows.RecordOnlySaid := RecordOnly.over
end Go.Proofs.Ytpalikdnpchdeaa
