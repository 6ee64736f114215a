/-
  What is written of a row is read as it was, whatever stands behind. For every row and every text behind it.
-/
import Derived.Test.YtpalikdnpchdeaaSame
namespace Go.Proofs.Ytpalikdnpchdeaa.RecordBack
open Go.ChangeShapes Go.WideShapes Go.ChangeAt Go.RowKit
open Go.ChangeMaps (open_string shut_string)
set_option linter.unusedVariables false
set_option linter.unusedSimpArgs false

set_option maxRecDepth 100000 in
set_option maxHeartbeats 2000000 in
theorem walk (v0 : Value) (l0 : List VM.Vl) (b : ByteArray) (w : World) (hr : IsRow w v0 l0) (hw : Wide l0) (hl : l0.length ≤ 9223372036854775807) (hb : b.size ≤ 140737488351232) :
    Calls Try.prog 4 #[v0, .string b] w fun e w' => e = .returned (.bool true) ∧ Fr w w' := by
  by_cases hc : VM.chkRow l0 = 0
  · have hwr := recWrite_ok v0 l0 w hr hw hc
    have hback := LM.row_back hc hw b.data.toList
    have hdl : (⟨(WM.row l0).toArray⟩ : ByteArray).data.toList = WM.row l0 := by simp
    have hsz : (⟨(WM.row l0).toArray⟩ : ByteArray).size = (WM.row l0).length := mk_size _
    have hbig : (WM.row l0).length ≤ 1048576 := row_small hc hw
    generalize hs : (⟨(WM.row l0).toArray⟩ : ByteArray) = s at *
    rw [← hsz] at hbig
    have happ : (s ++ b).data.toList = WM.row l0 ++ b.data.toList := by rw [← hdl]; simp
    have hdb : b.data.toList.length = b.size := LM.dl b
    have hrd : ∀ W, Calls Try.prog 12 #[.string (s ++ b)] W fun e w' => (∃ v, e = .returned (.tuple #[v, .int .i64 s.size, .int .i64 0]) ∧ IsRow w' v l0) ∧ Fr W w' := by
      intro W
      refine (recRead_any (s ++ b) W (by rw [ByteArray.size_append]; omega)).mono ?_
      rintro e w' ⟨he, hf⟩
      unfold ReadsAs at he
      rw [happ, hback] at he
      obtain ⟨v, rfl, hrow⟩ := he
      refine ⟨⟨v, ?_, hrow⟩, hf⟩
      rw [ByteArray.size_append, hdb, show ((s.size + b.size : Nat) : Int) - (b.size : Int) = (s.size : Int) by omega]
    have h8 := (WM.chkRow_ok hc).1
    have HR : Hid _ := hr
    clear hback hdl hsz hs happ hdb hr hw hc
    go_enter Try.func4, Try.ntmps4
    go_wp2_with (first
      | (go_at_call 11; refine hwr.mono ?_; rintro e w1 ⟨rfl, hf1⟩)
      | (go_at_call 16; refine (begun_any _).mono ?_; rintro e w2 ⟨rfl, hf2⟩))
    refine (hrd _).mono ?_
    rintro e w3 ⟨⟨v3, rfl, hrow3⟩, hf3⟩
    have hf : Fr w w3 := Fr.trans (Fr.trans hf1 hf2) hf3
    have hsame := sameRow_eq v0 v3 l0 w3 (IsRow.fr HR.out hf) hrow3 (by omega)
    have F3 : Hid _ := hf
    obtain ⟨a3, cap3, rfl, _⟩ := hrow3
    clear hf1 hf2 hf3 hf hwr hrd HR
    go_wp2_with (go_at_call 17; refine hsame.mono ?_)
    rintro e w4 ⟨rfl, hf4⟩
    have F4 : Hid _ := Fr.trans F3.out hf4
    clear hf4 hsame
    go_wp2_with fail
    go_ret
    exact ⟨rfl, F4.out⟩
  · have hwr := recWrite_bad v0 l0 w hr hl hc
    generalize VM.chkRow l0 = c at *
    have q1 : ((c : Int) != 0) = true := by simp; omega
    have q2 : ¬ ((c : Int) = 0) := by omega
    clear hr hw
    go_enter Try.func4, Try.ntmps4
    go_wp2_with (first
      | (go_at_call 11; refine hwr.mono ?_; rintro e w1 ⟨rfl, hf1⟩)
      | (go_at_call 16; refine (begun_any _).mono ?_; rintro e w2 ⟨rfl, hf2⟩))
    go_ret
    exact ⟨rfl, Fr.trans hf1 hf2⟩

set_option maxRecDepth 100000 in
theorem lifted (os : Os) (started : os.Started) (H : Type) (enc : TypeId × Value → H) :
    ReturnsInHanded {} Try.checked os 4 .any (Rows.recordBackSpec.pre6 enc Try.prog Try.f4 Rows.recordBackRow.domain false) (Rows.recordBackSpec.post enc Try.prog Try.f4 false true false false) := by
  refine returnsInHanded_of_change_sized (C := Try.checked) own started (by kernel_rfl) Try.func4
    (ChangeSpec.witness6 (enc := enc) (C := Try.checked) false ⟨#[], #[.slice none 0 0, .string ByteArray.empty], []⟩ 8 (by kernel_rfl) (by kernel_rfl) (by kernel_rfl) (by kernel_rfl)) ?_
  intro W base args ds gs before hval0 hW hcnd hsz0 _
  have hval : ∀ (j : Nat) t v, Try.f4.params[j]? = some t → args[j]? = some v → Value.okWide Try.prog W .any base t v := hval0
  have hsz : (DataW.weightsEach Try.prog (Try.f4.params.toList ++ Rows.recordBackSpec.plain.varTypes Try.prog) (ds ++ gs)).all (· ≤ reachBytes) = true := hsz0
  have hW' := hW
  obtain ⟨p, q, hA0, hV, rfl, hfz, hnd⟩ := hW
  have hA : DataW.TrodAll enc Try.prog W 0 (fun _ => true) true Try.f4.params.toList args.toList ds p := hA0
  rw [Try.params4] at hA hval hsz
  obtain ⟨v0, vs0, d0, ds0, p0, q0, hargs, rfl, rfl, h0, r0⟩ := trodAll_cons hA
  obtain ⟨v1, vs1, d1, ds1, p1, q1, rfl, rfl, rfl, h1, r1⟩ := trodAll_cons r0
  obtain ⟨rfl, rfl, rfl⟩ := trodAll_nil r1
  obtain rfl : args = #[v0, v1] := by cases args; simp_all
  obtain ⟨rfl, rfl⟩ := trodVars_none hV
  obtain ⟨l0, rw0, wd0, ln0, sl0, dd0⟩ := open_row (hval 0 22 v0 rfl rfl) h0
  obtain ⟨a1, rfl, rfl, rfl, w1⟩ := open_string Try.underlying9 (hval 1 9 v1 rfl rfl) h1
  have b1 : a1.size ≤ 140737488351232 := by
    have h := sized_string hsz (j := 1) (t := 9) rfl rfl
    simpa [reachBytes] using h
  clear hA0 hval0 hsz0
  refine (walk v0 l0 a1 W rw0 wd0 (by unfold maxLen at ln0; omega) b1).mono fun e W' ⟨he, bel⟩ => ?_
  subst he
  exact ⟨_, rfl, _, _, _, [], _, [], hW', trodAll_mk1 (shut_bool Try.underlying4 _), (trodAll_cons_mk (shut_row h0 bel) (trodAll_cons_mk (shut_string Try.underlying9 w1) trodAll_mk0)), rfl, Below.frame bel _, fun h => by cases h⟩

theorem over : Rows.recordBackRow.holds Try.pinned (OpenSpec.ofChange Rows.recordBackSpec) :=
  OpenClaim.holds_of_wide 4 Try.f4 rfl rfl rfl rfl rfl rfl rfl ⟨rfl, rfl, rfl, rfl, rfl⟩ rfl rfl rfl rfl rfl (by kernel_rfl) Try.func4 (by kernel_rfl)
    (of_decide_eq_true (by kernel_rfl)) (by unfold Func.isWrapper; first | (rw [if_pos (by decide +kernel)]; kernel_rfl) | (rw [if_neg (by decide +kernel)]; exact ⟨rfl, rfl⟩))
    (fun os started H enc _ => lifted os started H enc)

end Go.Proofs.Ytpalikdnpchdeaa.RecordBack
namespace Go.Proofs.Ytpalikdnpchdeaa
theorem recordBack_holds : Rows.RecordBackSaid := RecordBack.over
end Go.Proofs.Ytpalikdnpchdeaa
