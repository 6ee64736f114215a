/-
  Proved: for every two ints and every slice of ints LogicTells answers true: And, Or, Not, All and Any answer just what the document says. No condition but the form's own reach.
-/
import Derived.Test.YtppbmkkkjjkiiaaLBegun
namespace Go.Proofs.Ytppbmkkkjjkiiaa.logicTellsProof
open Go.ChangeShapes Go.WideShapes Go.ChangeAt Go.RowKit
set_option linter.unusedVariables false
set_option maxRecDepth 100000

set_option maxHeartbeats 1000000 in
theorem walk (a b : Int) (v : Value) (l : List Int) (w : World) (ha : -9223372036854775808 ≤ a ∧ a ≤ 9223372036854775807) (hb : -9223372036854775808 ≤ b ∧ b ≤ 9223372036854775807) (hl : IsInts w v l) (hok : ∀ x ∈ l, -9223372036854775808 ≤ x ∧ x ≤ 9223372036854775807) (hs : l.length * 8 ≤ 140737488351232) :
    Calls Try.prog 3 #[.int .i64 a, .int .i64 b, v] w fun e w' => e = .returned (.bool true) ∧ Fr w w' := by
  have c1 := fun W => and_any a b W
  have d1 := fun W => truthAnd_any a b W
  have c2 := fun W => or_any a b W
  have d2 := fun W => truthOr_any a b W
  have c3 := fun W => not_any a W
  have d3 := fun W => truthNot_any a W
  have c4 := fun W (f : Fr w W) => all_any v l W (hl.fr f) (by omega)
  have d4 := fun W (f : Fr w W) => truthAll_any v l W (hl.fr f) (by omega)
  have c5 := fun W (f : Fr w W) => any_any v l W (hl.fr f) (by omega)
  have d5 := fun W (f : Fr w W) => truthAny_any v l W (hl.fr f) (by omega)
  generalize LG.and a b = x1 at *
  generalize LG.or a b = x2 at *
  generalize LG.not a = x3 at *
  generalize LG.all l = x4 at *
  generalize LG.any l = x5 at *
  obtain ⟨A, cap, rfl, _⟩ := hl
  clear ha hb hok
  go_enter Try.func3, Try.ntmps3
  go_wp2_with (go_at_call 10; refine (logicBegun_any _).mono ?_)
  rintro _ w1 ⟨rfl, hf⟩
  have e4 := c4 w1 hf
  have f4 := d4 w1 hf
  have e5 := c5 w1 hf
  have f5 := d5 w1 hf
  have HF : Hid _ := hf
  clear c4 d4 c5 d5 hf
  go_wp2_with (go_at_call 11; refine (c1 _).mono ?_)
  rintro _ w2 ⟨rfl, rfl⟩
  go_wp2_with (go_at_call 12; refine (d1 _).mono ?_)
  rintro _ w2 ⟨rfl, rfl⟩
  go_wp2_with (go_at_call 13; refine (c2 _).mono ?_)
  rintro _ w2 ⟨rfl, rfl⟩
  go_wp2_with (go_at_call 14; refine (d2 _).mono ?_)
  rintro _ w2 ⟨rfl, rfl⟩
  go_wp2_with (go_at_call 15; refine (c3 _).mono ?_)
  rintro _ w2 ⟨rfl, rfl⟩
  go_wp2_with (go_at_call 16; refine (d3 _).mono ?_)
  rintro _ w2 ⟨rfl, rfl⟩
  go_wp2_with (go_at_call 17; refine e4.mono ?_)
  rintro _ w2 ⟨rfl, rfl⟩
  go_wp2_with (go_at_call 18; refine f4.mono ?_)
  rintro _ w2 ⟨rfl, rfl⟩
  go_wp2_with (go_at_call 19; refine e5.mono ?_)
  rintro _ w2 ⟨rfl, rfl⟩
  go_wp2_with (go_at_call 20; refine f5.mono ?_)
  rintro _ w2 ⟨rfl, rfl⟩
  go_wp2_with fail
  go_ret
  exact ⟨rfl, HF.out⟩

set_option maxRecDepth 100000 in
theorem lifted (os : Os) (started : os.Started) (H : Type) (enc : TypeId × Value → H) :
    ReturnsInHanded {} Try.checked os 3 .any (Rows.logicTellsSpec.pre6 enc Try.prog Try.f3 Rows.logicTellsRow.domain false) (Rows.logicTellsSpec.post enc Try.prog Try.f3 false true false false) := by
  refine returnsInHanded_of_change_sized (C := Try.checked) own started (by kernel_rfl) Try.func3
    (ChangeSpec.witness6 (enc := enc) (C := Try.checked) false ⟨#[], #[.int .i64 0, .int .i64 0, .slice none 0 0], []⟩ 8 (by kernel_rfl) (by kernel_rfl) (by kernel_rfl) (by kernel_rfl)) ?_
  intro W base args ds gs before hval0 hW hcnd hsz0 _
  have hval : ∀ (j : Nat) t v, Try.f3.params[j]? = some t → args[j]? = some v → Value.okWide Try.prog W .any base t v := hval0
  have hsz : (DataW.weightsEach Try.prog (Try.f3.params.toList ++ Rows.logicTellsSpec.plain.varTypes Try.prog) (ds ++ gs)).all (· ≤ reachBytes) = true := hsz0
  have hW' := hW
  obtain ⟨p, q, hA0, hV, rfl, hfz, hnd⟩ := hW
  have hA : DataW.TrodAll enc Try.prog W 0 (fun _ => true) true Try.f3.params.toList args.toList ds p := hA0
  rw [Try.params3] at hA hval hsz
  obtain ⟨v0, vs0, d0, ds0, p0, q0, hargs, rfl, rfl, h0, r0⟩ := trodAll_cons hA
  obtain ⟨v1, vs1, d1, ds1, p1, q1, rfl, rfl, rfl, h1, r1⟩ := trodAll_cons r0
  obtain ⟨v2, vs2, d2, ds2, p2, q2, rfl, rfl, rfl, h2, r2⟩ := trodAll_cons r1
  obtain ⟨rfl, rfl, rfl⟩ := trodAll_nil r2
  obtain rfl : args = #[v0, v1, v2] := by cases args; simp_all
  obtain ⟨rfl, rfl⟩ := trodVars_none hV
  obtain ⟨a0, rfl, rfl, rfl, w0⟩ := open_int Try.underlying3 (hval 0 3 v0 rfl rfl) h0
  obtain ⟨a1, rfl, rfl, rfl, w1⟩ := open_int Try.underlying3 (hval 1 3 v1 rfl rfl) h1
  obtain ⟨l2, rw2, wd2, dd2⟩ := open_list (hval 2 22 v2 rfl rfl) h2
  have b2 : l2.length * 8 ≤ 140737488351232 := by
    rcases dd2 with ⟨_, rfl⟩ | ⟨es, sp, hd, hl⟩
    · simp
    · have h := sized_slice hsz (j := 2) (t := 22) rfl (by rw [hd]; rfl) Try.underlying22
      rw [Try.bytesElem] at h
      unfold reachBytes at h
      omega
  clear hA0 hval0 hsz0
  refine (walk a0 a1 v2 l2 W (wf_i64 w0) (wf_i64 w1) rw2 wd2 b2).mono fun e W' ⟨he, bel⟩ => ?_
  subst he
  exact ⟨_, rfl, _, _, _, [], _, [], hW', trodAll_mk1 (shut_bool Try.underlying4 _), (trodAll_cons_mk (shut_int Try.underlying3 w0) (trodAll_cons_mk (shut_int Try.underlying3 w1) (trodAll_cons_mk (shut_list h2 bel) trodAll_mk0))), rfl, Below.frame bel _, fun h => by cases h⟩

theorem over : Rows.logicTellsRow.holds Try.pinned (OpenSpec.ofChange Rows.logicTellsSpec) :=
  OpenClaim.holds_of_wide 3 Try.f3 rfl rfl rfl rfl rfl rfl rfl ⟨rfl, rfl, rfl, rfl, rfl⟩ rfl rfl rfl rfl rfl (by kernel_rfl) Try.func3 (by kernel_rfl)
    (of_decide_eq_true (by kernel_rfl)) (by unfold Func.isWrapper; first | (rw [if_pos (by decide +kernel)]; kernel_rfl) | (rw [if_neg (by decide +kernel)]; exact ⟨rfl, rfl⟩))
    (fun os started H enc _ => lifted os started H enc)

end Go.Proofs.Ytppbmkkkjjkiiaa.logicTellsProof
namespace Go.Proofs.Ytppbmkkkjjkiiaa
theorem logicTells_holds : Rows.LogicTellsSaid := logicTellsProof.over
#print axioms logicTells_holds
end Go.Proofs.Ytppbmkkkjjkiiaa
