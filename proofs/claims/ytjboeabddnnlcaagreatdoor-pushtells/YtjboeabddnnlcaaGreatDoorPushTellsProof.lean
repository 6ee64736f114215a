/-
  Proved: for every expression PushTells answers true: Push answers just what the document says, errors too. No condition but the form's own reach.
-/
import Derived.Test.YtjboeabddnnlcaaGreatDoorReG
import Derived.Test.YtjboeabddnnlcaaGreatDoorEwG
import Derived.Test.YtjboeabddnnlcaaGreatDoorTabs
namespace Go.Proofs.YtjboeabddnnlcaaGreatDoor.pushTellsProof
open Go.ChangeShapes Go.WideShapes Go.ChangeAt Go.RowKit
open Go.ChangeMaps (open_string shut_string)
set_option linter.unusedVariables false
set_option linter.unusedSimpArgs false
set_option maxRecDepth 100000

set_option maxHeartbeats 2000000 in
theorem walk (v0 : Value) (e : List EX.Nd) (w : World) (hT : Tt w)
    (h0 : IsL cdN w v0 e) (k0 : ∀ y ∈ e, EV.okN y ∧ (-9223372036854775808 ≤ y.op ∧ y.op ≤ 9223372036854775807) ∧ (-9223372036854775808 ≤ y.kids ∧ y.kids ≤ 9223372036854775807)) (b0 : e.length * 64 ≤ 140737488351232) :
    Calls Tryz.prog 10 #[v0] w fun e w' => e = .returned (.bool true) ∧ Fr w w' := by
  have HP := hideP (psh_any v0 e w h0 (fun n hn => (k0 n hn).1.1) (by omega) hT.tn)
  have HR := hideP (fun W (g : Fr w W) => pushedOf_any v0 e W (h0.fr g) (fun n hn => (k0 n hn).1.1) (by omega))
  have HBg := hideP (fun W (g : Fr w W) => evalBegun_any W (hT.tn.fr g) (hT.tb.fr g))
  have HLm := hideP (fun h => (EX.ck_ok (e := EV.psh e) h).1)
  obtain ⟨a0, c0, rfl, _⟩ := h0
  unfold PsAns at HP HR
  clear k0 hT
  generalize e.length = n0 at *
  by_cases hc : EX.ck e = 0
  case neg =>
    simp only [hc, ne_eq, not_false_eq_true, true_and, false_and, or_false] at HP HR
    generalize (EX.ck e : Int) = z at *
    go_enter Tryz.func10, Tryz.ntmps10
    go_wp2_with fail
    refine HP.out.mono ?_
    rintro _ w1 ⟨rfl, f1⟩
    have F1 := hideP f1
    clear f1
    go_wp2_with fail
    refine (HR.out _ F1.out).mono ?_
    rintro _ w2 ⟨rfl, f2⟩
    have F2 := hideP (F1.out.trans f2)
    clear f2
    go_wp2_with fail
    refine (HBg.out _ F2.out).mono ?_
    rintro _ w3 ⟨rfl, f3⟩
    have F3 := hideP (F2.out.trans f3)
    clear f3
    go_wp2_with fail
    refine (sameNodes_eq (.slice none 0 0) (.slice none 0 0) [] w3 (isL_nil _ _) (isL_nil _ _) (by simp)).mono ?_
    rintro _ w4 ⟨rfl, f4⟩
    go_wp2_with fail
    go_ret
    exact ⟨rfl, F3.out.trans f4⟩
  simp only [hc, ne_eq, not_true, true_and, false_and, false_or] at HP HR
  by_cases hc2 : EX.ck (EV.psh e) = 0
  case neg =>
    simp only [hc2, ne_eq, not_false_eq_true, true_and, false_and, or_false] at HP HR
    generalize (EX.ck (EV.psh e) : Int) = z at *
    go_enter Tryz.func10, Tryz.ntmps10
    go_wp2_with fail
    refine HP.out.mono ?_
    rintro _ w1 ⟨rfl, f1⟩
    have F1 := hideP f1
    clear f1
    go_wp2_with fail
    refine (HR.out _ F1.out).mono ?_
    rintro _ w2 ⟨rfl, f2⟩
    have F2 := hideP (F1.out.trans f2)
    clear f2
    go_wp2_with fail
    refine (HBg.out _ F2.out).mono ?_
    rintro _ w3 ⟨rfl, f3⟩
    have F3 := hideP (F2.out.trans f3)
    clear f3
    go_wp2_with fail
    refine (sameNodes_eq (.slice none 0 0) (.slice none 0 0) [] w3 (isL_nil _ _) (isL_nil _ _) (by simp)).mono ?_
    rintro _ w4 ⟨rfl, f4⟩
    go_wp2_with fail
    go_ret
    exact ⟨rfl, F3.out.trans f4⟩
  have hm60 := HLm.out hc2
  simp only [hc2, ne_eq, not_true, true_and, false_and, false_or] at HP HR
  clear hc hc2 HLm
  generalize EV.psh e = m at *
  obtain ⟨M, hM⟩ : ∃ M, m.length = M := ⟨_, rfl⟩
  have HMl := hideP hM
  rw [hM] at HP HR hm60
  clear hM
  go_enter Tryz.func10, Tryz.ntmps10
  go_wp2_with fail
  refine HP.out.mono ?_
  rintro _ w1 ⟨⟨u, rfl, own1⟩, f1⟩
  obtain ⟨ua, uc, rfl⟩ := own_slice own1
  have HI1 := hideP (show IsL cdN w1 (.slice ua M uc) m from isL_own (E := cdN) (by rw [HMl.out]; exact own1))
  have F1 := hideP f1
  clear f1 own1
  go_wp2_with fail
  refine (HR.out _ F1.out).mono ?_
  rintro _ w2 ⟨⟨u2, rfl, own2⟩, f2⟩
  obtain ⟨ub, ud, rfl⟩ := own_slice own2
  have HI2 := hideP (show IsL cdN w2 (.slice ub M ud) m from isL_own (E := cdN) (by rw [HMl.out]; exact own2))
  replace HI1 := hideP (HI1.out.fr f2)
  have F2 := hideP (F1.out.trans f2)
  clear f2 own2
  go_wp2_with fail
  refine (HBg.out _ F2.out).mono ?_
  rintro _ w3 ⟨rfl, f3⟩
  have F3 := hideP (F2.out.trans f3)
  replace HI1 := hideP (HI1.out.fr f3)
  replace HI2 := hideP (HI2.out.fr f3)
  clear f3
  have HCs := hideP (sameNodes_eq (.slice ua M uc) (.slice ub M ud) m w3 HI1.out HI2.out (by rw [HMl.out]; omega))
  go_wp2_with fail
  refine HCs.out.mono ?_
  rintro _ w4 ⟨rfl, f4⟩
  go_wp2_with fail
  go_ret
  exact ⟨rfl, F3.out.trans f4⟩

set_option maxRecDepth 100000 in
theorem lifted (os : Go.Os) (started : os.Started) (H : Type) (enc : TypeId × Value → H) :
    ReturnsInHanded {} Tryz.checked os 10 .any (fun w args => (Rows.pushTellsSpec.pre enc Tryz.prog Tryz.f10 [] false w args ∧ laidMetH Tryz.prog Rows.pushTellsRow.laid w) ∧ sizedMet enc Tryz.prog Tryz.f10 (OpenSpec.ofChange Rows.pushTellsSpec) false w args)
      (Rows.pushTellsSpec.post enc Tryz.prog Tryz.f10 false true false false) := by
  refine returnsInHanded_of_change_and (C := Tryz.checked) (X := fun w _ => laidMetH Tryz.prog Rows.pushTellsRow.laid w) (fun _ _ _ hh h => h.of_heap hh) own started (by kernel_rfl) Tryz.func10
    (ChangeSpec.witness_shaped (enc := enc) (C := Tryz.checked) (os := os) (X := fun w _ => laidMetH Tryz.prog Rows.pushTellsRow.laid w) false (World.laidAll Tryz.prog os Rows.pushTellsRow.laid) #[.slice none 0 0] 8 (World.laidAll_os _ _ _)
      (World.shaped_of_ZipB (by kernel_rfl) (by kernel_rfl)) (by kernel_rfl) (by kernel_rfl) (by kernel_rfl)
      (by rw [MakeChecks.laidMetH_plain _ _ _ (by kernel_rfl)]; exact laidMet_laidAll _ (by kernel_rfl) (by kernel_rfl))) ?_
  intro W base args ds gs before hval0 hW hcnd hsz0 hL _
  have hT : Tt W := tabs_of_laid hL
  have hval : ∀ (j : Nat) t v, Tryz.f10.params[j]? = some t → args[j]? = some v → Value.okWide Tryz.prog W .any base t v := hval0
  have hsz : (DataW.weightsEach Tryz.prog (Tryz.f10.params.toList ++ Rows.pushTellsSpec.plain.varTypes Tryz.prog) (ds ++ gs)).all (· ≤ reachBytes) = true := hsz0
  have hW' := hW
  obtain ⟨p, q, hA0, hV, rfl, hfz, hnd⟩ := hW
  have hA : DataW.TrodAll enc Tryz.prog W 0 (fun _ => true) true Tryz.f10.params.toList args.toList ds p := hA0
  rw [Tryz.params10] at hA hval hsz
  obtain ⟨v0, vs0, d0, ds0, p0, q0, hargs, rfl, rfl, h0, r0⟩ := trodAll_cons hA
  obtain ⟨rfl, rfl, rfl⟩ := trodAll_nil r0
  obtain rfl : args = #[v0] := by cases args; simp_all
  obtain ⟨rfl, rfl⟩ := trodVars_none hV
  obtain ⟨l0, rw0, ok0, b0⟩ := open_nds (hval 0 22 v0 rfl rfl) h0 (sized_at hsz (j := 0) rfl rfl)
  clear hA0 hval0 hsz0
  refine (walk v0 l0 W hT rw0 ok0 b0).mono fun e W' ⟨he, bel⟩ => ?_
  subst he
  exact ⟨_, rfl, _, _, _, [], _, [], hW', trodAll_mk1 (shut_bool Tryz.underlying4 _), (trodAll_cons_mk (shut_nds h0 bel) trodAll_mk0), rfl, Below.frame bel _, fun h => by cases h⟩

theorem over : Rows.pushTellsRow.holds Tryz.pinned (OpenSpec.ofChange Rows.pushTellsSpec) :=
  OpenClaim.holds_of_wide 10 Tryz.f10 rfl rfl rfl rfl rfl rfl rfl ⟨rfl, rfl, rfl, rfl, rfl⟩ rfl rfl rfl rfl rfl (by kernel_rfl) Tryz.func10 (by kernel_rfl)
    (of_decide_eq_true (by kernel_rfl)) (by unfold Func.isWrapper; first | (rw [if_pos (by decide +kernel)]; kernel_rfl) | (rw [if_neg (by decide +kernel)]; exact ⟨rfl, rfl⟩))
    (fun os started H enc _ => lifted os started H enc)

theorem card : Rows.PushTellsCardSaid :=
  Claim7.holds_tied_plain_at .later [] [.data, .data, .data, .data, .data, .data, .pinned] true (true, "96cea82cc36b5cf1a3380f7b37f60b58bdddc176841e44ac2e27ea7ff724803d") false
    over (fun _ h => by cases h) (by kernel_rfl) (fun _ h => by cases h) pushTells_row_tie rfl ⟨rfl, rfl⟩ (by kernel_rfl) rfl
    (fun f fn hf hfn => by
      obtain rfl : f = 10 := Option.some.inj ((show Tryz.prog.funcNamed "starling/starlinglaw.PushTells" = some 10 by kernel_rfl).symm.trans hf) |>.symm
      obtain rfl : fn = Tryz.f10 := (Option.some.inj (Tryz.func10.symm.trans hfn)).symm
      exact ⟨by kernel_rfl, fun j t ht => by
        rw [Tryz.params10] at ht
        have hm : t ∈ [22] := by simpa using Array.mem_of_getElem? ht
        have hall : ([22].all fun u => !Tryz.prog.wantsStandIn u) = true := by kernel_rfl
        exact (show Tryz.prog.wantsStandIn t = false by simpa using List.all_eq_true.1 hall t hm)⟩)
    (by kernel_rfl)

end Go.Proofs.YtjboeabddnnlcaaGreatDoor.pushTellsProof
namespace Go.Proofs.YtjboeabddnnlcaaGreatDoor
theorem pushTells_holds : Rows.PushTellsCardSaid := pushTellsProof.card
#print axioms pushTells_holds
end Go.Proofs.YtjboeabddnnlcaaGreatDoor
