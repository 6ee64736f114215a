/-
  Proved: for every expression FoldTells answers true: Fold answers just what the document says, errors too. No condition but the form's own reach.
-/
import Derived.Test.YtjljohmflhmkmaaGreatDoorGpL
import Derived.Test.YtjljohmflhmkmaaGreatDoorGpM
import Derived.Test.YtjljohmflhmkmaaGreatDoorEwG
import Derived.Test.YtjljohmflhmkmaaGreatDoorGpN
namespace Go.Proofs.YtjljohmflhmkmaaGreatDoor.foldTellsProof
open Go.ChangeShapes Go.WideShapes Go.ChangeAt Go.RowKit
open Go.ChangeMaps (open_string shut_string)
set_option linter.unusedVariables false
set_option linter.unusedSimpArgs false
set_option maxRecDepth 100000
set_option maxHeartbeats 2000000
theorem walk (v0 : Value) (e : List EX.Nd) (w : World) (hT : Tt w)
    (h0 : IsL cdN w v0 e) (k0 : ∀ y ∈ e, EV.okN y ∧ (-9223372036854775808 ≤ y.op ∧ y.op ≤ 9223372036854775807) ∧ (-9223372036854775808 ≤ y.kids ∧ y.kids ≤ 9223372036854775807)) (b0 : e.length * 64 ≤ 140737488351232) :
    Calls Tryz.prog 8 #[v0] w fun e w' => e = .returned (.bool true) ∧ Fr w w' := by
  have HP := hideP (fold_any v0 e w h0 (fun n hn => (k0 n hn).1) (by omega) hT.tn hT.tb)
  have HX := hideP (fun W (g : Fr w W) => rexprCheck_any v0 e W (h0.fr g) (fun n hn => (k0 n hn).1.1) (by omega))
  have HBg := hideP (fun W (g : Fr w W) => evalBegun_any W (hT.tn.fr g) (hT.tb.fr g))
  have HFo := hideP (fun W (g : Fr w W) (h : EX.ck e = 0) => show Calls Tryz.prog 25 #[v0] W (fun r w' => (∃ u, r = .returned u ∧ w'.ownsRow W.heap.size 38 6 u (EV.fld e).length (flat cdN (EV.fld e))) ∧ Fr W w') from by
    obtain ⟨n, k, rfl, hg, hd, hl60⟩ := EX.ck_tree h
    obtain ⟨_, h2, _⟩ := EV.fld_tree hg h
    rw [h2]
    exact foldOf_any n k v0 W hg hl60 (fun m hm => (k0 m hm).1.2) (h0.fr g))
  have HLm := hideP (fun (h : EX.ck e = 0) => show (EV.fld e).length ≤ 60 from Nat.le_trans (EV.fld_all h).2.1 (EX.ck_ok h).1)
  obtain ⟨a0, c0, rfl, _⟩ := h0
  unfold FoAns at HP
  clear k0 hT
  generalize e.length = n0 at *
  by_cases hc : EX.ck e = 0
  case neg =>
    have e1 : ((EX.ck e : Int) == 0) = false := by simp; omega
    have e2 : ¬ ((EX.ck e : Int) = 0) := by omega
    simp only [hc, ne_eq, not_false_eq_true, true_and, false_and, or_false] at HP
    clear HFo HLm hc
    generalize (EX.ck e : Int) = z at *
    go_enter Tryz.func8, Tryz.ntmps8
    go_wp2_with fail
    refine HP.out.mono ?_
    rintro _ w1 ⟨rfl, f1⟩
    have F1 := hideP f1
    clear f1
    go_wp2_with fail
    refine (HX.out _ F1.out).mono ?_
    rintro _ w2 ⟨rfl, f2⟩
    have F2 := hideP (F1.out.trans f2)
    clear f2
    go_wp2_with fail
    refine (HBg.out _ F2.out).mono ?_
    rintro _ w3 ⟨rfl, f3⟩
    have F3 := hideP (F2.out.trans f3)
    clear f3
    go_wp2_with fail
    refine (sameNodes_eq (.slice none 0 0) (.slice none 0 0) [] w3 (isL_nil _ _) (isL_nil _ _) (by simp)).mono ?_
    rintro _ w4 ⟨rfl, f4⟩
    go_wp2_with fail
    go_ret
    exact ⟨rfl, F3.out.trans f4⟩
  have hm60 := HLm.out hc
  have HFo2 := hideP (fun W (g : Fr w W) => HFo.out W g hc)
  simp only [hc, ne_eq, not_true, true_and, false_and, false_or] at HP HX
  clear hc HLm HFo
  generalize EV.fld e = m at *
  obtain ⟨M, hM⟩ : ∃ M, m.length = M := ⟨_, rfl⟩
  have HMl := hideP hM
  rw [hM] at HP HFo2 hm60
  clear hM
  go_enter Tryz.func8, Tryz.ntmps8
  go_wp2_with fail
  refine HP.out.mono ?_
  rintro _ w1 ⟨⟨u, rfl, own1⟩, f1⟩
  obtain ⟨ua, uc, rfl⟩ := own_slice own1
  have HI1 := hideP (show IsL cdN w1 (.slice ua M uc) m from isL_own (E := cdN) (by rw [HMl.out]; exact own1))
  have F1 := hideP f1
  clear f1 own1
  go_wp2_with fail
  refine (HX.out _ F1.out).mono ?_
  rintro _ w2 ⟨rfl, f2⟩
  replace HI1 := hideP (HI1.out.fr f2)
  have F2 := hideP (F1.out.trans f2)
  clear f2
  go_wp2_with fail
  refine (HFo2.out _ F2.out).mono ?_
  rintro _ w5 ⟨⟨u5, rfl, own5⟩, f5⟩
  obtain ⟨ub, ud, rfl⟩ := own_slice own5
  have HI2 := hideP (show IsL cdN w5 (.slice ub M ud) m from isL_own (E := cdN) (by rw [HMl.out]; exact own5))
  replace HI1 := hideP (HI1.out.fr f5)
  have F5 := hideP (F2.out.trans f5)
  clear f5 own5
  go_wp2_with fail
  refine (HBg.out _ F5.out).mono ?_
  rintro _ w3 ⟨rfl, f3⟩
  have F3 := hideP (F5.out.trans f3)
  replace HI1 := hideP (HI1.out.fr f3)
  replace HI2 := hideP (HI2.out.fr f3)
  clear f3
  have HCs := hideP (sameNodes_eq (.slice ua M uc) (.slice ub M ud) m w3 HI1.out HI2.out (by rw [HMl.out]; omega))
  go_wp2_with fail
  refine HCs.out.mono ?_
  rintro _ w4 ⟨rfl, f4⟩
  go_wp2_with fail
  go_ret
  exact ⟨rfl, F3.out.trans f4⟩

set_option maxRecDepth 100000 in
theorem lifted (os : Go.Os) (started : os.Started) (H : Type) (enc : TypeId × Value → H) :
    ReturnsInHanded {} Tryz.checked os 8 .any (fun w args => (Rows.foldTellsSpec.pre enc Tryz.prog Tryz.f8 [] false w args ∧ laidMetH Tryz.prog Rows.foldTellsRow.laid w) ∧ sizedMet enc Tryz.prog Tryz.f8 (OpenSpec.ofChange Rows.foldTellsSpec) false w args)
      (Rows.foldTellsSpec.post enc Tryz.prog Tryz.f8 false true false false) := by
  refine returnsInHanded_of_change_and (C := Tryz.checked) (X := fun w _ => laidMetH Tryz.prog Rows.foldTellsRow.laid w) (fun _ _ _ hh h => h.of_heap hh) own started (by kernel_rfl) Tryz.func8
    (ChangeSpec.witness_shaped (enc := enc) (C := Tryz.checked) (os := os) (X := fun w _ => laidMetH Tryz.prog Rows.foldTellsRow.laid w) false (World.laidAll Tryz.prog os Rows.foldTellsRow.laid) #[.slice none 0 0] 8 (World.laidAll_os _ _ _)
      (World.shaped_of_ZipB (by kernel_rfl) (by kernel_rfl)) (by kernel_rfl) (by kernel_rfl) (by kernel_rfl)
      (by rw [MakeChecks.laidMetH_plain _ _ _ (by kernel_rfl)]; exact laidMet_laidAll _ (by kernel_rfl) (by kernel_rfl))) ?_
  intro W base args ds gs before hval0 hW hcnd hsz0 hL _
  have hT : Tt W := tabs_of_laid hL
  have hval : ∀ (j : Nat) t v, Tryz.f8.params[j]? = some t → args[j]? = some v → Value.okWide Tryz.prog W .any base t v := hval0
  have hsz : (DataW.weightsEach Tryz.prog (Tryz.f8.params.toList ++ Rows.foldTellsSpec.plain.varTypes Tryz.prog) (ds ++ gs)).all (· ≤ reachBytes) = true := hsz0
  have hW' := hW
  obtain ⟨p, q, hA0, hV, rfl, hfz, hnd⟩ := hW
  have hA : DataW.TrodAll enc Tryz.prog W 0 (fun _ => true) true Tryz.f8.params.toList args.toList ds p := hA0
  rw [Tryz.params8] at hA hval hsz
  obtain ⟨v0, vs0, d0, ds0, p0, q0, hargs, rfl, rfl, h0, r0⟩ := trodAll_cons hA
  obtain ⟨rfl, rfl, rfl⟩ := trodAll_nil r0
  obtain rfl : args = #[v0] := by cases args; simp_all
  obtain ⟨rfl, rfl⟩ := trodVars_none hV
  obtain ⟨l0, rw0, ok0, b0⟩ := open_nds (hval 0 22 v0 rfl rfl) h0 (sized_at hsz (j := 0) rfl rfl)
  clear hA0 hval0 hsz0
  refine (walk v0 l0 W hT rw0 ok0 b0).mono fun e W' ⟨he, bel⟩ => ?_
  subst he
  exact ⟨_, rfl, _, _, _, [], _, [], hW', trodAll_mk1 (shut_bool Tryz.underlying4 _), (trodAll_cons_mk (shut_nds h0 bel) trodAll_mk0), rfl, Below.frame bel _, fun h => by cases h⟩

theorem over : Rows.foldTellsRow.holds Tryz.pinned (OpenSpec.ofChange Rows.foldTellsSpec) :=
  OpenClaim.holds_of_wide 8 Tryz.f8 rfl rfl rfl rfl rfl rfl rfl ⟨rfl, rfl, rfl, rfl, rfl⟩ rfl rfl rfl rfl rfl (by kernel_rfl) Tryz.func8 (by kernel_rfl)
    (of_decide_eq_true (by kernel_rfl)) (by unfold Func.isWrapper; first | (rw [if_pos (by decide +kernel)]; kernel_rfl) | (rw [if_neg (by decide +kernel)]; exact ⟨rfl, rfl⟩))
    (fun os started H enc _ => lifted os started H enc)

theorem card : Rows.FoldTellsCardSaid :=
  Claim7.holds_tied_plain_at .later [] [.data, .data, .data, .data, .data, .data, .pinned] true (true, "96cea82cc36b5cf1a3380f7b37f60b58bdddc176841e44ac2e27ea7ff724803d") false
    over (fun _ h => by cases h) (by kernel_rfl) (fun _ h => by cases h) foldTells_row_tie rfl ⟨rfl, rfl⟩ (by kernel_rfl) rfl
    (fun f fn hf hfn => by
      obtain rfl : f = 8 := Option.some.inj ((show Tryz.prog.funcNamed "starling/starlinglaw.FoldTells" = some 8 by kernel_rfl).symm.trans hf) |>.symm
      obtain rfl : fn = Tryz.f8 := (Option.some.inj (Tryz.func8.symm.trans hfn)).symm
      exact ⟨by kernel_rfl, fun j t ht => by
        rw [Tryz.params8] at ht
        have hm : t ∈ [22] := by simpa using Array.mem_of_getElem? ht
        have hall : ([22].all fun u => !Tryz.prog.wantsStandIn u) = true := by kernel_rfl
        exact (show Tryz.prog.wantsStandIn t = false by simpa using List.all_eq_true.1 hall t hm)⟩)
    (by kernel_rfl)

end Go.Proofs.YtjljohmflhmkmaaGreatDoor.foldTellsProof
namespace Go.Proofs.YtjljohmflhmkmaaGreatDoor
theorem foldTells_holds : Rows.FoldTellsCardSaid := foldTellsProof.card
#print axioms foldTells_holds
end Go.Proofs.YtjljohmflhmkmaaGreatDoor
