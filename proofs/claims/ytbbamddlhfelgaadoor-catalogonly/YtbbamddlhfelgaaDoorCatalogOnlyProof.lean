/-
  Proved: for every list of entries CatalogOnly answers true: what is read has just the rows it was read from. No condition but the form's own reach.
-/
import Derived.Test.YtbbamddlhfelgaaDoorTabs
import Derived.Test.YtbbamddlhfelgaaDoorOpenE
import Derived.Test.YtbbamddlhfelgaaDoorCtOn
namespace Go.Proofs.YtbbamddlhfelgaaDoor.catalogOnlyProof
open Go.ChangeShapes Go.WideShapes Go.ChangeAt Go.RowKit
open Go.ChangeMaps (open_string shut_string)
set_option linter.unusedVariables false
set_option linter.unusedSimpArgs false
set_option maxRecDepth 100000

theorem of_leaf {l : List LF.En} (h : CT.ofE l = 0) : LF.chk l = 0 := by
  unfold CT.ofE at h
  by_cases h0 : LF.chk l = 0
  · exact h0
  · rw [if_pos h0] at h; exact h
theorem of_len {l : List LF.En} (h : CT.ofE l = 0) : ∀ e ∈ l, e.2.length ≤ 9223372036854775806 := by
  intro e he
  have := (CT.chk_short (of_leaf h)).2 e he
  omega
theorem tabs_ws {l : List LF.En} (h : CT.ofE l = 0) (hw : WE l) : WS (l.map CT.tabA) := by
  have h0 : LF.chk l = 0 := by
    unfold CT.ofE at h
    by_cases h0 : LF.chk l = 0
    · exact h0
    · rw [if_pos h0] at h; exact h
  obtain ⟨_, h8⟩ := CT.chk_short h0
  intro s hs
  obtain ⟨e, he, rfl⟩ := List.mem_map.1 hs
  exact CT.tabA_wide e (hw.2 e he).2 (h8 e he)
set_option maxHeartbeats 2000000 in
theorem walk (v : Value) (l : List LF.En) (w : World) (hT : Tb w) (hr : IsEnC w v l) (hb : WE l) :
    Calls Tryd.prog 5 #[v] w fun e w' => e = .returned (.bool true) ∧ Fr w w' := by
  have co := of_any v l w hr hb
  obtain ⟨pa, pc, hpv, _⟩ := id hr
  subst hpv
  by_cases h0 : CT.ofE l = 0
  · obtain ⟨o1, o2⟩ := CT.rows_of h0
    have hws := tabs_ws h0 hb
    have HR := hideP hr
    have HO1 := hideP o1
    have HO2 := hideP o2
    have HWS := hideP hws
    have HLn := hideP (of_len h0)
    have HB := hideP hb
    have H0 := hideP h0
    clear hr o1 o2 hws hb h0
    go_enter Tryd.func5, Tryd.ntmps5
    go_wp2_with fail
    refine co.mono ?_
    rintro _ w1 ⟨ha, f1⟩
    rcases ha with ⟨_, mv, qs, rfl, os, hqs⟩ | ⟨hne, _⟩
    case inr => exact absurd H0.out hne
    have is := os.is
    rw [hqs] at is
    obtain ⟨ma, mn, mc, rfl⟩ := own_slice' os.own
    have HM := hideP is
    have FW := hideP f1
    clear is os hqs f1 co
    go_wp2_with fail
    refine (catalogBegun_any _).mono ?_
    rintro _ w2 ⟨rfl, f2⟩
    replace HM := hideP (HM.out.fr f2)
    replace FW := hideP (FW.out.trans f2)
    clear f2
    go_wp2_with fail
    refine (rows_good _ _ _ HM.out HWS.out HO1.out).mono ?_
    rintro _ w3 ⟨ev, es, rfl, oe, hes, hcp, f3⟩
    have en := oe.en
    rw [hes, HO2.out] at en
    obtain ⟨ea, ec, hee, _⟩ := id en
    subst hee
    have HE := hideP en
    replace FW := hideP (FW.out.trans f3)
    clear en oe hes hcp f3
    have cs := sameEntries_eq _ _ l w3 HE.out (HR.out.fr FW.out).en HB.out.1 HLn.out
    go_wp2_with fail
    refine cs.mono ?_
    rintro _ w4 ⟨rfl, f4⟩
    replace FW := hideP (FW.out.trans f4)
    clear f4 cs
    go_wp2_with fail
    go_ret
    exact ⟨rfl, FW.out⟩
  · have H0 := hideP h0
    obtain ⟨x, hx⟩ : ∃ x, CT.ofE l = x := ⟨_, rfl⟩
    have hx0 : x ≠ 0 := by rw [← hx]; exact h0
    have e1 : ((x : Int) != 0) = true := by simp; omega
    have e2 : ¬ ((x : Int) = 0) := by omega
    have HX := hideP hx
    clear hr h0 hx
    go_enter Tryd.func5, Tryd.ntmps5
    go_wp2_with fail
    refine co.mono ?_
    rintro _ w1 ⟨ha, f1⟩
    rcases ha with ⟨h, _⟩ | ⟨_, rfl⟩
    case inl => exact absurd h H0.out
    rw [HX.out]
    have FW := hideP f1
    clear f1 co
    go_wp2_with fail
    refine (catalogBegun_any _).mono ?_
    rintro _ w2 ⟨rfl, f2⟩
    replace FW := hideP (FW.out.trans f2)
    clear f2
    go_wp2_with fail
    go_ret
    exact ⟨rfl, FW.out⟩

set_option maxRecDepth 100000 in
theorem lifted (os : Go.Os) (started : os.Started) (H : Type) (enc : TypeId × Value → H) :
    ReturnsInHanded {} Tryd.checked os 5 .any (fun w args => (Rows.catalogOnlySpec.pre enc Tryd.prog Tryd.f5 [] false w args ∧ laidMetH Tryd.prog Rows.catalogOnlyRow.laid w) ∧ sizedMet enc Tryd.prog Tryd.f5 (OpenSpec.ofChange Rows.catalogOnlySpec) false w args)
      (Rows.catalogOnlySpec.post enc Tryd.prog Tryd.f5 false true false false) := by
  refine returnsInHanded_of_change_and (C := Tryd.checked) (X := fun w _ => laidMetH Tryd.prog Rows.catalogOnlyRow.laid w) (fun _ _ _ hh h => h.of_heap hh) own started (by kernel_rfl) Tryd.func5
    (ChangeSpec.witness_shaped (enc := enc) (C := Tryd.checked) (os := os) (X := fun w _ => laidMetH Tryd.prog Rows.catalogOnlyRow.laid w) false (World.laidAll Tryd.prog os Rows.catalogOnlyRow.laid) #[.slice none 0 0] 8 (World.laidAll_os _ _ _)
      (World.shaped_of_ZipB (by kernel_rfl) (by kernel_rfl)) (by kernel_rfl) (by kernel_rfl) (by kernel_rfl)
      (by rw [MakeChecks.laidMetH_plain _ _ _ (by kernel_rfl)]; exact laidMet_laidAll _ (by kernel_rfl) (by kernel_rfl))) ?_
  intro W base args ds gs before hval0 hW hcnd hsz0 hL _
  have hT : Tb W := tabs_of_laid hL
  have hval : ∀ (j : Nat) t v, Tryd.f5.params[j]? = some t → args[j]? = some v → Value.okWide Tryd.prog W .any base t v := hval0
  have hsz : (DataW.weightsEach Tryd.prog (Tryd.f5.params.toList ++ Rows.catalogOnlySpec.plain.varTypes Tryd.prog) (ds ++ gs)).all (· ≤ reachBytes) = true := hsz0
  have hW' := hW
  obtain ⟨p, q, hA0, hV, rfl, hfz, hnd⟩ := hW
  have hA : DataW.TrodAll enc Tryd.prog W 0 (fun _ => true) true Tryd.f5.params.toList args.toList ds p := hA0
  rw [Tryd.params5] at hA hval hsz
  obtain ⟨v0, vs0, d0, ds0, p0, q0, hargs, rfl, rfl, h0, r0⟩ := trodAll_cons hA
  obtain ⟨rfl, rfl, rfl⟩ := trodAll_nil r0
  obtain rfl : args = #[v0] := by cases args; simp_all
  obtain ⟨rfl, rfl⟩ := trodVars_none hV
  obtain ⟨l0, rw0, b0⟩ := open_ensC (hval 0 23 v0 rfl rfl) h0 (sized_at hsz (j := 0) rfl rfl)
  clear hA0 hval0 hsz0
  refine (walk v0 l0 W hT rw0 b0).mono fun e W' ⟨he, bel⟩ => ?_
  subst he
  exact ⟨_, rfl, _, _, _, [], _, [], hW', trodAll_mk1 (shut_bool Tryd.underlying4 _), (trodAll_cons_mk (shut_ens h0 bel) trodAll_mk0), rfl, Below.frame bel _, fun h => by cases h⟩

theorem over : Rows.catalogOnlyRow.holds Tryd.pinned (OpenSpec.ofChange Rows.catalogOnlySpec) :=
  OpenClaim.holds_of_wide 5 Tryd.f5 rfl rfl rfl rfl rfl rfl rfl ⟨rfl, rfl, rfl, rfl, rfl⟩ rfl rfl rfl rfl rfl (by kernel_rfl) Tryd.func5 (by kernel_rfl)
    (of_decide_eq_true (by kernel_rfl)) (by unfold Func.isWrapper; first | (rw [if_pos (by decide +kernel)]; kernel_rfl) | (rw [if_neg (by decide +kernel)]; exact ⟨rfl, rfl⟩))
    (fun os started H enc _ => lifted os started H enc)

theorem card : Rows.CatalogOnlyCardSaid :=
  Claim7.holds_tied_plain_at .later [] [.data, .data, .data, .data] true (true, "8d2211ed6a6007b92743360380d9896df7fc12362be6d37a3ec93f2599f819d1") false
    over (fun _ h => by cases h) (by kernel_rfl) (fun _ h => by cases h) catalogOnly_row_tie rfl ⟨rfl, rfl⟩ (by kernel_rfl) rfl
    (fun f fn hf hfn => by
      obtain rfl : f = 5 := Option.some.inj ((show Tryd.prog.funcNamed "starling/starlinglaw.CatalogOnly" = some 5 by kernel_rfl).symm.trans hf) |>.symm
      obtain rfl : fn = Tryd.f5 := (Option.some.inj (Tryd.func5.symm.trans hfn)).symm
      exact ⟨by kernel_rfl, fun j t ht => by
        rw [Tryd.params5] at ht
        have hm : t ∈ [23] := by simpa using Array.mem_of_getElem? ht
        have hall : ([23].all fun u => !Tryd.prog.wantsStandIn u) = true := by kernel_rfl
        exact (show Tryd.prog.wantsStandIn t = false by simpa using List.all_eq_true.1 hall t hm)⟩)
    (by kernel_rfl)

end Go.Proofs.YtbbamddlhfelgaaDoor.catalogOnlyProof
namespace Go.Proofs.YtbbamddlhfelgaaDoor
theorem catalogOnly_holds : Rows.CatalogOnlyCardSaid := catalogOnlyProof.card
#print axioms catalogOnly_holds
end Go.Proofs.YtbbamddlhfelgaaDoor
