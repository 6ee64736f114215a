/-
  Proved: for every list of tables CatalogBack answers true: tables are read from their rows as they were. No condition but the form's own reach.
-/
import Derived.Test.YtbbamddlhfelgaaDoorTabs
namespace Go.Proofs.YtbbamddlhfelgaaDoor.catalogBackProof
open Go.ChangeShapes Go.WideShapes Go.ChangeAt Go.RowKit
open Go.ChangeMaps (open_string shut_string)
set_option linter.unusedVariables false
set_option linter.unusedSimpArgs false
set_option maxRecDepth 100000

theorem rows_we {l : List CT.Sc} (h : CT.chk l = 0) : WE (CT.rows l) := by
  obtain ⟨h6, hok⟩ := CT.chk_ok h
  refine ⟨by simp [CT.rows]; omega, ?_⟩
  intro e he
  obtain ⟨s, hs, rfl⟩ := List.mem_map.1 he
  have ho := hok s hs
  refine ⟨⟨⟨⟨by show -9223372036854775808 ≤ s.id; have := ho.lo; omega, by show s.id ≤ 9223372036854775807; have := ho.hi; omega⟩, ?_⟩, by have := CT.row_len ho; show (CT.row s).length ≤ _; omega⟩, ?_⟩
  · intro x hx
    have := (CT.row_small ho x hx).2.2
    exact ⟨by omega, by omega⟩
  · intro x hx
    have := (CT.row_small ho x hx).1
    omega
set_option maxHeartbeats 2000000 in
theorem walk (v : Value) (l : List CT.Sc) (w : World) (hT : Tb w) (hr : IsSc w v l) (hb : BS l) :
    Calls Tryd.prog 4 #[v] w fun e w' => e = .returned (.bool true) ∧ Fr w w' := by
  have hl : l.length ≤ 9223372036854775806 := by have := hb.len; omega
  by_cases h0 : CT.chk l = 0
  · have cr := rows_good v l w hr hb.ws h0
    obtain ⟨o1, o2⟩ := CT.of_rows h0
    have hwe := rows_we h0
    have HR := hideP hr
    have HO1 := hideP o1
    have HO2 := hideP o2
    have HWE := hideP hwe
    obtain ⟨ps, ⟨pa, pc, hpv, hpl, _⟩, _, _⟩ := id hr
    subst hpv
    have HB := hideP hb
    clear hr o1 o2 hwe hb
    go_enter Tryd.func4, Tryd.ntmps4
    go_wp2_with fail
    refine cr.mono ?_
    rintro _ w1 ⟨ev, es, rfl, oe, hes, hcp, f1⟩
    have en := oe.enC hcp
    rw [hes] at en
    obtain ⟨ea, ec, hee, _⟩ := id en
    subst hee
    have HE := hideP en
    have FW := hideP f1
    clear en oe hes hcp f1 cr
    go_wp2_with fail
    refine (catalogBegun_any _).mono ?_
    rintro _ w2 ⟨rfl, f2⟩
    replace HE := hideP (HE.out.fr f2)
    replace FW := hideP (FW.out.trans f2)
    clear f2
    go_wp2_with fail
    refine (of_any _ _ _ HE.out HWE.out).mono ?_
    rintro _ w3 ⟨ha, f3⟩
    rcases ha with ⟨_, mv, qs, rfl, os, hqs⟩ | ⟨hne, _⟩
    case inr => exact absurd HO1.out hne
    have is := os.is
    rw [hqs, HO2.out] at is
    obtain ⟨ma, mn, mc, rfl⟩ := own_slice' os.own
    have HM := hideP is
    replace FW := hideP (FW.out.trans f3)
    clear is os hqs f3
    have cs := sameSchemas_eq _ _ l w3 HM.out (HR.out.fr FW.out) hl (fun s hs => (HB.out.ws s hs).2.2)
    go_wp2_with fail
    refine cs.mono ?_
    rintro _ w4 ⟨rfl, f4⟩
    replace FW := hideP (FW.out.trans f4)
    clear f4 cs
    go_wp2_with fail
    go_ret
    exact ⟨rfl, FW.out⟩
  · have cr := rows_bad v l w hr hb.ws h0
    obtain ⟨ps, ⟨pa, pc, hpv, hpl, _⟩, _, _⟩ := id hr
    subst hpv
    generalize CT.chk l = x at cr h0
    have e1 : ((x : Int) != 0) = true := by simp; omega
    have e2 : ¬ ((x : Int) = 0) := by omega
    clear hr
    go_enter Tryd.func4, Tryd.ntmps4
    go_wp2_with fail
    refine cr.mono ?_
    rintro _ w1 ⟨rfl, f1⟩
    have FW := hideP f1
    clear f1 cr
    go_wp2_with fail
    refine (catalogBegun_any _).mono ?_
    rintro _ w2 ⟨rfl, f2⟩
    replace FW := hideP (FW.out.trans f2)
    clear f2
    go_wp2_with fail
    go_ret
    exact ⟨rfl, FW.out⟩

set_option maxRecDepth 100000 in
theorem lifted (os : Go.Os) (started : os.Started) (H : Type) (enc : TypeId × Value → H) :
    ReturnsInHanded {} Tryd.checked os 4 .any (fun w args => (Rows.catalogBackSpec.pre enc Tryd.prog Tryd.f4 [] false w args ∧ laidMetH Tryd.prog Rows.catalogBackRow.laid w) ∧ sizedMet enc Tryd.prog Tryd.f4 (OpenSpec.ofChange Rows.catalogBackSpec) false w args)
      (Rows.catalogBackSpec.post enc Tryd.prog Tryd.f4 false true false false) := by
  refine returnsInHanded_of_change_and (C := Tryd.checked) (X := fun w _ => laidMetH Tryd.prog Rows.catalogBackRow.laid w) (fun _ _ _ hh h => h.of_heap hh) own started (by kernel_rfl) Tryd.func4
    (ChangeSpec.witness_shaped (enc := enc) (C := Tryd.checked) (os := os) (X := fun w _ => laidMetH Tryd.prog Rows.catalogBackRow.laid w) false (World.laidAll Tryd.prog os Rows.catalogBackRow.laid) #[.slice none 0 0] 8 (World.laidAll_os _ _ _)
      (World.shaped_of_ZipB (by kernel_rfl) (by kernel_rfl)) (by kernel_rfl) (by kernel_rfl) (by kernel_rfl)
      (by rw [MakeChecks.laidMetH_plain _ _ _ (by kernel_rfl)]; exact laidMet_laidAll _ (by kernel_rfl) (by kernel_rfl))) ?_
  intro W base args ds gs before hval0 hW hcnd hsz0 hL _
  have hT : Tb W := tabs_of_laid hL
  have hval : ∀ (j : Nat) t v, Tryd.f4.params[j]? = some t → args[j]? = some v → Value.okWide Tryd.prog W .any base t v := hval0
  have hsz : (DataW.weightsEach Tryd.prog (Tryd.f4.params.toList ++ Rows.catalogBackSpec.plain.varTypes Tryd.prog) (ds ++ gs)).all (· ≤ reachBytes) = true := hsz0
  have hW' := hW
  obtain ⟨p, q, hA0, hV, rfl, hfz, hnd⟩ := hW
  have hA : DataW.TrodAll enc Tryd.prog W 0 (fun _ => true) true Tryd.f4.params.toList args.toList ds p := hA0
  rw [Tryd.params4] at hA hval hsz
  obtain ⟨v0, vs0, d0, ds0, p0, q0, hargs, rfl, rfl, h0, r0⟩ := trodAll_cons hA
  obtain ⟨rfl, rfl, rfl⟩ := trodAll_nil r0
  obtain rfl : args = #[v0] := by cases args; simp_all
  obtain ⟨rfl, rfl⟩ := trodVars_none hV
  obtain ⟨l0, rw0, b0⟩ := open_scs (hval 0 22 v0 rfl rfl) h0 (sized_at hsz (j := 0) rfl rfl)
  clear hA0 hval0 hsz0
  refine (walk v0 l0 W hT rw0 b0).mono fun e W' ⟨he, bel⟩ => ?_
  subst he
  exact ⟨_, rfl, _, _, _, [], _, [], hW', trodAll_mk1 (shut_bool Tryd.underlying4 _), (trodAll_cons_mk (shut_scs h0 bel) trodAll_mk0), rfl, Below.frame bel _, fun h => by cases h⟩

theorem over : Rows.catalogBackRow.holds Tryd.pinned (OpenSpec.ofChange Rows.catalogBackSpec) :=
  OpenClaim.holds_of_wide 4 Tryd.f4 rfl rfl rfl rfl rfl rfl rfl ⟨rfl, rfl, rfl, rfl, rfl⟩ rfl rfl rfl rfl rfl (by kernel_rfl) Tryd.func4 (by kernel_rfl)
    (of_decide_eq_true (by kernel_rfl)) (by unfold Func.isWrapper; first | (rw [if_pos (by decide +kernel)]; kernel_rfl) | (rw [if_neg (by decide +kernel)]; exact ⟨rfl, rfl⟩))
    (fun os started H enc _ => lifted os started H enc)

theorem card : Rows.CatalogBackCardSaid :=
  Claim7.holds_tied_plain_at .later [] [.data, .data, .data, .data] true (true, "8d2211ed6a6007b92743360380d9896df7fc12362be6d37a3ec93f2599f819d1") false
    over (fun _ h => by cases h) (by kernel_rfl) (fun _ h => by cases h) catalogBack_row_tie rfl ⟨rfl, rfl⟩ (by kernel_rfl) rfl
    (fun f fn hf hfn => by
      obtain rfl : f = 4 := Option.some.inj ((show Tryd.prog.funcNamed "starling/starlinglaw.CatalogBack" = some 4 by kernel_rfl).symm.trans hf) |>.symm
      obtain rfl : fn = Tryd.f4 := (Option.some.inj (Tryd.func4.symm.trans hfn)).symm
      exact ⟨by kernel_rfl, fun j t ht => by
        rw [Tryd.params4] at ht
        have hm : t ∈ [22] := by simpa using Array.mem_of_getElem? ht
        have hall : ([22].all fun u => !Tryd.prog.wantsStandIn u) = true := by kernel_rfl
        exact (show Tryd.prog.wantsStandIn t = false by simpa using List.all_eq_true.1 hall t hm)⟩)
    (by kernel_rfl)

end Go.Proofs.YtbbamddlhfelgaaDoor.catalogBackProof
namespace Go.Proofs.YtbbamddlhfelgaaDoor
theorem catalogBack_holds : Rows.CatalogBackCardSaid := catalogBackProof.card
#print axioms catalogBack_holds
end Go.Proofs.YtbbamddlhfelgaaDoor
