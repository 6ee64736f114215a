/-
  Proved: for every list of tables and every list of entries CatalogTells answers true: Check, Rows and Of answer just what the document says, errors too. No condition but the form's own reach.
-/
import Derived.Test.YtefojbfihnnpdaaDoorCtYp
import Derived.Test.YtefojbfihnnpdaaDoorOpenE
import Derived.Test.YtefojbfihnnpdaaDoorTabs
namespace Go.Proofs.YtefojbfihnnpdaaDoor.catalogTellsProof
open Go.ChangeShapes Go.WideShapes Go.ChangeAt Go.RowKit
open Go.ChangeMaps (open_string shut_string)
set_option linter.unusedVariables false
set_option linter.unusedSimpArgs false
set_option maxRecDepth 100000

theorem en_nil (w : World) : IsEn w (.slice none 0 0) [] := ⟨none, 0, rfl, .inl rfl⟩
theorem sc_nil (w : World) : IsSc w (.slice none 0 0) [] := ⟨[], isL_nil _ _, rfl, fun p hp => by simp at hp⟩
set_option maxHeartbeats 4000000 in
theorem walk (v : Value) (l : List CT.Sc) (u : Value) (m : List LF.En) (w : World) (hT : Tb w) (hr : IsSc w v l) (hb : BS l) (hm : IsEnC w u m) (hwe : WE m) :
    Calls Tryd.prog 3 #[v, u] w fun e w' => e = .returned (.bool true) ∧ Fr w w' := by
  have HBad := hideP (fun (h : CT.chk l ≠ 0) => rows_bad v l w hr hb.ws h)
  have HGood := hideP (fun (h : CT.chk l = 0) => rows_good v l w hr hb.ws h)
  have HOf := hideP (fun W (f : Fr w W) => of_any u m W (hm.fr f) hwe)
  have HSC := hideP (fun W (f : Fr w W) => schemasCheck_any v l W (hr.fr f) hb.ws)
  have HCC := hideP (fun W (f : Fr w W) => ccheck_any v l W (hr.fr f) hb.ws)
  have HSR := hideP (fun W (f : Fr w W) (h : CT.chk l = 0) => schemaRows_any v l W (hr.fr f) hb.ws h)
  have HSO := hideP (fun W (f : Fr w W) => schemasOf_any u m W (hm.fr f) hwe)
  have HSm := hideP (fun (h : CT.ofE m = 0) => (show m.length ≤ 40 ∧ ∀ e ∈ m, e.2.length ≤ 8 from CT.chk_short (by
    unfold CT.ofE at h
    by_cases h1 : LF.chk m = 0
    · exact h1
    · rw [if_pos h1] at h
      exact absurd h h1)))
  obtain ⟨qs, ⟨pa, pc, hpv, _, _⟩, _, _⟩ := id hr
  subst hpv
  obtain ⟨ua, uc, rfl, _⟩ := id hm
  have HOkc := hideP (fun (h : CT.chk l = 0) => CT.chk_ok h)
  clear hr hm hwe hT hb
  generalize qs.length = ql at *
  by_cases h0 : CT.chk l = 0
  · have cr := HGood.out h0
    have HR0 := hideP (HOkc.out h0)
    have HSR0 := hideP (fun W f => HSR.out W f h0)
    have hlr : (CT.rows l).length ≤ 9223372036854775806 := by
      unfold CT.rows; rw [List.length_map]; have := HR0.out.1; omega
    have hrr : ∀ e ∈ CT.rows l, e.2.length ≤ 9223372036854775806 := by
      intro e he
      obtain ⟨s, hs, rfl⟩ := List.mem_map.1 he
      have := CT.row_len (HR0.out.2 s hs)
      show (CT.row s).length ≤ _
      omega
    rw [h0] at HSC HCC
    have HSE := hideP (fun (x y : Value) (W : World) (hx : IsEn W x (CT.rows l)) (hy : IsEn W y (CT.rows l)) => sameEntries_eq x y (CT.rows l) W hx hy hlr hrr)
    clear HBad HGood HSR hlr hrr HR0 HOkc h0
    go_enter Tryd.func3, Tryd.ntmps3
    go_wp2_with fail
    refine cr.mono ?_
    rintro _ w1 ⟨ev, es, rfl, oe, hes, hcp, f1⟩
    have en := oe.en
    rw [hes] at en
    obtain ⟨ea, ec, hee, _⟩ := id en
    subst hee
    have HE := hideP en
    have FW := hideP f1
    clear en oe hes hcp f1 cr
    go_wp2_with fail
    refine (HOf.out _ FW.out).mono ?_
    rintro _ w2 ⟨ha, f2⟩
    rcases ha with ⟨ho, mv, ps, rfl, os, hps⟩ | ⟨ho, rfl⟩
    · obtain ⟨ma, mn, mc, rfl⟩ := own_slice' os.own
      have is := os.is
      rw [hps] at is
      have HM := hideP is
      obtain ⟨hm40, hm8⟩ := HSm.out ho
      have HSS := hideP (fun (x y : Value) (W : World) (hx : IsSc W x (m.map CT.tabA)) (hy : IsSc W y (m.map CT.tabA)) => sameSchemas_eq x y (m.map CT.tabA) W hx hy (by rw [List.length_map]; omega) (fun s hs => by
        obtain ⟨e, he, rfl⟩ := List.mem_map.1 hs
        have := hm8 e he
        obtain ⟨eid, er⟩ := e
        cases er with
        | nil => simp [CT.tabA]
        | cons x r => simp [CT.tabA] at this ⊢; omega))
      clear is os hps hm40 hm8
      replace HE := hideP (HE.out.fr f2)
      replace FW := hideP (FW.out.trans f2)
      have HO0 := hideP ho
      clear f2 HSm ho
      go_wp2_with fail
      refine (HSC.out _ FW.out).mono ?_
      rintro _ w3 ⟨rfl, f3⟩
      replace HE := hideP (HE.out.fr f3)
      replace HM := hideP (HM.out.fr f3)
      replace FW := hideP (FW.out.trans f3)
      clear f3
      go_wp2_with fail
      refine (HSR0.out _ FW.out).mono ?_
      rintro _ w4 ⟨ev2, es2, rfl, oe2, hes2, f4⟩
      have en2 := oe2.en
      rw [hes2] at en2
      obtain ⟨ea2, ec2, hee2, _⟩ := id en2
      subst hee2
      have HE2 := hideP en2
      replace HE := hideP (HE.out.fr f4)
      replace HM := hideP (HM.out.fr f4)
      replace FW := hideP (FW.out.trans f4)
      clear en2 oe2 hes2 f4
      go_wp2_with fail
      refine (HSO.out _ FW.out).mono ?_
      rintro _ w5 ⟨ha5, f5⟩
      rcases ha5 with ⟨_, mv5, ps5, rfl, os5, hps5⟩ | ⟨hx5, _⟩
      case inr => exact absurd HO0.out hx5
      obtain ⟨ma5, mn5, mc5, rfl⟩ := own_slice' os5.own
      have is5 := os5.is
      rw [hps5] at is5
      have HM5 := hideP is5
      clear is5 os5 hps5
      replace HE := hideP (HE.out.fr f5)
      replace HM := hideP (HM.out.fr f5)
      replace HE2 := hideP (HE2.out.fr f5)
      replace FW := hideP (FW.out.trans f5)
      clear f5
      go_wp2_with fail
      refine (catalogBegun_any _).mono ?_
      rintro _ w6 ⟨rfl, f6⟩
      replace HE := hideP (HE.out.fr f6)
      replace HM := hideP (HM.out.fr f6)
      replace HE2 := hideP (HE2.out.fr f6)
      replace HM5 := hideP (HM5.out.fr f6)
      replace FW := hideP (FW.out.trans f6)
      clear f6
      go_wp2_with fail
      refine (HCC.out _ FW.out).mono ?_
      rintro _ w7 ⟨rfl, f7⟩
      replace HE := hideP (HE.out.fr f7)
      replace HM := hideP (HM.out.fr f7)
      replace HE2 := hideP (HE2.out.fr f7)
      replace HM5 := hideP (HM5.out.fr f7)
      replace FW := hideP (FW.out.trans f7)
      clear f7
      go_wp2_with fail
      refine (HSE.out _ _ _ HE.out HE2.out).mono ?_
      rintro _ w8 ⟨rfl, f8⟩
      replace HM := hideP (HM.out.fr f8)
      replace HM5 := hideP (HM5.out.fr f8)
      replace FW := hideP (FW.out.trans f8)
      clear f8
      go_wp2_with fail
      refine (HSS.out _ _ _ HM.out HM5.out).mono ?_
      rintro _ w9 ⟨rfl, f9⟩
      replace FW := hideP (FW.out.trans f9)
      clear f9
      go_wp2_with fail
      go_ret
      exact ⟨by simp, FW.out⟩
    · have HSS := hideP (fun (W : World) => sameSchemas_eq (.slice none 0 0) (.slice none 0 0) [] W (sc_nil W) (sc_nil W) (by simp) (fun s hs => by simp at hs))
      replace HE := hideP (HE.out.fr f2)
      replace FW := hideP (FW.out.trans f2)
      have HO0 := hideP ho
      clear f2 HSm ho
      go_wp2_with fail
      refine (HSC.out _ FW.out).mono ?_
      rintro _ w3 ⟨rfl, f3⟩
      replace HE := hideP (HE.out.fr f3)
      replace FW := hideP (FW.out.trans f3)
      clear f3
      go_wp2_with fail
      refine (HSR0.out _ FW.out).mono ?_
      rintro _ w4 ⟨ev2, es2, rfl, oe2, hes2, f4⟩
      have en2 := oe2.en
      rw [hes2] at en2
      obtain ⟨ea2, ec2, hee2, _⟩ := id en2
      subst hee2
      have HE2 := hideP en2
      replace HE := hideP (HE.out.fr f4)
      replace FW := hideP (FW.out.trans f4)
      clear en2 oe2 hes2 f4
      go_wp2_with fail
      refine (HSO.out _ FW.out).mono ?_
      rintro _ w5 ⟨ha5, f5⟩
      rcases ha5 with ⟨hx5, _⟩ | ⟨_, rfl⟩
      case inl => exact absurd hx5 HO0.out
      generalize CT.ofE m = oz at *
      replace HE := hideP (HE.out.fr f5)
      replace HE2 := hideP (HE2.out.fr f5)
      replace FW := hideP (FW.out.trans f5)
      clear f5
      go_wp2_with fail
      refine (catalogBegun_any _).mono ?_
      rintro _ w6 ⟨rfl, f6⟩
      replace HE := hideP (HE.out.fr f6)
      replace HE2 := hideP (HE2.out.fr f6)
      replace FW := hideP (FW.out.trans f6)
      clear f6
      go_wp2_with fail
      refine (HCC.out _ FW.out).mono ?_
      rintro _ w7 ⟨rfl, f7⟩
      replace HE := hideP (HE.out.fr f7)
      replace HE2 := hideP (HE2.out.fr f7)
      replace FW := hideP (FW.out.trans f7)
      clear f7
      go_wp2_with fail
      refine (HSE.out _ _ _ HE.out HE2.out).mono ?_
      rintro _ w8 ⟨rfl, f8⟩
      replace FW := hideP (FW.out.trans f8)
      clear f8
      go_wp2_with fail
      refine (HSS.out _).mono ?_
      rintro _ w9 ⟨rfl, f9⟩
      replace FW := hideP (FW.out.trans f9)
      clear f9
      go_wp2_with fail
      go_ret
      exact ⟨by simp, FW.out⟩
  · have cr := HBad.out h0
    generalize CT.chk l = z at *
    have e1 : ((z : Int) == 0) = false := by simp; omega
    have e2 : ¬ ((z : Int) = 0) := by omega
    have HSE := hideP (fun (W : World) => sameEntries_eq (.slice none 0 0) (.slice none 0 0) [] W (en_nil W) (en_nil W) (by simp) (fun e he => by simp at he))
    clear HBad HGood HSR HOkc
    go_enter Tryd.func3, Tryd.ntmps3
    go_wp2_with fail
    refine cr.mono ?_
    rintro _ w1 ⟨rfl, f1⟩
    have FW := hideP f1
    clear f1 cr
    go_wp2_with fail
    refine (HOf.out _ FW.out).mono ?_
    rintro _ w2 ⟨ha, f2⟩
    rcases ha with ⟨ho, mv, ps, rfl, os, hps⟩ | ⟨ho, rfl⟩
    · obtain ⟨ma, mn, mc, rfl⟩ := own_slice' os.own
      have is := os.is
      rw [hps] at is
      have HM := hideP is
      obtain ⟨hm40, hm8⟩ := HSm.out ho
      have HSS := hideP (fun (x y : Value) (W : World) (hx : IsSc W x (m.map CT.tabA)) (hy : IsSc W y (m.map CT.tabA)) => sameSchemas_eq x y (m.map CT.tabA) W hx hy (by rw [List.length_map]; omega) (fun s hs => by
        obtain ⟨e, he, rfl⟩ := List.mem_map.1 hs
        have := hm8 e he
        obtain ⟨eid, er⟩ := e
        cases er with
        | nil => simp [CT.tabA]
        | cons x r => simp [CT.tabA] at this ⊢; omega))
      clear is os hps hm40 hm8
      replace FW := hideP (FW.out.trans f2)
      have HO0 := hideP ho
      clear f2 HSm ho
      go_wp2_with fail
      refine (HSC.out _ FW.out).mono ?_
      rintro _ w3 ⟨rfl, f3⟩
      replace HM := hideP (HM.out.fr f3)
      replace FW := hideP (FW.out.trans f3)
      clear f3
      go_wp2_with fail
      refine (HSO.out _ FW.out).mono ?_
      rintro _ w5 ⟨ha5, f5⟩
      rcases ha5 with ⟨_, mv5, ps5, rfl, os5, hps5⟩ | ⟨hx5, _⟩
      case inr => exact absurd HO0.out hx5
      obtain ⟨ma5, mn5, mc5, rfl⟩ := own_slice' os5.own
      have is5 := os5.is
      rw [hps5] at is5
      have HM5 := hideP is5
      clear is5 os5 hps5
      replace HM := hideP (HM.out.fr f5)
      replace FW := hideP (FW.out.trans f5)
      clear f5
      go_wp2_with fail
      refine (catalogBegun_any _).mono ?_
      rintro _ w6 ⟨rfl, f6⟩
      replace HM := hideP (HM.out.fr f6)
      replace HM5 := hideP (HM5.out.fr f6)
      replace FW := hideP (FW.out.trans f6)
      clear f6
      go_wp2_with fail
      refine (HCC.out _ FW.out).mono ?_
      rintro _ w7 ⟨rfl, f7⟩
      replace HM := hideP (HM.out.fr f7)
      replace HM5 := hideP (HM5.out.fr f7)
      replace FW := hideP (FW.out.trans f7)
      clear f7
      go_wp2_with fail
      refine (HSE.out _).mono ?_
      rintro _ w8 ⟨rfl, f8⟩
      replace HM := hideP (HM.out.fr f8)
      replace HM5 := hideP (HM5.out.fr f8)
      replace FW := hideP (FW.out.trans f8)
      clear f8
      go_wp2_with fail
      refine (HSS.out _ _ _ HM.out HM5.out).mono ?_
      rintro _ w9 ⟨rfl, f9⟩
      replace FW := hideP (FW.out.trans f9)
      clear f9
      go_wp2_with fail
      go_ret
      exact ⟨by simp, FW.out⟩
    · have HSS := hideP (fun (W : World) => sameSchemas_eq (.slice none 0 0) (.slice none 0 0) [] W (sc_nil W) (sc_nil W) (by simp) (fun s hs => by simp at hs))
      replace FW := hideP (FW.out.trans f2)
      have HO0 := hideP ho
      clear f2 HSm ho
      go_wp2_with fail
      refine (HSC.out _ FW.out).mono ?_
      rintro _ w3 ⟨rfl, f3⟩
      replace FW := hideP (FW.out.trans f3)
      clear f3
      go_wp2_with fail
      refine (HSO.out _ FW.out).mono ?_
      rintro _ w5 ⟨ha5, f5⟩
      rcases ha5 with ⟨hx5, _⟩ | ⟨_, rfl⟩
      case inl => exact absurd hx5 HO0.out
      generalize CT.ofE m = oz at *
      replace FW := hideP (FW.out.trans f5)
      clear f5
      go_wp2_with fail
      refine (catalogBegun_any _).mono ?_
      rintro _ w6 ⟨rfl, f6⟩
      replace FW := hideP (FW.out.trans f6)
      clear f6
      go_wp2_with fail
      refine (HCC.out _ FW.out).mono ?_
      rintro _ w7 ⟨rfl, f7⟩
      replace FW := hideP (FW.out.trans f7)
      clear f7
      go_wp2_with fail
      refine (HSE.out _).mono ?_
      rintro _ w8 ⟨rfl, f8⟩
      replace FW := hideP (FW.out.trans f8)
      clear f8
      go_wp2_with fail
      refine (HSS.out _).mono ?_
      rintro _ w9 ⟨rfl, f9⟩
      replace FW := hideP (FW.out.trans f9)
      clear f9
      go_wp2_with fail
      go_ret
      exact ⟨by simp, FW.out⟩

set_option maxRecDepth 100000 in
theorem lifted (os : Go.Os) (started : os.Started) (H : Type) (enc : TypeId × Value → H) :
    ReturnsInHanded {} Tryd.checked os 3 .any (fun w args => (Rows.catalogTellsSpec.pre enc Tryd.prog Tryd.f3 [] false w args ∧ laidMetH Tryd.prog Rows.catalogTellsRow.laid w) ∧ sizedMet enc Tryd.prog Tryd.f3 (OpenSpec.ofChange Rows.catalogTellsSpec) false w args)
      (Rows.catalogTellsSpec.post enc Tryd.prog Tryd.f3 false true false false) := by
  refine returnsInHanded_of_change_and (C := Tryd.checked) (X := fun w _ => laidMetH Tryd.prog Rows.catalogTellsRow.laid w) (fun _ _ _ hh h => h.of_heap hh) own started (by kernel_rfl) Tryd.func3
    (ChangeSpec.witness_shaped (enc := enc) (C := Tryd.checked) (os := os) (X := fun w _ => laidMetH Tryd.prog Rows.catalogTellsRow.laid w) false (World.laidAll Tryd.prog os Rows.catalogTellsRow.laid) #[.slice none 0 0, .slice none 0 0] 8 (World.laidAll_os _ _ _)
      (World.shaped_of_ZipB (by kernel_rfl) (by kernel_rfl)) (by kernel_rfl) (by kernel_rfl) (by kernel_rfl)
      (by rw [MakeChecks.laidMetH_plain _ _ _ (by kernel_rfl)]; exact laidMet_laidAll _ (by kernel_rfl) (by kernel_rfl))) ?_
  intro W base args ds gs before hval0 hW hcnd hsz0 hL _
  have hT : Tb W := tabs_of_laid hL
  have hval : ∀ (j : Nat) t v, Tryd.f3.params[j]? = some t → args[j]? = some v → Value.okWide Tryd.prog W .any base t v := hval0
  have hsz : (DataW.weightsEach Tryd.prog (Tryd.f3.params.toList ++ Rows.catalogTellsSpec.plain.varTypes Tryd.prog) (ds ++ gs)).all (· ≤ reachBytes) = true := hsz0
  have hW' := hW
  obtain ⟨p, q, hA0, hV, rfl, hfz, hnd⟩ := hW
  have hA : DataW.TrodAll enc Tryd.prog W 0 (fun _ => true) true Tryd.f3.params.toList args.toList ds p := hA0
  rw [Tryd.params3] at hA hval hsz
  obtain ⟨v0, vs0, d0, ds0, p0, q0, hargs, rfl, rfl, h0, r0⟩ := trodAll_cons hA
  obtain ⟨v1, vs1, d1, ds1, p1, q1, rfl, rfl, rfl, h1, r1⟩ := trodAll_cons r0
  obtain ⟨rfl, rfl, rfl⟩ := trodAll_nil r1
  obtain rfl : args = #[v0, v1] := by cases args; simp_all
  obtain ⟨rfl, rfl⟩ := trodVars_none hV
  obtain ⟨l0, rw0, b0⟩ := open_scs (hval 0 22 v0 rfl rfl) h0 (sized_at hsz (j := 0) rfl rfl)
  obtain ⟨l1, rw1, b1⟩ := open_ensC (hval 1 23 v1 rfl rfl) h1 (sized_at hsz (j := 1) rfl rfl)
  clear hA0 hval0 hsz0
  refine (walk v0 l0 v1 l1 W hT rw0 b0 rw1 b1).mono fun e W' ⟨he, bel⟩ => ?_
  subst he
  exact ⟨_, rfl, _, _, _, [], _, [], hW', trodAll_mk1 (shut_bool Tryd.underlying4 _), (trodAll_cons_mk (shut_scs h0 bel) (trodAll_cons_mk (shut_ens h1 bel) trodAll_mk0)), rfl, Below.frame bel _, fun h => by cases h⟩

theorem over : Rows.catalogTellsRow.holds Tryd.pinned (OpenSpec.ofChange Rows.catalogTellsSpec) :=
  OpenClaim.holds_of_wide 3 Tryd.f3 rfl rfl rfl rfl rfl rfl rfl ⟨rfl, rfl, rfl, rfl, rfl⟩ rfl rfl rfl rfl rfl (by kernel_rfl) Tryd.func3 (by kernel_rfl)
    (of_decide_eq_true (by kernel_rfl)) (by unfold Func.isWrapper; first | (rw [if_pos (by decide +kernel)]; kernel_rfl) | (rw [if_neg (by decide +kernel)]; exact ⟨rfl, rfl⟩))
    (fun os started H enc _ => lifted os started H enc)

theorem card : Rows.CatalogTellsCardSaid :=
  Claim7.holds_tied_plain_at .later [] [.data, .data, .data, .data] true (true, "8d2211ed6a6007b92743360380d9896df7fc12362be6d37a3ec93f2599f819d1") false
    over (fun _ h => by cases h) (by kernel_rfl) (fun _ h => by cases h) catalogTells_row_tie rfl ⟨rfl, rfl⟩ (by kernel_rfl) rfl
    (fun f fn hf hfn => by
      obtain rfl : f = 3 := Option.some.inj ((show Tryd.prog.funcNamed "starling/starlinglaw.CatalogTells" = some 3 by kernel_rfl).symm.trans hf) |>.symm
      obtain rfl : fn = Tryd.f3 := (Option.some.inj (Tryd.func3.symm.trans hfn)).symm
      exact ⟨by kernel_rfl, fun j t ht => by
        rw [Tryd.params3] at ht
        have hm : t ∈ [22, 23] := by simpa using Array.mem_of_getElem? ht
        have hall : ([22, 23].all fun u => !Tryd.prog.wantsStandIn u) = true := by kernel_rfl
        exact (show Tryd.prog.wantsStandIn t = false by simpa using List.all_eq_true.1 hall t hm)⟩)
    (by kernel_rfl)

end Go.Proofs.YtefojbfihnnpdaaDoor.catalogTellsProof
namespace Go.Proofs.YtefojbfihnnpdaaDoor
theorem catalogTells_holds : Rows.CatalogTellsCardSaid := catalogTellsProof.card
#print axioms catalogTells_holds
end Go.Proofs.YtefojbfihnnpdaaDoor
