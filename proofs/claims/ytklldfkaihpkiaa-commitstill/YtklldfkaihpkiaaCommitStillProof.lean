/-
  Proved: for every store and all writes CommitStill answers true: who is recovered is recovered: once more nothing changes; and steps can be done from there. No condition but the form's own reach.
-/
import Derived.Test.YtklldfkaihpkiaaJdL
import Derived.Test.YtklldfkaihpkiaaJdV
import Derived.Test.YtklldfkaihpkiaaJdX
import Derived.Test.YtklldfkaihpkiaaOpenD
namespace Go.Proofs.Ytklldfkaihpkiaa.CommitStill
open Go.ChangeShapes Go.WideShapes Go.ChangeAt Go.RowKit
set_option linter.unusedVariables false
set_option linter.unusedSimpArgs false
set_option maxRecDepth 100000

theorem rec_bad (s : JN.S) (h : (JN.recS s).2 ≠ 0) : (JN.recS s).1 = JN.noneS := by
  unfold JN.recS at h ⊢
  by_cases e : (JN.undoS s).2 = 0
  · rw [if_pos e] at h ⊢; exact JN.play_badD _ _ h
  · rw [if_neg e]
theorem steps_err (s : JN.S) (l : List JN.W) : (JN.stepsS s l).2 = JN.stepsChk s l := by
  unfold JN.stepsS
  by_cases e : JN.stepsChk s l = 0
  · rw [if_pos e, e]
  · rw [if_neg e]
set_option maxHeartbeats 8000000 in
theorem walk (p q P Q : Value) (s : JN.S) (v : Value) (l : List JN.W) (w : World) (hr : IsS w p q P Q s) (hb : BD s.da ∧ BD s.jo) (hl : IsL cdW w v l) (ho : ∀ y ∈ l, -9223372036854775808 ≤ y.no ∧ y.no ≤ 9223372036854775807) (hlen : l.length * 24 ≤ 140737488351232) :
    Calls Try.prog 14 #[.agg #[p, q, P, Q], v] w fun e w' => e = .returned (.bool true) ∧ Fr w w' := by
  obtain ⟨aS, nS, dS, rfl⟩ := hr.1.1.slice
  obtain ⟨eS, mS, hS, rfl⟩ := hr.1.2.slice
  obtain ⟨AS, NS, CS, rfl⟩ := hr.2.1.slice
  obtain ⟨ES, MS, GS, rfl⟩ := hr.2.2.slice
  obtain ⟨av, nv, cv, rfl⟩ := hl.slice
  have hb1 := hb.1.pl
  have hb2 := hb.2.pl
  have VS := hideP (SV.new hr)
  have HF : Hid (Fr w (w.alloc (.cells #[.slice aS nS dS, .slice eS mS hS, .slice AS NS CS, .slice ES MS GS] 46))) := (Fr.refl w).alloc _
  have LL := hideP (hl.fr ((Fr.refl w).alloc (.cells #[.slice aS nS dS, .slice eS mS hS, .slice AS NS CS, .slice ES MS GS] 46)))
  clear hr hl ho hb
  have hfew := JN.few_rec s
  have hbad := rec_bad s
  have hst := fun h => JN.commit_still (s := s) h
  obtain ⟨⟨t, y⟩, hx⟩ : ∃ r, JN.recS s = r := ⟨_, rfl⟩
  rw [hx] at hfew hbad hst
  obtain ⟨g1, g2, g3, g4⟩ := hfew
  simp only at g1 g2 g3 g4 hbad hst
  have HX := hideP hx
  clear hx
  by_cases h0 : y = 0
  · subst h0
    obtain ⟨h5, h6⟩ := hst rfl
    have hse := steps_err t l
    obtain ⟨⟨o, z⟩, hz⟩ : ∃ r, JN.stepsS t l = r := ⟨_, rfl⟩
    rw [hz] at hse
    simp only at hse
    have H5 := hideP h5
    have H6 := hideP h6
    have HZ := hideP hz
    have HE := hideP hse.symm
    clear hst hbad h5 h6 hz hse
    go_enter Try.func14, Try.ntmps14
    obtain ⟨kS0, kS1, kS2, kS3, _, _, _, _⟩ := VS.out.b.four
    have c21 := recover_any _ _ _ _ s (w.alloc (.cells #[.slice aS nS dS, .slice eS mS hS, .slice AS NS CS, .slice ES MS GS] 46)) VS.out.s hb1 hb2
    rw [HX.out] at c21
    go_wp2_with fail
    refine c21.mono ?_
    rintro _ w21 ⟨pT, qT, PT, QT, rfl, sT, xT, yT, f21⟩
    clear c21
    clear kS0 kS1 kS2 kS3
    obtain ⟨aT, nT, dT, rfl⟩ := sT.1.1.slice
    obtain ⟨eT, mT, hT, rfl⟩ := sT.1.2.slice
    obtain ⟨AT, NT, CT, rfl⟩ := sT.2.1.slice
    obtain ⟨ET, MT, GT, rfl⟩ := sT.2.2.slice
    have NV := SV.new sT
    have g21 : Fr (w.alloc (.cells #[.slice aS nS dS, .slice eS mS hS, .slice AS NS CS, .slice ES MS GS] 46)) (w21.alloc (.cells #[.slice aT nT dT, .slice eT mT hT, .slice AT NT CT, .slice ET MT GT] 46)) := f21.alloc _
    replace VS := hideP (VS.out.fr g21)
    replace LL := hideP (LL.out.fr g21)
    replace HF := hideP (HF.out.trans g21)
    have VT := hideP NV
    have XT := hideP xT
    have YT := hideP yT
    clear NV g21 f21 sT xT yT
    have c22 := journalBegun_any (w21.alloc (.cells #[.slice aT nT dT, .slice eT mT hT, .slice AT NT CT, .slice ET MT GT] 46))
    go_wp2_with fail
    refine c22.mono ?_
    rintro _ w22 ⟨rfl, f22⟩
    clear c22
    replace VS := hideP (VS.out.fr f22)
    replace VT := hideP (VT.out.fr f22)
    replace LL := hideP (LL.out.fr f22)
    replace HF := hideP (HF.out.trans f22)
    clear f22
    obtain ⟨kT0, kT1, kT2, kT3, _, _, _, _⟩ := VT.out.b.four
    have c23 := recover_any _ _ _ _ t w22 VT.out.s (by omega) (by omega)
    rw [H5.out] at c23
    go_wp2_with fail
    refine c23.mono ?_
    rintro _ w23 ⟨pU, qU, PU, QU, rfl, sU, xU, yU, f23⟩
    clear c23
    clear kT0 kT1 kT2 kT3
    obtain ⟨aU, nU, dU, rfl⟩ := sU.1.1.slice
    obtain ⟨eU, mU, hU, rfl⟩ := sU.1.2.slice
    obtain ⟨AU, NU, CU, rfl⟩ := sU.2.1.slice
    obtain ⟨EU, MU, GU, rfl⟩ := sU.2.2.slice
    have NV := SV.new sU
    have g23 : Fr w22 (w23.alloc (.cells #[.slice aU nU dU, .slice eU mU hU, .slice AU NU CU, .slice EU MU GU] 46)) := f23.alloc _
    replace VS := hideP (VS.out.fr g23)
    replace VT := hideP (VT.out.fr g23)
    replace LL := hideP (LL.out.fr g23)
    replace HF := hideP (HF.out.trans g23)
    have VU := hideP NV
    have XU := hideP xU
    have YU := hideP yU
    clear NV g23 f23 sU xU yU
    obtain ⟨kT0, kT1, kT2, kT3, _, _, _, _⟩ := VT.out.b.four
    have c24 := steps_any _ _ _ _ _ t l (w23.alloc (.cells #[.slice aU nU dU, .slice eU mU hU, .slice AU NU CU, .slice EU MU GU] 46)) VT.out.s LL.out (by omega) (by omega)
    rw [HZ.out] at c24
    go_wp2_with fail
    refine c24.mono ?_
    rintro _ w24 ⟨vO, rfl, oO, f24⟩
    clear c24
    clear kT0 kT1 kT2 kT3
    obtain ⟨aO, nO, dO, rfl⟩ := own_slice' oO
    replace VS := hideP (VS.out.fr f24)
    replace VT := hideP (VT.out.fr f24)
    replace VU := hideP (VU.out.fr f24)
    replace LL := hideP (LL.out.fr f24)
    replace HF := hideP (HF.out.trans f24)
    have LO := hideP (isL_own oO)
    clear oO f24
    obtain ⟨kU0, kU1, kU2, kU3, _, _, _, _⟩ := VU.out.b.four
    obtain ⟨kT0, kT1, kT2, kT3, _, _, _, _⟩ := VT.out.b.four
    have c25 := sameStore_eq _ _ _ _ _ _ _ _ t w24 VU.out.s.1 VU.out.s.2 VT.out.s.1 VT.out.s.2 (by omega) (by omega) (by omega) (by omega)
    go_wp2_with fail
    refine c25.mono ?_
    rintro _ w25 ⟨rfl, f25⟩
    clear c25
    clear kU0 kU1 kU2 kU3
    clear kT0 kT1 kT2 kT3
    replace VS := hideP (VS.out.fr f25)
    replace VT := hideP (VT.out.fr f25)
    replace VU := hideP (VU.out.fr f25)
    replace LL := hideP (LL.out.fr f25)
    replace LO := hideP (LO.out.fr f25)
    replace HF := hideP (HF.out.trans f25)
    clear f25
    obtain ⟨kT0, kT1, kT2, kT3, _, _, _, _⟩ := VT.out.b.four
    have c26 := plainEnd_true _ _ _ _ t w25 VT.out.s H6.out
    go_wp2_with fail
    refine c26.mono ?_
    rintro _ w26 ⟨rfl, f26⟩
    clear c26
    clear kT0 kT1 kT2 kT3
    replace VS := hideP (VS.out.fr f26)
    replace VT := hideP (VT.out.fr f26)
    replace VU := hideP (VU.out.fr f26)
    replace LL := hideP (LL.out.fr f26)
    replace LO := hideP (LO.out.fr f26)
    replace HF := hideP (HF.out.trans f26)
    clear f26
    obtain ⟨kT0, kT1, kT2, kT3, _, _, _, _⟩ := VT.out.b.four
    have c27 := stepsCheck_any _ _ _ _ _ t l w26 VT.out.s LL.out (by omega) (by omega) (by omega) (by omega) (by omega)
    rw [HE.out] at c27
    go_wp2_with fail
    refine c27.mono ?_
    rintro _ w27 ⟨rfl, f27⟩
    clear c27
    clear kT0 kT1 kT2 kT3
    replace VS := hideP (VS.out.fr f27)
    replace VT := hideP (VT.out.fr f27)
    replace VU := hideP (VU.out.fr f27)
    replace LL := hideP (LL.out.fr f27)
    replace LO := hideP (LO.out.fr f27)
    replace HF := hideP (HF.out.trans f27)
    clear f27
    go_wp2_with fail
    go_ret
    exact ⟨rfl, HF.out⟩
  · obtain rfl := hbad h0
    have hne : ((y : Int) != 0) = true := by simp; omega
    have hne2 : ¬ ((y : Int) = 0) := by omega
    clear hst hbad
    go_enter Try.func14, Try.ntmps14
    obtain ⟨kS0, kS1, kS2, kS3, _, _, _, _⟩ := VS.out.b.four
    have c21 := recover_any _ _ _ _ s (w.alloc (.cells #[.slice aS nS dS, .slice eS mS hS, .slice AS NS CS, .slice ES MS GS] 46)) VS.out.s hb1 hb2
    rw [HX.out] at c21
    go_wp2_with fail
    refine c21.mono ?_
    rintro _ w21 ⟨pT, qT, PT, QT, rfl, sT, xT, yT, f21⟩
    clear c21
    clear kS0 kS1 kS2 kS3
    obtain ⟨aT, nT, dT, rfl⟩ := sT.1.1.slice
    obtain ⟨eT, mT, hT, rfl⟩ := sT.1.2.slice
    obtain ⟨AT, NT, CT, rfl⟩ := sT.2.1.slice
    obtain ⟨ET, MT, GT, rfl⟩ := sT.2.2.slice
    have NV := SV.new sT
    have g21 : Fr (w.alloc (.cells #[.slice aS nS dS, .slice eS mS hS, .slice AS NS CS, .slice ES MS GS] 46)) (w21.alloc (.cells #[.slice aT nT dT, .slice eT mT hT, .slice AT NT CT, .slice ET MT GT] 46)) := f21.alloc _
    replace VS := hideP (VS.out.fr g21)
    replace LL := hideP (LL.out.fr g21)
    replace HF := hideP (HF.out.trans g21)
    have VT := hideP NV
    have XT := hideP xT
    have YT := hideP yT
    clear NV g21 f21 sT xT yT
    have c22 := journalBegun_any (w21.alloc (.cells #[.slice aT nT dT, .slice eT mT hT, .slice AT NT CT, .slice ET MT GT] 46))
    go_wp2_with fail
    refine c22.mono ?_
    rintro _ w22 ⟨rfl, f22⟩
    clear c22
    replace VS := hideP (VS.out.fr f22)
    replace VT := hideP (VT.out.fr f22)
    replace LL := hideP (LL.out.fr f22)
    replace HF := hideP (HF.out.trans f22)
    clear f22
    obtain ⟨kT0, kT1, kT2, kT3, _, _, _, _⟩ := VT.out.b.four
    have c23 := sameStore_eq _ _ _ _ _ _ _ _ JN.noneS w22 VT.out.s.1 VT.out.s.2 (isD_none _) (isD_none _) (by decide) (by decide) (by decide) (by decide)
    go_wp2_with fail
    refine c23.mono ?_
    rintro _ w23 ⟨rfl, f23⟩
    clear c23
    clear kT0 kT1 kT2 kT3
    replace VS := hideP (VS.out.fr f23)
    replace VT := hideP (VT.out.fr f23)
    replace LL := hideP (LL.out.fr f23)
    replace HF := hideP (HF.out.trans f23)
    go_wp2_with fail
    go_ret
    exact ⟨rfl, HF.out⟩

set_option maxRecDepth 100000 in
theorem lifted (os : Go.Os) (started : os.Started) (H : Type) (enc : TypeId × Value → H) :
    ReturnsInHanded {} Try.checked os 14 .any (Rows.commitStillSpec.pre6 enc Try.prog Try.f14 Rows.commitStillRow.domain false) (Rows.commitStillSpec.post enc Try.prog Try.f14 false true false false) := by
  refine returnsInHanded_of_change_sized (C := Try.checked) own started (by kernel_rfl) Try.func14
    (ChangeSpec.witness6 (enc := enc) (C := Try.checked) false ⟨#[], #[.agg #[.slice none 0 0, .slice none 0 0, .slice none 0 0, .slice none 0 0], .slice none 0 0], []⟩ 8 (by kernel_rfl) (by kernel_rfl) (by kernel_rfl) (by kernel_rfl)) ?_
  intro W base args ds gs before hval0 hW hcnd hsz0 _
  have hval : ∀ (j : Nat) t v, Try.f14.params[j]? = some t → args[j]? = some v → Value.okWide Try.prog W .any base t v := hval0
  have hsz : (DataW.weightsEach Try.prog (Try.f14.params.toList ++ Rows.commitStillSpec.plain.varTypes Try.prog) (ds ++ gs)).all (· ≤ reachBytes) = true := hsz0
  have hW' := hW
  obtain ⟨p, q, hA0, hV, rfl, hfz, hnd⟩ := hW
  have hA : DataW.TrodAll enc Try.prog W 0 (fun _ => true) true Try.f14.params.toList args.toList ds p := hA0
  rw [Try.params14] at hA hval hsz
  obtain ⟨v0, vs0, d0, ds0, p0, q0, hargs, rfl, rfl, h0, r0⟩ := trodAll_cons hA
  obtain ⟨v1, vs1, d1, ds1, p1, q1, rfl, rfl, rfl, h1, r1⟩ := trodAll_cons r0
  obtain ⟨rfl, rfl, rfl⟩ := trodAll_nil r1
  obtain rfl : args = #[v0, v1] := by cases args; simp_all
  obtain ⟨rfl, rfl⟩ := trodVars_none hV
  obtain ⟨x0, y0, X0, Y0, l0, rfl, rw0, bd0⟩ := open_store (hval 0 46 v0 rfl rfl) h0 (sized_at hsz (j := 0) rfl rfl)
  obtain ⟨l1, rw1, wd1, b1⟩ := open_writes (hval 1 23 v1 rfl rfl) h1 (sized_at hsz (j := 1) rfl rfl)
  clear hA0 hval0 hsz0
  refine (walk x0 y0 X0 Y0 l0 v1 l1 W rw0 bd0 rw1 wd1 b1).mono fun e W' ⟨he, bel⟩ => ?_
  subst he
  exact ⟨_, rfl, _, _, _, [], _, [], hW', trodAll_mk1 (shut_bool Try.underlying4 _), (trodAll_cons_mk (shut_store h0 bel) (trodAll_cons_mk (shut_writes h1 bel) trodAll_mk0)), rfl, Below.frame bel _, fun h => by cases h⟩

theorem over : Rows.commitStillRow.holds Try.pinned (OpenSpec.ofChange Rows.commitStillSpec) :=
  OpenClaim.holds_of_wide 14 Try.f14 rfl rfl rfl rfl rfl rfl rfl ⟨rfl, rfl, rfl, rfl, rfl⟩ rfl rfl rfl rfl rfl (by kernel_rfl) Try.func14 (by kernel_rfl)
    (of_decide_eq_true (by kernel_rfl)) (by unfold Func.isWrapper; first | (rw [if_pos (by decide +kernel)]; kernel_rfl) | (rw [if_neg (by decide +kernel)]; exact ⟨rfl, rfl⟩))
    (fun os started H enc _ => lifted os started H enc)

end Go.Proofs.Ytklldfkaihpkiaa.CommitStill
namespace Go.Proofs.Ytklldfkaihpkiaa
theorem commitStill_holds : Rows.CommitStillSaid := CommitStill.over
#print axioms commitStill_holds
end Go.Proofs.Ytklldfkaihpkiaa
