/-
  Proved: for every disk and every choice of what lands DiskGood answers true: what was synced is there for good, a crash of which all writes land is a Sync, and one of which none lands leaves what there was. No condition but the form's own reach.
-/
import Derived.Test.YtklldfkaihpkiaaDkBg
import Derived.Test.YtklldfkaihpkiaaOpenD
namespace Go.Proofs.Ytklldfkaihpkiaa.DiskGood
open Go.ChangeShapes Go.WideShapes Go.ChangeAt Go.RowKit
set_option linter.unusedVariables false
set_option linter.unusedSimpArgs false
set_option maxRecDepth 100000

set_option maxHeartbeats 4000000 in
theorem walk (p q : Value) (d : JN.D) (m : Int) (w : World) (hr : IsD w p q d) (hb : BD d) (hm : 0 ≤ m ∧ m ≤ 18446744073709551615) :
    Calls Try.prog 5 #[.agg #[p, q], .int .u64 m] w fun e w' => e = .returned (.bool true) ∧ Fr w w' := by
  obtain ⟨m, rfl⟩ := Int.eq_ofNat_of_zero_le hm.1
  have hm2 : m < 18446744073709551616 := by omega
  obtain ⟨ap, np, dp, rfl⟩ : ∃ a n c, p = .slice a n c := by obtain ⟨a, c, e, _⟩ := hr.1; exact ⟨_, _, _, e⟩
  obtain ⟨aq, nq, dq, rfl⟩ : ∃ a n c, q = .slice a n c := by obtain ⟨a, c, e, _⟩ := hr.2; exact ⟨_, _, _, e⟩
  have VD := hideP (DV.new hr)
  have HF : Hid (Fr w (w.alloc (.cells #[.slice ap np dp, .slice aq nq dq] 25))) := (Fr.refl w).alloc _
  clear hr hm
  obtain ⟨r, hrr⟩ : ∃ r, JN.crashD d JN.all = r := ⟨_, rfl⟩
  by_cases h0 : r.2 = 0
  · obtain ⟨g1, g2⟩ := JN.disk_good (d := d) (by rw [hrr]; exact h0) (JN.bits m)
    obtain ⟨x, z⟩ := r
    simp only at h0
    subst h0
    rw [hrr] at g1
    simp only at g1
    have hok : JN.OkD d := JN.crash_err (m := JN.all) (by rw [hrr])
    have hx : JN.OkD x := by have := (JN.crash_ok hok JN.all).2.1; rw [hrr] at this; exact this
    have e3 : JN.crashD d (JN.bits 18446744073709551615) = (x, 0) := by
      rw [← hrr]
      have h48 := hok.many
      have : JN.land (JN.fn d.pg) (d.wt.map JN.wn) (JN.bits 18446744073709551615) = JN.land (JN.fn d.pg) (d.wt.map JN.wn) JN.all := JN.land_bits_all _ _ (by rw [List.length_map]; omega)
      unfold JN.crashD
      rw [this]
    have e4 : JN.crashD d (JN.bits 0) = (⟨d.pg, []⟩, 0) := by
      rw [← g2]
      unfold JN.crashD
      rw [JN.land_bits_none]
    have hxl := hx.len
    have hxw := hx.many
    have hdl := hok.len
    have HR := hideP hrr
    clear hrr hok hx g2
    go_enter Try.func5, Try.ntmps5
    obtain ⟨kD0, kD1, _, _⟩ := VD.out.b.two
    have c1 := sync_any _ _ d (w.alloc (.cells #[.slice ap np dp, .slice aq nq dq] 25)) VD.out.d hb.pl
    rw [HR.out] at c1
    go_wp2_with fail
    refine c1.mono ?_
    rintro _ w1 ⟨pX, qX, rfl, oX, f1⟩
    obtain ⟨aX, nX, dX, rfl⟩ := own_slice' oX.pg
    obtain ⟨eX, mX, hX, rfl⟩ := own_slice' oX.wt
    clear c1
    clear kD0 kD1
    have NV := DV.new oX.is
    have g1 : Fr (w.alloc (.cells #[.slice ap np dp, .slice aq nq dq] 25)) (w1.alloc (.cells #[.slice aX nX dX, .slice eX mX hX] 25)) := f1.alloc _
    have VD := hideP (VD.out.fr g1)
    have HF := hideP (HF.out.trans g1)
    have VX := hideP NV
    clear NV g1 f1
    have OX := hideP oX
    clear oX
    have c2 := diskBegun_any (w1.alloc (.cells #[.slice aX nX dX, .slice eX mX hX] 25))
    go_wp2_with fail
    refine c2.mono ?_
    rintro _ w2 ⟨rfl, f2⟩
    clear c2
    have VD := hideP (VD.out.fr f2)
    have VX := hideP (VX.out.fr f2)
    have HF := hideP (HF.out.trans f2)
    clear f2
    obtain ⟨kX0, kX1, _, _⟩ := VX.out.b.two
    have c3 := crash_any _ _ x m w2 VX.out.d (by omega) hm2
    rw [g1] at c3
    go_wp2_with fail
    refine c3.mono ?_
    rintro _ w3 ⟨pY, qY, rfl, oY, f3⟩
    obtain ⟨aY, nY, dY, rfl⟩ := own_slice' oY.pg
    obtain ⟨eY, mY, hY, rfl⟩ := own_slice' oY.wt
    clear c3
    clear kX0 kX1
    have NV := DV.new oY.is
    have g3 : Fr w2 (w3.alloc (.cells #[.slice aY nY dY, .slice eY mY hY] 25)) := f3.alloc _
    have VD := hideP (VD.out.fr g3)
    have VX := hideP (VX.out.fr g3)
    have HF := hideP (HF.out.trans g3)
    have VY := hideP NV
    clear NV g3 f3
    have OY := hideP oY
    clear oY
    obtain ⟨kD0, kD1, _, _⟩ := VD.out.b.two
    have c4 := crash_any _ _ d 18446744073709551615 (w3.alloc (.cells #[.slice aY nY dY, .slice eY mY hY] 25)) VD.out.d hb.pl (by decide)
    rw [e3] at c4
    go_wp2_with fail
    refine c4.mono ?_
    rintro _ w4 ⟨pZ, qZ, rfl, oZ, f4⟩
    obtain ⟨aZ, nZ, dZ, rfl⟩ := own_slice' oZ.pg
    obtain ⟨eZ, mZ, hZ, rfl⟩ := own_slice' oZ.wt
    clear c4
    clear kD0 kD1
    have NV := DV.new oZ.is
    have g4 : Fr (w3.alloc (.cells #[.slice aY nY dY, .slice eY mY hY] 25)) (w4.alloc (.cells #[.slice aZ nZ dZ, .slice eZ mZ hZ] 25)) := f4.alloc _
    have VD := hideP (VD.out.fr g4)
    have VX := hideP (VX.out.fr g4)
    have VY := hideP (VY.out.fr g4)
    have HF := hideP (HF.out.trans g4)
    have VZ := hideP NV
    clear NV g4 f4
    have OZ := hideP oZ
    clear oZ
    obtain ⟨kD0, kD1, _, _⟩ := VD.out.b.two
    have c5 := crash_any _ _ d 0 (w4.alloc (.cells #[.slice aZ nZ dZ, .slice eZ mZ hZ] 25)) VD.out.d hb.pl (by decide)
    rw [e4] at c5
    go_wp2_with fail
    refine c5.mono ?_
    rintro _ w5 ⟨pT, qT, rfl, oT, f5⟩
    obtain ⟨aT, nT, dT, rfl⟩ := own_slice' oT.pg
    obtain ⟨eT, mT, hT, rfl⟩ := own_slice' oT.wt
    clear c5
    clear kD0 kD1
    have NV := DV.new oT.is
    have g5 : Fr (w4.alloc (.cells #[.slice aZ nZ dZ, .slice eZ mZ hZ] 25)) (w5.alloc (.cells #[.slice aT nT dT, .slice eT mT hT] 25)) := f5.alloc _
    have VD := hideP (VD.out.fr g5)
    have VX := hideP (VX.out.fr g5)
    have VY := hideP (VY.out.fr g5)
    have VZ := hideP (VZ.out.fr g5)
    have HF := hideP (HF.out.trans g5)
    have VT := hideP NV
    clear NV g5 f5
    have OT := hideP oT
    clear oT
    obtain ⟨kY0, kY1, _, _⟩ := VY.out.b.two
    obtain ⟨kX0, kX1, _, _⟩ := VX.out.b.two
    have c6 := sameDisk_eq _ _ _ _ x (w5.alloc (.cells #[.slice aT nT dT, .slice eT mT hT] 25)) VY.out.d VX.out.d (by omega) (by omega)
    go_wp2_with fail
    refine c6.mono ?_
    rintro _ w6 ⟨rfl, f6⟩
    clear c6
    clear kY0 kY1
    clear kX0 kX1
    have VD := hideP (VD.out.fr f6)
    have VX := hideP (VX.out.fr f6)
    have VY := hideP (VY.out.fr f6)
    have VZ := hideP (VZ.out.fr f6)
    have VT := hideP (VT.out.fr f6)
    have HF := hideP (HF.out.trans f6)
    clear f6
    obtain ⟨kZ0, kZ1, _, _⟩ := VZ.out.b.two
    obtain ⟨kX0, kX1, _, _⟩ := VX.out.b.two
    have c7 := sameDisk_eq _ _ _ _ x w6 VZ.out.d VX.out.d (by omega) (by omega)
    go_wp2_with fail
    refine c7.mono ?_
    rintro _ w7 ⟨rfl, f7⟩
    clear c7
    clear kZ0 kZ1
    clear kX0 kX1
    have VD := hideP (VD.out.fr f7)
    have VX := hideP (VX.out.fr f7)
    have VY := hideP (VY.out.fr f7)
    have VZ := hideP (VZ.out.fr f7)
    have VT := hideP (VT.out.fr f7)
    have HF := hideP (HF.out.trans f7)
    clear f7
    obtain ⟨kT0, kT1, _, _⟩ := VT.out.b.two
    obtain ⟨kD0, kD1, _, _⟩ := VD.out.b.two
    have c8 := sameTexts_any _ _ d.pg d.pg w7 VT.out.d.1 VD.out.d.1 (by omega)
    go_wp2_with fail
    refine c8.mono ?_
    rintro _ w8 ⟨⟨r, rfl, hr⟩, f8⟩
    obtain rfl : r = true := by first | exact hr rfl | exact hr trivial
    clear c8 hr
    clear kT0 kT1
    clear kD0 kD1
    have VD := hideP (VD.out.fr f8)
    have VX := hideP (VX.out.fr f8)
    have VY := hideP (VY.out.fr f8)
    have VZ := hideP (VZ.out.fr f8)
    have VT := hideP (VT.out.fr f8)
    have HF := hideP (HF.out.trans f8)
    clear f8
    go_wp2_with fail
    go_ret
    exact ⟨rfl, HF.out⟩
  · have e : r = (JN.none, JN.dchk d) := by
      rw [← hrr] at h0 ⊢
      unfold JN.crashD at h0 ⊢
      by_cases hc : JN.dchk d = 0
      · rw [if_pos hc] at h0; exact absurd rfl h0
      · rw [if_neg hc]
    rw [e] at hrr h0
    simp only at h0
    generalize JN.dchk d = y at hrr h0
    have hne : ((y : Int) != 0) = true := by simp; omega
    have hne2 : ¬ ((y : Int) = 0) := by omega
    have HR := hideP hrr
    clear hrr e
    go_enter Try.func5, Try.ntmps5
    obtain ⟨kD0, kD1, _, _⟩ := VD.out.b.two
    have c1 := sync_any _ _ d (w.alloc (.cells #[.slice ap np dp, .slice aq nq dq] 25)) VD.out.d hb.pl
    rw [HR.out] at c1
    go_wp2_with fail
    refine c1.mono ?_
    rintro _ w1 ⟨pX, qX, rfl, oX, f1⟩
    obtain ⟨aX, nX, dX, rfl⟩ := own_slice' oX.pg
    obtain ⟨eX, mX, hX, rfl⟩ := own_slice' oX.wt
    clear c1
    clear kD0 kD1
    have NV := DV.new oX.is
    have g1 : Fr (w.alloc (.cells #[.slice ap np dp, .slice aq nq dq] 25)) (w1.alloc (.cells #[.slice aX nX dX, .slice eX mX hX] 25)) := f1.alloc _
    have VD := hideP (VD.out.fr g1)
    have HF := hideP (HF.out.trans g1)
    have VX := hideP NV
    clear NV g1 f1
    have OX := hideP oX
    clear oX
    have c2 := diskBegun_any (w1.alloc (.cells #[.slice aX nX dX, .slice eX mX hX] 25))
    go_wp2_with fail
    refine c2.mono ?_
    rintro _ w2 ⟨rfl, f2⟩
    clear c2
    have VD := hideP (VD.out.fr f2)
    have VX := hideP (VX.out.fr f2)
    have HF := hideP (HF.out.trans f2)
    clear f2
    obtain ⟨kX0, kX1, _, _⟩ := VX.out.b.two
    have c3 := sameDisk_eq _ _ _ _ JN.none w2 VX.out.d (isD_none _) (by decide) (by decide)
    go_wp2_with fail
    refine c3.mono ?_
    rintro _ w3 ⟨rfl, f3⟩
    clear c3
    clear kX0 kX1
    have VD := hideP (VD.out.fr f3)
    have VX := hideP (VX.out.fr f3)
    have HF := hideP (HF.out.trans f3)
    go_wp2_with fail
    go_ret
    exact ⟨rfl, HF.out⟩

set_option maxRecDepth 100000 in
theorem lifted (os : Go.Os) (started : os.Started) (H : Type) (enc : TypeId × Value → H) :
    ReturnsInHanded {} Try.checked os 5 .any (Rows.diskGoodSpec.pre6 enc Try.prog Try.f5 Rows.diskGoodRow.domain false) (Rows.diskGoodSpec.post enc Try.prog Try.f5 false true false false) := by
  refine returnsInHanded_of_change_sized (C := Try.checked) own started (by kernel_rfl) Try.func5
    (ChangeSpec.witness6 (enc := enc) (C := Try.checked) false ⟨#[], #[.agg #[.slice none 0 0, .slice none 0 0], .int .u64 0], []⟩ 8 (by kernel_rfl) (by kernel_rfl) (by kernel_rfl) (by kernel_rfl)) ?_
  intro W base args ds gs before hval0 hW hcnd hsz0 _
  have hval : ∀ (j : Nat) t v, Try.f5.params[j]? = some t → args[j]? = some v → Value.okWide Try.prog W .any base t v := hval0
  have hsz : (DataW.weightsEach Try.prog (Try.f5.params.toList ++ Rows.diskGoodSpec.plain.varTypes Try.prog) (ds ++ gs)).all (· ≤ reachBytes) = true := hsz0
  have hW' := hW
  obtain ⟨p, q, hA0, hV, rfl, hfz, hnd⟩ := hW
  have hA : DataW.TrodAll enc Try.prog W 0 (fun _ => true) true Try.f5.params.toList args.toList ds p := hA0
  rw [Try.params5] at hA hval hsz
  obtain ⟨v0, vs0, d0, ds0, p0, q0, hargs, rfl, rfl, h0, r0⟩ := trodAll_cons hA
  obtain ⟨v1, vs1, d1, ds1, p1, q1, rfl, rfl, rfl, h1, r1⟩ := trodAll_cons r0
  obtain ⟨rfl, rfl, rfl⟩ := trodAll_nil r1
  obtain rfl : args = #[v0, v1] := by cases args; simp_all
  obtain ⟨rfl, rfl⟩ := trodVars_none hV
  obtain ⟨x0, y0, l0, rfl, rw0, bd0⟩ := open_disk (hval 0 25 v0 rfl rfl) h0 (sized_at hsz (j := 0) rfl rfl)
  obtain ⟨a1, rfl, rfl, rfl, w1⟩ := open_int Try.underlying26 (hval 1 26 v1 rfl rfl) h1
  clear hA0 hval0 hsz0
  refine (walk x0 y0 l0 a1 W rw0 bd0 (wf_u64 w1)).mono fun e W' ⟨he, bel⟩ => ?_
  subst he
  exact ⟨_, rfl, _, _, _, [], _, [], hW', trodAll_mk1 (shut_bool Try.underlying4 _), (trodAll_cons_mk (shut_disk h0 bel) (trodAll_cons_mk (shut_int Try.underlying26 w1) trodAll_mk0)), rfl, Below.frame bel _, fun h => by cases h⟩

theorem over : Rows.diskGoodRow.holds Try.pinned (OpenSpec.ofChange Rows.diskGoodSpec) :=
  OpenClaim.holds_of_wide 5 Try.f5 rfl rfl rfl rfl rfl rfl rfl ⟨rfl, rfl, rfl, rfl, rfl⟩ rfl rfl rfl rfl rfl (by kernel_rfl) Try.func5 (by kernel_rfl)
    (of_decide_eq_true (by kernel_rfl)) (by unfold Func.isWrapper; first | (rw [if_pos (by decide +kernel)]; kernel_rfl) | (rw [if_neg (by decide +kernel)]; exact ⟨rfl, rfl⟩))
    (fun os started H enc _ => lifted os started H enc)

end Go.Proofs.Ytklldfkaihpkiaa.DiskGood
namespace Go.Proofs.Ytklldfkaihpkiaa
theorem diskGood_holds : Rows.DiskGoodSaid := DiskGood.over
#print axioms diskGood_holds
end Go.Proofs.Ytklldfkaihpkiaa
