/-
  Proved: for every store and all ops PlayTells answers true: Play answers just what the document says, errors too. No condition but the form's own reach.
-/
import Derived.Test.YtklldfkaihpkiaaJdL
import Derived.Test.YtklldfkaihpkiaaJdU
import Derived.Test.YtklldfkaihpkiaaJdV
import Derived.Test.YtklldfkaihpkiaaOpenD
namespace Go.Proofs.Ytklldfkaihpkiaa.PlayTells
open Go.ChangeShapes Go.WideShapes Go.ChangeAt Go.RowKit
set_option linter.unusedVariables false
set_option linter.unusedSimpArgs false
set_option maxRecDepth 100000

set_option maxHeartbeats 8000000 in
theorem walk (p q P Q : Value) (s : JN.S) (v : Value) (l : List JN.O) (w : World) (hr : IsS w p q P Q s) (hb : BD s.da ∧ BD s.jo) (hl : IsL cdO w v l) (ho : ∀ y ∈ l, (-9223372036854775808 ≤ y.kind ∧ y.kind ≤ 9223372036854775807) ∧ -9223372036854775808 ≤ y.no ∧ y.no ≤ 9223372036854775807) (hlen : l.length * 32 ≤ 140737488351232) :
    Calls Try.prog 8 #[.agg #[p, q, P, Q], v] w fun e w' => e = .returned (.bool true) ∧ Fr w w' := by
  obtain ⟨aS, nS, dS, rfl⟩ := hr.1.1.slice
  obtain ⟨eS, mS, hS, rfl⟩ := hr.1.2.slice
  obtain ⟨AS, NS, CS, rfl⟩ := hr.2.1.slice
  obtain ⟨ES, MS, GS, rfl⟩ := hr.2.2.slice
  obtain ⟨av, nv, cv, rfl⟩ := hl.slice
  have hb1 := hb.1.pl
  have hb2 := hb.2.pl
  have hb3 := hb.1.wl
  have hb4 := hb.2.wl
  have VS := hideP (SV.new hr)
  have HF : Hid (Fr w (w.alloc (.cells #[.slice aS nS dS, .slice eS mS hS, .slice AS NS CS, .slice ES MS GS] 46))) := (Fr.refl w).alloc _
  have LL := hideP (hl.fr ((Fr.refl w).alloc (.cells #[.slice aS nS dS, .slice eS mS hS, .slice AS NS CS, .slice ES MS GS] 46)))
  clear hr hl ho hb
  have hfew := JN.few_play s l
  obtain ⟨⟨x, y⟩, hx⟩ : ∃ r, JN.playS s l = r := ⟨_, rfl⟩
  rw [hx] at hfew
  obtain ⟨g1, g2, g3, g4⟩ := hfew
  simp only at g1 g2 g3 g4
  have HX := hideP hx
  clear hx
  go_enter Try.func8, Try.ntmps8
  obtain ⟨kS0, kS1, kS2, kS3, _, _, _, _⟩ := VS.out.b.four
  have c21 := play_any _ _ _ _ _ s l (w.alloc (.cells #[.slice aS nS dS, .slice eS mS hS, .slice AS NS CS, .slice ES MS GS] 46)) VS.out.s LL.out hb1 hb2
  rw [HX.out] at c21
  go_wp2_with fail
  refine c21.mono ?_
  rintro _ w21 ⟨pA, qA, PA, QA, rfl, sA, xA, yA, f21⟩
  clear c21
  clear kS0 kS1 kS2 kS3
  obtain ⟨aA, nA, dA, rfl⟩ := sA.1.1.slice
  obtain ⟨eA, mA, hA, rfl⟩ := sA.1.2.slice
  obtain ⟨AA, NA, CA, rfl⟩ := sA.2.1.slice
  obtain ⟨EA, MA, GA, rfl⟩ := sA.2.2.slice
  have NV := SV.new sA
  have g21 : Fr (w.alloc (.cells #[.slice aS nS dS, .slice eS mS hS, .slice AS NS CS, .slice ES MS GS] 46)) (w21.alloc (.cells #[.slice aA nA dA, .slice eA mA hA, .slice AA NA CA, .slice EA MA GA] 46)) := f21.alloc _
  replace VS := hideP (VS.out.fr g21)
  replace LL := hideP (LL.out.fr g21)
  replace HF := hideP (HF.out.trans g21)
  have VA := hideP NV
  have XA := hideP xA
  have YA := hideP yA
  clear NV g21 f21 sA xA yA
  obtain ⟨kS0, kS1, kS2, kS3, _, _, _, _⟩ := VS.out.b.four
  have c22 := playOf_any _ _ _ _ _ s l (w21.alloc (.cells #[.slice aA nA dA, .slice eA mA hA, .slice AA NA CA, .slice EA MA GA] 46)) VS.out.s LL.out hb1 hb3 hb2 hb4 (by omega)
  rw [HX.out] at c22
  go_wp2_with fail
  refine c22.mono ?_
  rintro _ w22 ⟨pB, qB, PB, QB, rfl, sB, f22⟩
  clear c22
  clear kS0 kS1 kS2 kS3
  obtain ⟨aB, nB, dB, rfl⟩ := sB.1.1.slice
  obtain ⟨eB, mB, hB, rfl⟩ := sB.1.2.slice
  obtain ⟨AB, NB, CB, rfl⟩ := sB.2.1.slice
  obtain ⟨EB, MB, GB, rfl⟩ := sB.2.2.slice
  have NV := SV.new sB
  have g22 : Fr (w21.alloc (.cells #[.slice aA nA dA, .slice eA mA hA, .slice AA NA CA, .slice EA MA GA] 46)) (w22.alloc (.cells #[.slice aB nB dB, .slice eB mB hB, .slice AB NB CB, .slice EB MB GB] 46)) := f22.alloc _
  replace VS := hideP (VS.out.fr g22)
  replace VA := hideP (VA.out.fr g22)
  replace LL := hideP (LL.out.fr g22)
  replace HF := hideP (HF.out.trans g22)
  have VB := hideP NV
  clear NV g22 f22 sB
  have c23 := journalBegun_any (w22.alloc (.cells #[.slice aB nB dB, .slice eB mB hB, .slice AB NB CB, .slice EB MB GB] 46))
  go_wp2_with fail
  refine c23.mono ?_
  rintro _ w23 ⟨rfl, f23⟩
  clear c23
  replace VS := hideP (VS.out.fr f23)
  replace VA := hideP (VA.out.fr f23)
  replace VB := hideP (VB.out.fr f23)
  replace LL := hideP (LL.out.fr f23)
  replace HF := hideP (HF.out.trans f23)
  clear f23
  obtain ⟨kA0, kA1, kA2, kA3, _, _, _, _⟩ := VA.out.b.four
  obtain ⟨kB0, kB1, kB2, kB3, _, _, _, _⟩ := VB.out.b.four
  have c24 := sameStore_eq _ _ _ _ _ _ _ _ x w23 VA.out.s.1 VA.out.s.2 VB.out.s.1 VB.out.s.2 (by omega) (by omega) (by omega) (by omega)
  go_wp2_with fail
  refine c24.mono ?_
  rintro _ w24 ⟨rfl, f24⟩
  clear c24
  clear kA0 kA1 kA2 kA3
  clear kB0 kB1 kB2 kB3
  replace VS := hideP (VS.out.fr f24)
  replace VA := hideP (VA.out.fr f24)
  replace VB := hideP (VB.out.fr f24)
  replace LL := hideP (LL.out.fr f24)
  replace HF := hideP (HF.out.trans f24)
  go_wp2_with fail
  go_ret
  exact ⟨rfl, HF.out⟩

set_option maxRecDepth 100000 in
theorem lifted (os : Go.Os) (started : os.Started) (H : Type) (enc : TypeId × Value → H) :
    ReturnsInHanded {} Try.checked os 8 .any (Rows.playTellsSpec.pre6 enc Try.prog Try.f8 Rows.playTellsRow.domain false) (Rows.playTellsSpec.post enc Try.prog Try.f8 false true false false) := by
  refine returnsInHanded_of_change_sized (C := Try.checked) own started (by kernel_rfl) Try.func8
    (ChangeSpec.witness6 (enc := enc) (C := Try.checked) false ⟨#[], #[.agg #[.slice none 0 0, .slice none 0 0, .slice none 0 0, .slice none 0 0], .slice none 0 0], []⟩ 8 (by kernel_rfl) (by kernel_rfl) (by kernel_rfl) (by kernel_rfl)) ?_
  intro W base args ds gs before hval0 hW hcnd hsz0 _
  have hval : ∀ (j : Nat) t v, Try.f8.params[j]? = some t → args[j]? = some v → Value.okWide Try.prog W .any base t v := hval0
  have hsz : (DataW.weightsEach Try.prog (Try.f8.params.toList ++ Rows.playTellsSpec.plain.varTypes Try.prog) (ds ++ gs)).all (· ≤ reachBytes) = true := hsz0
  have hW' := hW
  obtain ⟨p, q, hA0, hV, rfl, hfz, hnd⟩ := hW
  have hA : DataW.TrodAll enc Try.prog W 0 (fun _ => true) true Try.f8.params.toList args.toList ds p := hA0
  rw [Try.params8] at hA hval hsz
  obtain ⟨v0, vs0, d0, ds0, p0, q0, hargs, rfl, rfl, h0, r0⟩ := trodAll_cons hA
  obtain ⟨v1, vs1, d1, ds1, p1, q1, rfl, rfl, rfl, h1, r1⟩ := trodAll_cons r0
  obtain ⟨rfl, rfl, rfl⟩ := trodAll_nil r1
  obtain rfl : args = #[v0, v1] := by cases args; simp_all
  obtain ⟨rfl, rfl⟩ := trodVars_none hV
  obtain ⟨x0, y0, X0, Y0, l0, rfl, rw0, bd0⟩ := open_store (hval 0 46 v0 rfl rfl) h0 (sized_at hsz (j := 0) rfl rfl)
  obtain ⟨l1, rw1, wd1, b1⟩ := open_ops (hval 1 47 v1 rfl rfl) h1 (sized_at hsz (j := 1) rfl rfl)
  clear hA0 hval0 hsz0
  refine (walk x0 y0 X0 Y0 l0 v1 l1 W rw0 bd0 rw1 wd1 b1).mono fun e W' ⟨he, bel⟩ => ?_
  subst he
  exact ⟨_, rfl, _, _, _, [], _, [], hW', trodAll_mk1 (shut_bool Try.underlying4 _), (trodAll_cons_mk (shut_store h0 bel) (trodAll_cons_mk (shut_ops h1 bel) trodAll_mk0)), rfl, Below.frame bel _, fun h => by cases h⟩

theorem over : Rows.playTellsRow.holds Try.pinned (OpenSpec.ofChange Rows.playTellsSpec) :=
  OpenClaim.holds_of_wide 8 Try.f8 rfl rfl rfl rfl rfl rfl rfl ⟨rfl, rfl, rfl, rfl, rfl⟩ rfl rfl rfl rfl rfl (by kernel_rfl) Try.func8 (by kernel_rfl)
    (of_decide_eq_true (by kernel_rfl)) (by unfold Func.isWrapper; first | (rw [if_pos (by decide +kernel)]; kernel_rfl) | (rw [if_neg (by decide +kernel)]; exact ⟨rfl, rfl⟩))
    (fun os started H enc _ => lifted os started H enc)

end Go.Proofs.Ytklldfkaihpkiaa.PlayTells
namespace Go.Proofs.Ytklldfkaihpkiaa
theorem playTells_holds : Rows.PlayTellsSaid := PlayTells.over
#print axioms playTells_holds
end Go.Proofs.Ytklldfkaihpkiaa
