/-
  Proved: for every store and all writes StepsTells answers true: Check and Steps answer just what the document says, errors too. No condition but the form's own reach.
-/
import Derived.Test.YtklldfkaihpkiaaJdL
import Derived.Test.YtklldfkaihpkiaaJdZ
import Derived.Test.YtklldfkaihpkiaaOpenD
namespace Go.Proofs.Ytklldfkaihpkiaa.StepsTells
open Go.ChangeShapes Go.WideShapes Go.ChangeAt Go.RowKit
set_option linter.unusedVariables false
set_option linter.unusedSimpArgs false
set_option maxRecDepth 100000

theorem steps_few (s : JN.S) (l : List JN.W) : (JN.stepsS s l).1.length ≤ 100 := by
  by_cases h : (JN.stepsS s l).2 = 0
  · obtain ⟨e, hc⟩ := JN.steps_can h
    rw [e, (JN.stepsO_ok hc).2.2.2]
    have := hc.many
    omega
  · unfold JN.stepsS at h ⊢
    by_cases h0 : JN.stepsChk s l = 0
    · rw [if_pos h0] at h; exact absurd rfl h
    · rw [if_neg h0]; exact Nat.zero_le _
set_option maxHeartbeats 8000000 in
theorem walk (p q P Q : Value) (s : JN.S) (v : Value) (l : List JN.W) (w : World) (hr : IsS w p q P Q s) (hb : BD s.da ∧ BD s.jo) (hl : IsL cdW w v l) (ho : ∀ y ∈ l, -9223372036854775808 ≤ y.no ∧ y.no ≤ 9223372036854775807) (hlen : l.length * 24 ≤ 140737488351232) :
    Calls Try.prog 7 #[.agg #[p, q, P, Q], v] w fun e w' => e = .returned (.bool true) ∧ Fr w w' := by
  obtain ⟨aS, nS, dS, rfl⟩ := hr.1.1.slice
  obtain ⟨eS, mS, hS, rfl⟩ := hr.1.2.slice
  obtain ⟨AS, NS, CS, rfl⟩ := hr.2.1.slice
  obtain ⟨ES, MS, GS, rfl⟩ := hr.2.2.slice
  obtain ⟨av, nv, cv, rfl⟩ := hl.slice
  have hb1 := hb.1.pl
  have hb2 := hb.2.pl
  have hb3 := hb.1.wl
  have hb4 := hb.2.wl
  have VS := hideP (SV.new hr)
  have HF : Hid (Fr w (w.alloc (.cells #[.slice aS nS dS, .slice eS mS hS, .slice AS NS CS, .slice ES MS GS] 46))) := (Fr.refl w).alloc _
  have LL := hideP (hl.fr ((Fr.refl w).alloc (.cells #[.slice aS nS dS, .slice eS mS hS, .slice AS NS CS, .slice ES MS GS] 46)))
  clear hr hl ho hb
  have hfew := steps_few s l
  obtain ⟨⟨o, y⟩, hx⟩ : ∃ r, JN.stepsS s l = r := ⟨_, rfl⟩
  rw [hx] at hfew
  simp only at hfew
  have HX := hideP hx
  clear hx
  go_enter Try.func7, Try.ntmps7
  obtain ⟨kS0, kS1, kS2, kS3, _, _, _, _⟩ := VS.out.b.four
  have c21 := steps_any _ _ _ _ _ s l (w.alloc (.cells #[.slice aS nS dS, .slice eS mS hS, .slice AS NS CS, .slice ES MS GS] 46)) VS.out.s LL.out hb1 hb2
  rw [HX.out] at c21
  go_wp2_with fail
  refine c21.mono ?_
  rintro _ w21 ⟨vA, rfl, oA, f21⟩
  clear c21
  clear kS0 kS1 kS2 kS3
  obtain ⟨aA, nA, dA, rfl⟩ := own_slice' oA
  replace VS := hideP (VS.out.fr f21)
  replace LL := hideP (LL.out.fr f21)
  replace HF := hideP (HF.out.trans f21)
  have LA := hideP (isL_own oA)
  clear oA f21
  obtain ⟨kS0, kS1, kS2, kS3, _, _, _, _⟩ := VS.out.b.four
  have c22 := stepsOf_any _ _ _ _ _ s l w21 VS.out.s LL.out hb1 hb3 hb2 hb4 (by omega)
  rw [HX.out] at c22
  go_wp2_with fail
  refine c22.mono ?_
  rintro _ w22 ⟨vB, rfl, oB, f22⟩
  clear c22
  clear kS0 kS1 kS2 kS3
  obtain ⟨aB, nB, dB, rfl⟩ := oB.slice
  replace VS := hideP (VS.out.fr f22)
  replace LL := hideP (LL.out.fr f22)
  replace LA := hideP (LA.out.fr f22)
  replace HF := hideP (HF.out.trans f22)
  have LB := hideP oB
  clear oB f22
  have HS3 := hideP (show w22.cell? ⟨w.heap.size, 0, none⟩ = some (.slice aS nS dS) ∧ w22.cell? ⟨w.heap.size, 1, none⟩ = some (.slice eS mS hS) ∧ w22.cell? ⟨w.heap.size, 2, none⟩ = some (.slice AS NS CS) ∧ w22.cell? ⟨w.heap.size, 3, none⟩ = some (.slice ES MS GS) from by
    obtain ⟨k0, k1, k2, k3, _, _, _, _⟩ := VS.out.b.four
    exact ⟨k0, k1, k2, k3⟩)
  obtain ⟨z, hzz⟩ : ∃ z, JN.schk s = z := ⟨_, rfl⟩
  have cc := fun W (f : Fr w22 W) => jcheck_any _ _ _ _ s W (VS.out.s.fr f) hb1 hb2
  have cd := fun W (f : Fr w22 W) => storeCheck_any _ _ _ _ s W (VS.out.s.fr f) hb1 hb3 hb2 hb4
  rw [hzz] at cc cd
  have CC := hideP cc
  have CD := hideP cd
  have CSO := hideP (fun W (f : Fr w22 W) => sameOps_eq _ _ o W (LA.out.fr f) (LB.out.fr f) (by omega))
  have hz := Fr.drew (Fr.refl w22)
  clear cc cd hzz
  go_upto_region 3 with fail
  go_region_held3 (fun W => W.cell? ⟨w.heap.size, 0, none⟩ = some (.slice aS nS dS) ∧ W.cell? ⟨w.heap.size, 1, none⟩ = some (.slice eS mS hS) ∧ W.cell? ⟨w.heap.size, 2, none⟩ = some (.slice AS NS CS) ∧ W.cell? ⟨w.heap.size, 3, none⟩ = some (.slice ES MS GS)) (first | exact HS3.out | exact s4_after hz HS3.out) (first
    | (go_at_call 31; refine (journalBegun_any _).mono ?_; rintro _ w50 ⟨rfl, f50⟩; replace hz := Fr.after f50 hz; clear f50)
    | (go_at_call 32; refine (CC.out _ hz).mono ?_; rintro _ w51 ⟨rfl, f51⟩; replace hz := Fr.after f51 hz; clear f51)
    | (go_at_call 33; refine (CD.out _ hz).mono ?_; rintro _ w52 ⟨rfl, f52⟩; replace hz := Fr.after f52 hz; clear f52)
    | (go_at_call 34; refine (CSO.out _ hz).mono ?_; rintro _ w53 ⟨rfl, f53⟩; replace hz := Fr.after f53 hz; clear f53))
  all_goals go_wp2_with fail
  all_goals go_ret
  all_goals exact ⟨rfl, HF.out.trans hz⟩

set_option maxRecDepth 100000 in
theorem lifted (os : Go.Os) (started : os.Started) (H : Type) (enc : TypeId × Value → H) :
    ReturnsInHanded {} Try.checked os 7 .any (Rows.stepsTellsSpec.pre6 enc Try.prog Try.f7 Rows.stepsTellsRow.domain false) (Rows.stepsTellsSpec.post enc Try.prog Try.f7 false true false false) := by
  refine returnsInHanded_of_change_sized (C := Try.checked) own started (by kernel_rfl) Try.func7
    (ChangeSpec.witness6 (enc := enc) (C := Try.checked) false ⟨#[], #[.agg #[.slice none 0 0, .slice none 0 0, .slice none 0 0, .slice none 0 0], .slice none 0 0], []⟩ 8 (by kernel_rfl) (by kernel_rfl) (by kernel_rfl) (by kernel_rfl)) ?_
  intro W base args ds gs before hval0 hW hcnd hsz0 _
  have hval : ∀ (j : Nat) t v, Try.f7.params[j]? = some t → args[j]? = some v → Value.okWide Try.prog W .any base t v := hval0
  have hsz : (DataW.weightsEach Try.prog (Try.f7.params.toList ++ Rows.stepsTellsSpec.plain.varTypes Try.prog) (ds ++ gs)).all (· ≤ reachBytes) = true := hsz0
  have hW' := hW
  obtain ⟨p, q, hA0, hV, rfl, hfz, hnd⟩ := hW
  have hA : DataW.TrodAll enc Try.prog W 0 (fun _ => true) true Try.f7.params.toList args.toList ds p := hA0
  rw [Try.params7] at hA hval hsz
  obtain ⟨v0, vs0, d0, ds0, p0, q0, hargs, rfl, rfl, h0, r0⟩ := trodAll_cons hA
  obtain ⟨v1, vs1, d1, ds1, p1, q1, rfl, rfl, rfl, h1, r1⟩ := trodAll_cons r0
  obtain ⟨rfl, rfl, rfl⟩ := trodAll_nil r1
  obtain rfl : args = #[v0, v1] := by cases args; simp_all
  obtain ⟨rfl, rfl⟩ := trodVars_none hV
  obtain ⟨x0, y0, X0, Y0, l0, rfl, rw0, bd0⟩ := open_store (hval 0 46 v0 rfl rfl) h0 (sized_at hsz (j := 0) rfl rfl)
  obtain ⟨l1, rw1, wd1, b1⟩ := open_writes (hval 1 23 v1 rfl rfl) h1 (sized_at hsz (j := 1) rfl rfl)
  clear hA0 hval0 hsz0
  refine (walk x0 y0 X0 Y0 l0 v1 l1 W rw0 bd0 rw1 wd1 b1).mono fun e W' ⟨he, bel⟩ => ?_
  subst he
  exact ⟨_, rfl, _, _, _, [], _, [], hW', trodAll_mk1 (shut_bool Try.underlying4 _), (trodAll_cons_mk (shut_store h0 bel) (trodAll_cons_mk (shut_writes h1 bel) trodAll_mk0)), rfl, Below.frame bel _, fun h => by cases h⟩

theorem over : Rows.stepsTellsRow.holds Try.pinned (OpenSpec.ofChange Rows.stepsTellsSpec) :=
  OpenClaim.holds_of_wide 7 Try.f7 rfl rfl rfl rfl rfl rfl rfl ⟨rfl, rfl, rfl, rfl, rfl⟩ rfl rfl rfl rfl rfl (by kernel_rfl) Try.func7 (by kernel_rfl)
    (of_decide_eq_true (by kernel_rfl)) (by unfold Func.isWrapper; first | (rw [if_pos (by decide +kernel)]; kernel_rfl) | (rw [if_neg (by decide +kernel)]; exact ⟨rfl, rfl⟩))
    (fun os started H enc _ => lifted os started H enc)

end Go.Proofs.Ytklldfkaihpkiaa.StepsTells
namespace Go.Proofs.Ytklldfkaihpkiaa
theorem stepsTells_holds : Rows.StepsTellsSaid := StepsTells.over
#print axioms stepsTells_holds
end Go.Proofs.Ytklldfkaihpkiaa
