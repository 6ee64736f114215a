/-
  Proved: for every store UndoTells answers true: Undo and Recover answer just what the document says, errors too. No condition but the form's own reach.
-/
import Derived.Test.YtklldfkaihpkiaaJdL
import Derived.Test.YtklldfkaihpkiaaJdU
import Derived.Test.YtklldfkaihpkiaaJdV
import Derived.Test.YtklldfkaihpkiaaJdW
import Derived.Test.YtklldfkaihpkiaaOpenD
namespace Go.Proofs.Ytklldfkaihpkiaa.UndoTells
open Go.ChangeShapes Go.WideShapes Go.ChangeAt Go.RowKit
set_option linter.unusedVariables false
set_option linter.unusedSimpArgs false
set_option maxRecDepth 100000

theorem inO {w : World} {v : Value} {l : List JN.O} {N : Nat} {T : TypeId} {a1 a2 a3 a4 : Option Addr} {n1 c1 n2 c2 n3 c3 n4 c4 : Nat} (h : IsL cdO w v l) (hb : Blk w N #[.slice a1 n1 c1, .slice a2 n2 c2, .slice a3 n3 c3, .slice a4 n4 c4] T) (x y X Y : Value) : IsL cdO (pt4 w N x y X Y) v l :=
  (((h.set' x (h.off4 noSl_O hb)).set' y (h.off4 noSl_O hb)).set' X (h.off4 noSl_O hb)).set' Y (h.off4 noSl_O hb)
theorem undo_len (s : JN.S) : (JN.undoS s).1.length ≤ 100 := by
  by_cases h : (JN.undoS s).2 = 0
  · have := (JN.undo_ok (JN.undo_can h)).2.2.2; omega
  · unfold JN.undoS at h ⊢
    split
    · split
      · simp
      · split
        · simp
        · split
          · split
            · rename_i h1 h2 h3 h4 h5
              exfalso
              apply h
              rw [if_pos h1, if_neg h2, if_neg h3, if_pos h4, if_pos h5]
            · simp
          · simp
    · simp
set_option maxHeartbeats 8000000 in
theorem walk (p q P Q : Value) (s : JN.S) (w : World) (hr : IsS w p q P Q s) (hb : BD s.da ∧ BD s.jo) :
    Calls Try.prog 10 #[.agg #[p, q, P, Q]] w fun e w' => e = .returned (.bool true) ∧ Fr w w' := by
  obtain ⟨aS, nS, dS, rfl⟩ := hr.1.1.slice
  obtain ⟨eS, mS, hS, rfl⟩ := hr.1.2.slice
  obtain ⟨AS, NS, CS, rfl⟩ := hr.2.1.slice
  obtain ⟨ES, MS, GS, rfl⟩ := hr.2.2.slice
  have hb1 := hb.1.pl
  have hb2 := hb.2.pl
  have hb3 := hb.1.wl
  have hb4 := hb.2.wl
  have VS := hideP (SV.new hr)
  have HF : Hid (Fr w (w.alloc (.cells #[.slice aS nS dS, .slice eS mS hS, .slice AS NS CS, .slice ES MS GS] 46))) := (Fr.refl w).alloc _
  clear hr hb
  have hfew := JN.few_rec s
  have hul := undo_len s
  have hrec : JN.recS s = if (JN.undoS s).2 = 0 then JN.playS s (JN.undoS s).1 else (JN.noneS, (JN.undoS s).2) := rfl
  obtain ⟨⟨u, z⟩, hu⟩ : ∃ r, JN.undoS s = r := ⟨_, rfl⟩
  obtain ⟨⟨x, y⟩, hx⟩ : ∃ r, JN.recS s = r := ⟨_, rfl⟩
  rw [hx] at hfew hrec
  rw [hu] at hrec hul
  simp only at hrec hul
  obtain ⟨g1, g2, g3, g4⟩ := hfew
  simp only at g1 g2 g3 g4
  have HU := hideP hu
  have HX := hideP hx
  clear hu hx
  by_cases h0 : z = 0
  · subst h0
    rw [if_pos rfl] at hrec
    have HP := hideP hrec.symm
    clear hrec
    go_enter Try.func10, Try.ntmps10
    obtain ⟨kS0, kS1, kS2, kS3, _, _, _, _⟩ := VS.out.b.four
    have c21 := undo_any _ _ _ _ s (w.alloc (.cells #[.slice aS nS dS, .slice eS mS hS, .slice AS NS CS, .slice ES MS GS] 46)) VS.out.s hb1 hb2
    rw [HU.out] at c21
    go_wp2_with fail
    refine c21.mono ?_
    rintro _ w21 ⟨vA, rfl, oA, f21⟩
    clear c21
    clear kS0 kS1 kS2 kS3
    obtain ⟨aA, nA, dA, rfl⟩ := own_slice' oA
    replace VS := hideP (VS.out.fr f21)
    replace HF := hideP (HF.out.trans f21)
    have LA := hideP (isL_own oA)
    clear oA f21
    obtain ⟨kS0, kS1, kS2, kS3, _, _, _, _⟩ := VS.out.b.four
    have c22 := recover_any _ _ _ _ s w21 VS.out.s hb1 hb2
    rw [HX.out] at c22
    go_wp2_with fail
    refine c22.mono ?_
    rintro _ w22 ⟨pT, qT, PT, QT, rfl, sT, xT, yT, f22⟩
    clear c22
    clear kS0 kS1 kS2 kS3
    obtain ⟨aT, nT, dT, rfl⟩ := sT.1.1.slice
    obtain ⟨eT, mT, hT, rfl⟩ := sT.1.2.slice
    obtain ⟨AT, NT, CT, rfl⟩ := sT.2.1.slice
    obtain ⟨ET, MT, GT, rfl⟩ := sT.2.2.slice
    have NV := SV.new sT
    have g22 : Fr w21 (w22.alloc (.cells #[.slice aT nT dT, .slice eT mT hT, .slice AT NT CT, .slice ET MT GT] 46)) := f22.alloc _
    replace VS := hideP (VS.out.fr g22)
    replace LA := hideP (LA.out.fr g22)
    replace HF := hideP (HF.out.trans g22)
    have VT := hideP NV
    have XT := hideP xT
    have YT := hideP yT
    clear NV g22 f22 sT xT yT
    obtain ⟨kS0, kS1, kS2, kS3, _, _, _, _⟩ := VS.out.b.four
    have c23 := undoOf_any _ _ _ _ s (w22.alloc (.cells #[.slice aT nT dT, .slice eT mT hT, .slice AT NT CT, .slice ET MT GT] 46)) VS.out.s hb1 hb3 hb2 hb4
    rw [HU.out] at c23
    go_wp2_with fail
    refine c23.mono ?_
    rintro _ w23 ⟨vB, rfl, oB, f23⟩
    clear c23
    clear kS0 kS1 kS2 kS3
    obtain ⟨aB, nB, dB, rfl⟩ := oB.slice
    replace VS := hideP (VS.out.fr f23)
    replace VT := hideP (VT.out.fr f23)
    replace LA := hideP (LA.out.fr f23)
    replace HF := hideP (HF.out.trans f23)
    have LB := hideP oB
    clear oB f23
    have hsz : w.heap.size ≤ w23.heap.size := HF.out.size
    have hneT := Nat.ne_of_gt VT.out.b.lt
    have NV := SV.new (isS_none w23)
    have g0 : Fr w23 (w23.alloc (.cells #[.slice none 0 0, .slice none 0 0, .slice none 0 0, .slice none 0 0] 46)) := (Fr.refl _).alloc _
    replace VS := hideP (VS.out.fr g0)
    replace VT := hideP (VT.out.fr g0)
    replace LA := hideP (LA.out.fr g0)
    replace LB := hideP (LB.out.fr g0)
    replace HF := hideP (HF.out.trans g0)
    have VW := hideP NV
    clear NV g0
    obtain ⟨kS0, kS1, kS2, kS3, _, _, _, _⟩ := VS.out.b.four
    have c24 := playOf_any _ _ _ _ _ s u (w23.alloc (.cells #[.slice none 0 0, .slice none 0 0, .slice none 0 0, .slice none 0 0] 46)) VS.out.s LB.out hb1 hb3 hb2 hb4 (by omega)
    rw [HP.out] at c24
    go_wp2_with fail
    refine c24.mono ?_
    rintro _ w24 ⟨pR, qR, PR, QR, rfl, sR, f24⟩
    clear c24
    clear kS0 kS1 kS2 kS3
    obtain ⟨aR, nR, dR, rfl⟩ := sR.1.1.slice
    obtain ⟨eR, mR, hR, rfl⟩ := sR.1.2.slice
    obtain ⟨AR, NR, CR, rfl⟩ := sR.2.1.slice
    obtain ⟨ER, MR, GR, rfl⟩ := sR.2.2.slice
    replace VS := hideP (VS.out.fr f24)
    replace VT := hideP (VT.out.fr f24)
    replace VW := hideP (VW.out.fr f24)
    replace LA := hideP (LA.out.fr f24)
    replace LB := hideP (LB.out.fr f24)
    replace HF := hideP (HF.out.trans f24)
    have HBW := hideP VW.out.b
    obtain ⟨i0, i1, i2, i3, z0, z1, z2, z3⟩ := HBW.out.four
    replace VT := hideP (⟨VT.out.b.oput4 hneT _ _ _ _, VT.out.s.in4 HBW.out (.slice aR nR dR) (.slice eR mR hR) (.slice AR NR CR) (.slice ER MR GR)⟩ : SV (pt4 w24 (w23.heap.size) (.slice aR nR dR) (.slice eR mR hR) (.slice AR NR CR) (.slice ER MR GR)) _ _ _ _ _ x)
    replace LA := hideP (inO LA.out HBW.out (.slice aR nR dR) (.slice eR mR hR) (.slice AR NR CR) (.slice ER MR GR))
    replace LB := hideP (inO LB.out HBW.out (.slice aR nR dR) (.slice eR mR hR) (.slice AR NR CR) (.slice ER MR GR))
    replace VW := hideP (⟨HBW.out.put4 (.slice aR nR dR) (.slice eR mR hR) (.slice AR NR CR) (.slice ER MR GR), sR.in4 HBW.out (.slice aR nR dR) (.slice eR mR hR) (.slice AR NR CR) (.slice ER MR GR)⟩ : SV (pt4 w24 (w23.heap.size) (.slice aR nR dR) (.slice eR mR hR) (.slice AR NR CR) (.slice ER MR GR)) _ _ _ _ _ x)
    replace HF := hideP (HF.out.put4 (w23.heap.size) hsz (.slice aR nR dR) (.slice eR mR hR) (.slice AR NR CR) (.slice ER MR GR))
    clear VS f24 sR
    have c25 := journalBegun_any (pt4 w24 (w23.heap.size) (.slice aR nR dR) (.slice eR mR hR) (.slice AR NR CR) (.slice ER MR GR))
    go_wp2_with fail
    refine c25.mono ?_
    rintro _ w25 ⟨rfl, f25⟩
    clear c25
    replace VT := hideP (VT.out.fr f25)
    replace VW := hideP (VW.out.fr f25)
    replace LA := hideP (LA.out.fr f25)
    replace LB := hideP (LB.out.fr f25)
    replace HF := hideP (HF.out.trans f25)
    clear f25
    have c26 := sameOps_eq _ _ u w25 LA.out LB.out (by omega)
    go_wp2_with fail
    refine c26.mono ?_
    rintro _ w26 ⟨rfl, f26⟩
    clear c26
    replace VT := hideP (VT.out.fr f26)
    replace VW := hideP (VW.out.fr f26)
    replace LA := hideP (LA.out.fr f26)
    replace LB := hideP (LB.out.fr f26)
    replace HF := hideP (HF.out.trans f26)
    clear f26
    obtain ⟨kT0, kT1, kT2, kT3, _, _, _, _⟩ := VT.out.b.four
    obtain ⟨kW0, kW1, kW2, kW3, _, _, _, _⟩ := VW.out.b.four
    have c27 := sameStore_eq _ _ _ _ _ _ _ _ x w26 VT.out.s.1 VT.out.s.2 VW.out.s.1 VW.out.s.2 (by omega) (by omega) (by omega) (by omega)
    go_wp2_with fail
    refine c27.mono ?_
    rintro _ w27 ⟨rfl, f27⟩
    clear c27
    clear kT0 kT1 kT2 kT3
    clear kW0 kW1 kW2 kW3
    replace VT := hideP (VT.out.fr f27)
    replace VW := hideP (VW.out.fr f27)
    replace LA := hideP (LA.out.fr f27)
    replace LB := hideP (LB.out.fr f27)
    replace HF := hideP (HF.out.trans f27)
    go_wp2_with fail
    go_ret
    exact ⟨rfl, HF.out⟩
  · rw [if_neg h0] at hrec
    obtain ⟨rfl, rfl⟩ : x = JN.noneS ∧ y = z := by simpa using hrec
    have hne : ((y : Int) != 0) = true := by simp; omega
    have hne2 : ¬ ((y : Int) = 0) := by omega
    have hne3 : ((y : Int) == 0) = false := by simp; omega
    clear hrec
    go_enter Try.func10, Try.ntmps10
    obtain ⟨kS0, kS1, kS2, kS3, _, _, _, _⟩ := VS.out.b.four
    have c21 := undo_any _ _ _ _ s (w.alloc (.cells #[.slice aS nS dS, .slice eS mS hS, .slice AS NS CS, .slice ES MS GS] 46)) VS.out.s hb1 hb2
    rw [HU.out] at c21
    go_wp2_with fail
    refine c21.mono ?_
    rintro _ w21 ⟨vA, rfl, oA, f21⟩
    clear c21
    clear kS0 kS1 kS2 kS3
    obtain ⟨aA, nA, dA, rfl⟩ := own_slice' oA
    replace VS := hideP (VS.out.fr f21)
    replace HF := hideP (HF.out.trans f21)
    have LA := hideP (isL_own oA)
    clear oA f21
    obtain ⟨kS0, kS1, kS2, kS3, _, _, _, _⟩ := VS.out.b.four
    have c22 := recover_any _ _ _ _ s w21 VS.out.s hb1 hb2
    rw [HX.out] at c22
    go_wp2_with fail
    refine c22.mono ?_
    rintro _ w22 ⟨pT, qT, PT, QT, rfl, sT, xT, yT, f22⟩
    clear c22
    clear kS0 kS1 kS2 kS3
    obtain ⟨aT, nT, dT, rfl⟩ := sT.1.1.slice
    obtain ⟨eT, mT, hT, rfl⟩ := sT.1.2.slice
    obtain ⟨AT, NT, CT, rfl⟩ := sT.2.1.slice
    obtain ⟨ET, MT, GT, rfl⟩ := sT.2.2.slice
    have NV := SV.new sT
    have g22 : Fr w21 (w22.alloc (.cells #[.slice aT nT dT, .slice eT mT hT, .slice AT NT CT, .slice ET MT GT] 46)) := f22.alloc _
    replace VS := hideP (VS.out.fr g22)
    replace LA := hideP (LA.out.fr g22)
    replace HF := hideP (HF.out.trans g22)
    have VT := hideP NV
    have XT := hideP xT
    have YT := hideP yT
    clear NV g22 f22 sT xT yT
    obtain ⟨kS0, kS1, kS2, kS3, _, _, _, _⟩ := VS.out.b.four
    have c23 := undoOf_any _ _ _ _ s (w22.alloc (.cells #[.slice aT nT dT, .slice eT mT hT, .slice AT NT CT, .slice ET MT GT] 46)) VS.out.s hb1 hb3 hb2 hb4
    rw [HU.out] at c23
    go_wp2_with fail
    refine c23.mono ?_
    rintro _ w23 ⟨vB, rfl, oB, f23⟩
    clear c23
    clear kS0 kS1 kS2 kS3
    obtain ⟨aB, nB, dB, rfl⟩ := oB.slice
    replace VS := hideP (VS.out.fr f23)
    replace VT := hideP (VT.out.fr f23)
    replace LA := hideP (LA.out.fr f23)
    replace HF := hideP (HF.out.trans f23)
    have LB := hideP oB
    clear oB f23
    have NV := SV.new (isS_none w23)
    have g0 : Fr w23 (w23.alloc (.cells #[.slice none 0 0, .slice none 0 0, .slice none 0 0, .slice none 0 0] 46)) := (Fr.refl _).alloc _
    replace VS := hideP (VS.out.fr g0)
    replace VT := hideP (VT.out.fr g0)
    replace LA := hideP (LA.out.fr g0)
    replace LB := hideP (LB.out.fr g0)
    replace HF := hideP (HF.out.trans g0)
    have VW := hideP NV
    clear NV g0
    have c24 := journalBegun_any (w23.alloc (.cells #[.slice none 0 0, .slice none 0 0, .slice none 0 0, .slice none 0 0] 46))
    go_wp2_with fail
    refine c24.mono ?_
    rintro _ w24 ⟨rfl, f24⟩
    clear c24
    replace VS := hideP (VS.out.fr f24)
    replace VT := hideP (VT.out.fr f24)
    replace VW := hideP (VW.out.fr f24)
    replace LA := hideP (LA.out.fr f24)
    replace LB := hideP (LB.out.fr f24)
    replace HF := hideP (HF.out.trans f24)
    clear f24
    have c25 := sameOps_eq _ _ u w24 LA.out LB.out (by omega)
    go_wp2_with fail
    refine c25.mono ?_
    rintro _ w25 ⟨rfl, f25⟩
    clear c25
    replace VS := hideP (VS.out.fr f25)
    replace VT := hideP (VT.out.fr f25)
    replace VW := hideP (VW.out.fr f25)
    replace LA := hideP (LA.out.fr f25)
    replace LB := hideP (LB.out.fr f25)
    replace HF := hideP (HF.out.trans f25)
    clear f25
    obtain ⟨kT0, kT1, kT2, kT3, _, _, _, _⟩ := VT.out.b.four
    obtain ⟨kW0, kW1, kW2, kW3, _, _, _, _⟩ := VW.out.b.four
    have c26 := sameStore_eq _ _ _ _ _ _ _ _ JN.noneS w25 VT.out.s.1 VT.out.s.2 VW.out.s.1 VW.out.s.2 (by omega) (by omega) (by omega) (by omega)
    go_wp2_with fail
    refine c26.mono ?_
    rintro _ w26 ⟨rfl, f26⟩
    clear c26
    clear kT0 kT1 kT2 kT3
    clear kW0 kW1 kW2 kW3
    replace VS := hideP (VS.out.fr f26)
    replace VT := hideP (VT.out.fr f26)
    replace VW := hideP (VW.out.fr f26)
    replace LA := hideP (LA.out.fr f26)
    replace LB := hideP (LB.out.fr f26)
    replace HF := hideP (HF.out.trans f26)
    go_wp2_with fail
    go_ret
    exact ⟨rfl, HF.out⟩

set_option maxRecDepth 100000 in
theorem lifted (os : Go.Os) (started : os.Started) (H : Type) (enc : TypeId × Value → H) :
    ReturnsInHanded {} Try.checked os 10 .any (Rows.undoTellsSpec.pre6 enc Try.prog Try.f10 Rows.undoTellsRow.domain false) (Rows.undoTellsSpec.post enc Try.prog Try.f10 false true false false) := by
  refine returnsInHanded_of_change_sized (C := Try.checked) own started (by kernel_rfl) Try.func10
    (ChangeSpec.witness6 (enc := enc) (C := Try.checked) false ⟨#[], #[.agg #[.slice none 0 0, .slice none 0 0, .slice none 0 0, .slice none 0 0]], []⟩ 8 (by kernel_rfl) (by kernel_rfl) (by kernel_rfl) (by kernel_rfl)) ?_
  intro W base args ds gs before hval0 hW hcnd hsz0 _
  have hval : ∀ (j : Nat) t v, Try.f10.params[j]? = some t → args[j]? = some v → Value.okWide Try.prog W .any base t v := hval0
  have hsz : (DataW.weightsEach Try.prog (Try.f10.params.toList ++ Rows.undoTellsSpec.plain.varTypes Try.prog) (ds ++ gs)).all (· ≤ reachBytes) = true := hsz0
  have hW' := hW
  obtain ⟨p, q, hA0, hV, rfl, hfz, hnd⟩ := hW
  have hA : DataW.TrodAll enc Try.prog W 0 (fun _ => true) true Try.f10.params.toList args.toList ds p := hA0
  rw [Try.params10] at hA hval hsz
  obtain ⟨v0, vs0, d0, ds0, p0, q0, hargs, rfl, rfl, h0, r0⟩ := trodAll_cons hA
  obtain ⟨rfl, rfl, rfl⟩ := trodAll_nil r0
  obtain rfl : args = #[v0] := by cases args; simp_all
  obtain ⟨rfl, rfl⟩ := trodVars_none hV
  obtain ⟨x0, y0, X0, Y0, l0, rfl, rw0, bd0⟩ := open_store (hval 0 46 v0 rfl rfl) h0 (sized_at hsz (j := 0) rfl rfl)
  clear hA0 hval0 hsz0
  refine (walk x0 y0 X0 Y0 l0 W rw0 bd0).mono fun e W' ⟨he, bel⟩ => ?_
  subst he
  exact ⟨_, rfl, _, _, _, [], _, [], hW', trodAll_mk1 (shut_bool Try.underlying4 _), (trodAll_cons_mk (shut_store h0 bel) trodAll_mk0), rfl, Below.frame bel _, fun h => by cases h⟩

theorem over : Rows.undoTellsRow.holds Try.pinned (OpenSpec.ofChange Rows.undoTellsSpec) :=
  OpenClaim.holds_of_wide 10 Try.f10 rfl rfl rfl rfl rfl rfl rfl ⟨rfl, rfl, rfl, rfl, rfl⟩ rfl rfl rfl rfl rfl (by kernel_rfl) Try.func10 (by kernel_rfl)
    (of_decide_eq_true (by kernel_rfl)) (by unfold Func.isWrapper; first | (rw [if_pos (by decide +kernel)]; kernel_rfl) | (rw [if_neg (by decide +kernel)]; exact ⟨rfl, rfl⟩))
    (fun os started H enc _ => lifted os started H enc)

end Go.Proofs.Ytklldfkaihpkiaa.UndoTells
namespace Go.Proofs.Ytklldfkaihpkiaa
theorem undoTells_holds : Rows.UndoTellsSaid := UndoTells.over
#print axioms undoTells_holds
end Go.Proofs.Ytklldfkaihpkiaa
