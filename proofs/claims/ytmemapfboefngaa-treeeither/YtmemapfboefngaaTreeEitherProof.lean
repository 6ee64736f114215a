/-
  Proved: for every tree and any two keys TreeEither answers true: whichever of the two comes first, the pairs are the same. No condition but the form's own reach.
-/
import Derived.Test.YtmemapfboefngaaGtM
namespace Go.Proofs.Ytmemapfboefngaa.treeEitherProof
open Go.ChangeShapes Go.WideShapes Go.ChangeAt Go.RowKit
open Go.ChangeMaps (open_string shut_string)
set_option linter.unusedVariables false
set_option linter.unusedSimpArgs false
set_option maxRecDepth 100000
set_option maxHeartbeats 4000000
theorem walk (p0 q0 : Value) (L0 : List (List TK.Pr)) (U0 : List (List Int)) (a1 : ByteArray) (a2 : ByteArray) (a3 : Int) (a4 : Int) (w : World) (h0 : IsT w p0 q0 L0 U0) (b0 : BT L0 U0) (b1 : a1.size ≤ 140737488351232) (b2 : a2.size ≤ 140737488351232) (b3 : -9223372036854775808 ≤ a3 ∧ a3 ≤ 9223372036854775807) (b4 : -9223372036854775808 ≤ a4 ∧ a4 ≤ 9223372036854775807) :
    Calls Try.prog 9 #[.agg #[p0, q0], .string a1, .string a2, .int .i64 a3, .int .i64 a4] w fun e w' => e = .returned (.bool true) ∧ Fr w w' := by
  have hbt := b0
  have hL := b0.l; have hR := b0.r; have hS := b0.s; have hU := b0.u; have hUr := b0.ur
  obtain ⟨aT, dT, rfl⟩ := h0.l.slice
  obtain ⟨eT, hT, rfl⟩ := h0.u.slice
  obtain ⟨nT, NT⟩ : ∃ n, L0.length = n := ⟨_, rfl⟩
  obtain ⟨mT, MT⟩ : ∃ n, U0.length = n := ⟨_, rfl⟩
  rw [NT, MT] at h0 ⊢
  have VT := hideP (TV.new h0)
  have HF : Hid (Fr w (w.alloc (.cells #[.slice aT nT dT, .slice eT mT hT] 25))) := hideP ((Fr.refl w).alloc _)
  have HBt := hideP hbt
  clear h0 b0 hbt
  by_cases hab : a1 = a2
  · subst hab
    have hs : (a1.toList == a1.toList) = true := by simp
    clear NT MT hL hR hS hU hUr
    go_enter Try.func9, Try.ntmps9
    have c21 := treeBegun_any (w.alloc (.cells #[.slice aT nT dT, .slice eT mT hT] 25))
    go_wp2_with fail
    refine c21.mono ?_
    rintro _ w21 ⟨rfl, f21⟩
    clear c21
    replace VT := hideP (VT.out.fr f21)
    replace HF := hideP (HF.out.trans f21)
    clear f21
    go_wp2_with fail
    go_ret
    exact ⟨rfl, HF.out⟩
  have hs := TK.toList_ne hab
  by_cases hi : TK.insE a1 L0 U0 = 0
  · obtain ⟨Un, rfl, _⟩ := TK.right_of (TK.insE_zero hi).1
    by_cases hj : TK.insE a2 L0 (Un.map nI) = 0
    · obtain ⟨c0, c1, _⟩ := TK.ins_all (n := a3) hi
      obtain ⟨_, c2, _⟩ := TK.ins_all (n := a4) hj
      obtain ⟨c3, c4, c5⟩ := TK.either (x := a3) (y := a4) hab hi hj
      have c7 := fun h => (TK.ins_all (n := a4) (key := a2) (L := (TK.insT a1 a3 L0 Un).1) (Un := (TK.insT a1 a3 L0 Un).2) h).2.1
      have c8 := fun h => (TK.ins_all (n := a3) (key := a1) (L := (TK.insT a2 a4 L0 Un).1) (Un := (TK.insT a2 a4 L0 Un).2) h).2.1
      obtain ⟨⟨LA, UA⟩, hTA⟩ : ∃ r, TK.insT a1 a3 L0 Un = r := ⟨_, rfl⟩
      rw [hTA] at c1 c3 c4 c5 c7
      dsimp only at c1 c3 c4 c5 c7
      obtain ⟨nA, NA⟩ : ∃ n, LA.length = n := ⟨_, rfl⟩
      obtain ⟨mA, MA⟩ : ∃ n, UA.length = n := ⟨_, rfl⟩
      have HTA := hideP hTA
      have HNA := hideP NA
      have HMA := hideP MA
      clear NA MA
      obtain ⟨⟨LB, UB⟩, hTB⟩ : ∃ r, TK.insT a2 a4 L0 Un = r := ⟨_, rfl⟩
      rw [hTB] at c2 c3 c5 c8
      dsimp only at c2 c3 c5 c8
      obtain ⟨nB, NB⟩ : ∃ n, LB.length = n := ⟨_, rfl⟩
      obtain ⟨mB, MB⟩ : ∃ n, UB.length = n := ⟨_, rfl⟩
      have HTB := hideP hTB
      have HNB := hideP NB
      have HMB := hideP MB
      clear NB MB
      obtain ⟨zc, hzc⟩ : ∃ z, TK.insE a2 LA (UA.map nI) = z := ⟨_, rfl⟩
      rw [hzc] at c3 c4 c5
      have c9 := c3.symm
      clear c3
      have HI := hideP hi
      have HJ := hideP hj
      have C1 := hideP c1
      have C2 := hideP c2
      have C9 := hideP c9
      have HZ := hideP hzc
      clear hi hj c1 c2 c9 c0 hTA hTB hab NT MT hL hR hS hU hUr
      rcases c4 with rfl | rfl
      · have c5 := c5 rfl
        have c7 := c7 HZ.out
        have c8 := c8 C9.out
        obtain ⟨⟨LC, UC⟩, hTC⟩ : ∃ r, TK.insT a2 a4 LA UA = r := ⟨_, rfl⟩
        rw [hTC] at c5 c7
        dsimp only at c5 c7
        obtain ⟨nC, NC⟩ : ∃ n, LC.length = n := ⟨_, rfl⟩
        obtain ⟨mC, MC⟩ : ∃ n, UC.length = n := ⟨_, rfl⟩
        have HTC := hideP hTC
        have HNC := hideP NC
        have HMC := hideP MC
        clear NC MC
        obtain ⟨⟨LD, UD⟩, hTD⟩ : ∃ r, TK.insT a1 a3 LB UB = r := ⟨_, rfl⟩
        rw [hTD] at c5 c8
        dsimp only at c5 c8
        obtain ⟨nD, ND⟩ : ∃ n, LD.length = n := ⟨_, rfl⟩
        obtain ⟨mD, MD⟩ : ∃ n, UD.length = n := ⟨_, rfl⟩
        have HTD := hideP hTD
        have HND := hideP ND
        have HMD := hideP MD
        clear ND MD
        have c6 := (TK.chk_facts c7).2.2.2
        obtain ⟨nF, NF⟩ : ∃ n, LD.flatten.length = n := ⟨_, rfl⟩
        have HNF := hideP NF
        have C5 := hideP c5
        have C6 := hideP c6
        have C7 := hideP c7
        have C8 := hideP c8
        clear c5 c6 c7 c8 NF hTC hTD
        go_enter Try.func9, Try.ntmps9
        have c21 := treeBegun_any (w.alloc (.cells #[.slice aT nT dT, .slice eT mT hT] 25))
        go_wp2_with fail
        refine c21.mono ?_
        rintro _ w21 ⟨rfl, f21⟩
        clear c21
        replace VT := hideP (VT.out.fr f21)
        replace HF := hideP (HF.out.trans f21)
        clear f21
        have kT0 := VT.out.b.cell 0 (u := .slice aT nT dT) rfl
        have kT1 := VT.out.b.cell 1 (u := .slice eT mT hT) rfl
        have c22 := insert_ok a1 a3 VT.out.s HI.out
        rw [HTA.out] at c22
        dsimp only at c22
        rw [HNA.out, HMA.out] at c22
        go_wp2_with fail
        refine c22.mono ?_
        rintro _ w22 ⟨⟨aA, dA, eA, hA, rfl, oA⟩, f22⟩
        clear c22
        clear kT0 kT1
        have NV := TV.new oA.isT
        have g22 : Fr w21 (w22.alloc (.cells #[.slice aA nA dA, .slice eA mA hA] 25)) := f22.alloc _
        replace VT := hideP (VT.out.fr g22)
        replace HF := hideP (HF.out.trans g22)
        have VA := hideP NV
        clear NV g22 f22
        clear oA
        have kT0 := VT.out.b.cell 0 (u := .slice aT nT dT) rfl
        have kT1 := VT.out.b.cell 1 (u := .slice eT mT hT) rfl
        have c23 := insert_ok a2 a4 VT.out.s HJ.out
        rw [HTB.out] at c23
        dsimp only at c23
        rw [HNB.out, HMB.out] at c23
        go_wp2_with fail
        refine c23.mono ?_
        rintro _ w23 ⟨⟨aB, dB, eB, hB, rfl, oB⟩, f23⟩
        clear c23
        clear kT0 kT1
        have NV := TV.new oB.isT
        have g23 : Fr (w22.alloc (.cells #[.slice aA nA dA, .slice eA mA hA] 25)) (w23.alloc (.cells #[.slice aB nB dB, .slice eB mB hB] 25)) := f23.alloc _
        replace VT := hideP (VT.out.fr g23)
        replace VA := hideP (VA.out.fr g23)
        replace HF := hideP (HF.out.trans g23)
        have VB := hideP NV
        clear NV g23 f23
        clear oB
        have kA0 := VA.out.b.cell 0 (u := .slice aA nA dA) rfl
        have kA1 := VA.out.b.cell 1 (u := .slice eA mA hA) rfl
        have c24 := insert_ok a2 a4 VA.out.s HZ.out
        rw [HTC.out] at c24
        dsimp only at c24
        rw [HNC.out, HMC.out] at c24
        go_wp2_with fail
        refine c24.mono ?_
        rintro _ w24 ⟨⟨aC, dC, eC, hC, rfl, oC⟩, f24⟩
        clear c24
        clear kA0 kA1
        have NV := TV.new oC.isT
        have g24 : Fr (w23.alloc (.cells #[.slice aB nB dB, .slice eB mB hB] 25)) (w24.alloc (.cells #[.slice aC nC dC, .slice eC mC hC] 25)) := f24.alloc _
        replace VT := hideP (VT.out.fr g24)
        replace VA := hideP (VA.out.fr g24)
        replace VB := hideP (VB.out.fr g24)
        replace HF := hideP (HF.out.trans g24)
        have VC := hideP NV
        clear NV g24 f24
        clear oC
        have kB0 := VB.out.b.cell 0 (u := .slice aB nB dB) rfl
        have kB1 := VB.out.b.cell 1 (u := .slice eB mB hB) rfl
        have c25 := insert_ok a1 a3 VB.out.s C9.out
        rw [HTD.out] at c25
        dsimp only at c25
        rw [HND.out, HMD.out] at c25
        go_wp2_with fail
        refine c25.mono ?_
        rintro _ w25 ⟨⟨aD, dD, eD, hD, rfl, oD⟩, f25⟩
        clear c25
        clear kB0 kB1
        have NV := TV.new oD.isT
        have g25 : Fr (w24.alloc (.cells #[.slice aC nC dC, .slice eC mC hC] 25)) (w25.alloc (.cells #[.slice aD nD dD, .slice eD mD hD] 25)) := f25.alloc _
        replace VT := hideP (VT.out.fr g25)
        replace VA := hideP (VA.out.fr g25)
        replace VB := hideP (VB.out.fr g25)
        replace VC := hideP (VC.out.fr g25)
        replace HF := hideP (HF.out.trans g25)
        have VD := hideP NV
        clear NV g25 f25
        clear oD
        have kC0 := VC.out.b.cell 0 (u := .slice aC nC dC) rfl
        have kC1 := VC.out.b.cell 1 (u := .slice eC mC hC) rfl
        have c26 := list_ok VC.out.s C7.out
        rw [C5.out, HNF.out] at c26
        go_wp2_with fail
        refine c26.mono ?_
        rintro _ w26 ⟨⟨aP, dP, rfl, oP⟩, f26⟩
        clear c26
        clear kC0 kC1
        replace VT := hideP (VT.out.fr f26)
        replace VA := hideP (VA.out.fr f26)
        replace VB := hideP (VB.out.fr f26)
        replace VC := hideP (VC.out.fr f26)
        replace VD := hideP (VD.out.fr f26)
        replace HF := hideP (HF.out.trans f26)
        have LP := hideP oP
        clear oP f26
        have kD0 := VD.out.b.cell 0 (u := .slice aD nD dD) rfl
        have kD1 := VD.out.b.cell 1 (u := .slice eD mD hD) rfl
        have c27 := list_ok VD.out.s C8.out
        rw [HNF.out] at c27
        go_wp2_with fail
        refine c27.mono ?_
        rintro _ w27 ⟨⟨aQ, dQ, rfl, oQ⟩, f27⟩
        clear c27
        clear kD0 kD1
        replace VT := hideP (VT.out.fr f27)
        replace VA := hideP (VA.out.fr f27)
        replace VB := hideP (VB.out.fr f27)
        replace VC := hideP (VC.out.fr f27)
        replace VD := hideP (VD.out.fr f27)
        replace LP := hideP (LP.out.fr f27)
        replace HF := hideP (HF.out.trans f27)
        have LQ := hideP oQ
        clear oQ f27
        have c28 := samePairs_eq _ _ _ w27 LP.out LQ.out (by have h6 := C6.out; rw [C5.out] at h6; omega)
        go_wp2_with fail
        refine c28.mono ?_
        rintro _ w28 ⟨rfl, f28⟩
        clear c28
        replace VT := hideP (VT.out.fr f28)
        replace VA := hideP (VA.out.fr f28)
        replace VB := hideP (VB.out.fr f28)
        replace VC := hideP (VC.out.fr f28)
        replace VD := hideP (VD.out.fr f28)
        replace LP := hideP (LP.out.fr f28)
        replace LQ := hideP (LQ.out.fr f28)
        replace HF := hideP (HF.out.trans f28)
        clear f28
        go_wp2_with fail
        go_ret
        exact ⟨rfl, HF.out⟩
      · clear c5 c7 c8
        have sA := TK.small_of C1.out
        have sB := TK.small_of C2.out
        have SA := hideP sA
        have SB := hideP sB
        clear sA sB
        go_enter Try.func9, Try.ntmps9
        have c21 := treeBegun_any (w.alloc (.cells #[.slice aT nT dT, .slice eT mT hT] 25))
        go_wp2_with fail
        refine c21.mono ?_
        rintro _ w21 ⟨rfl, f21⟩
        clear c21
        replace VT := hideP (VT.out.fr f21)
        replace HF := hideP (HF.out.trans f21)
        clear f21
        have kT0 := VT.out.b.cell 0 (u := .slice aT nT dT) rfl
        have kT1 := VT.out.b.cell 1 (u := .slice eT mT hT) rfl
        have c22 := insert_ok a1 a3 VT.out.s HI.out
        rw [HTA.out] at c22
        dsimp only at c22
        rw [HNA.out, HMA.out] at c22
        go_wp2_with fail
        refine c22.mono ?_
        rintro _ w22 ⟨⟨aA, dA, eA, hA, rfl, oA⟩, f22⟩
        clear c22
        clear kT0 kT1
        have NV := TV.new oA.isT
        have g22 : Fr w21 (w22.alloc (.cells #[.slice aA nA dA, .slice eA mA hA] 25)) := f22.alloc _
        replace VT := hideP (VT.out.fr g22)
        replace HF := hideP (HF.out.trans g22)
        have VA := hideP NV
        clear NV g22 f22
        clear oA
        have kT0 := VT.out.b.cell 0 (u := .slice aT nT dT) rfl
        have kT1 := VT.out.b.cell 1 (u := .slice eT mT hT) rfl
        have c23 := insert_ok a2 a4 VT.out.s HJ.out
        rw [HTB.out] at c23
        dsimp only at c23
        rw [HNB.out, HMB.out] at c23
        go_wp2_with fail
        refine c23.mono ?_
        rintro _ w23 ⟨⟨aB, dB, eB, hB, rfl, oB⟩, f23⟩
        clear c23
        clear kT0 kT1
        have NV := TV.new oB.isT
        have g23 : Fr (w22.alloc (.cells #[.slice aA nA dA, .slice eA mA hA] 25)) (w23.alloc (.cells #[.slice aB nB dB, .slice eB mB hB] 25)) := f23.alloc _
        replace VT := hideP (VT.out.fr g23)
        replace VA := hideP (VA.out.fr g23)
        replace HF := hideP (HF.out.trans g23)
        have VB := hideP NV
        clear NV g23 f23
        clear oB
        have kA0 := VA.out.b.cell 0 (u := .slice aA nA dA) rfl
        have kA1 := VA.out.b.cell 1 (u := .slice eA mA hA) rfl
        have c24 := insert_bad a2 a4 VA.out.s SA.out.1 SA.out.2.1 SA.out.2.2.1 SA.out.2.2.2.1 SA.out.2.2.2.2 (by omega) (by rw [HZ.out]; decide)
        rw [HZ.out] at c24
        go_wp2_with fail
        refine c24.mono ?_
        rintro _ w24 ⟨rfl, f24⟩
        clear c24
        clear kA0 kA1
        have g24 : Fr (w23.alloc (.cells #[.slice aB nB dB, .slice eB mB hB] 25)) (w24.alloc (.cells #[.slice none 0 0, .slice none 0 0] 25)) := f24.alloc _
        have NB := hideP (Blk.new w24 #[.slice none 0 0, .slice none 0 0] 25)
        replace VT := hideP (VT.out.fr g24)
        replace VA := hideP (VA.out.fr g24)
        replace VB := hideP (VB.out.fr g24)
        replace HF := hideP (HF.out.trans g24)
        have BM := NB
        clear NB g24 f24
        have kB0 := VB.out.b.cell 0 (u := .slice aB nB dB) rfl
        have kB1 := VB.out.b.cell 1 (u := .slice eB mB hB) rfl
        have c25 := insert_bad a1 a3 VB.out.s SB.out.1 SB.out.2.1 SB.out.2.2.1 SB.out.2.2.2.1 SB.out.2.2.2.2 (by omega) (by rw [C9.out]; decide)
        rw [C9.out] at c25
        go_wp2_with fail
        refine c25.mono ?_
        rintro _ w25 ⟨rfl, f25⟩
        clear c25
        clear kB0 kB1
        have g25 : Fr (w24.alloc (.cells #[.slice none 0 0, .slice none 0 0] 25)) (w25.alloc (.cells #[.slice none 0 0, .slice none 0 0] 25)) := f25.alloc _
        have NB := hideP (Blk.new w25 #[.slice none 0 0, .slice none 0 0] 25)
        replace VT := hideP (VT.out.fr g25)
        replace VA := hideP (VA.out.fr g25)
        replace VB := hideP (VB.out.fr g25)
        replace BM := hideP (BM.out.fr g25)
        replace HF := hideP (HF.out.trans g25)
        have BO := NB
        clear NB g25 f25
        have jM0 := BM.out.cell 0 (u := .slice none 0 0) rfl
        have jM1 := BM.out.cell 1 (u := .slice none 0 0) rfl
        go_wp2_with fail
        go_ret
        exact ⟨rfl, HF.out⟩
    · obtain ⟨z, hz⟩ : ∃ z, TK.insE a2 L0 (Un.map nI) = z := ⟨_, rfl⟩
      have g1 : ((z : Int) != 0) = true := by rw [← hz]; simp; omega
      have g2 : ¬ ((z : Int) = 0) := by rw [← hz]; omega
      have g3 : ((z : Int) == 0) = false := by rw [← hz]; simp; omega
      obtain ⟨⟨LA, UA⟩, hTA⟩ : ∃ r, TK.insT a1 a3 L0 Un = r := ⟨_, rfl⟩
      obtain ⟨nA, NA⟩ : ∃ n, LA.length = n := ⟨_, rfl⟩
      obtain ⟨mA, MA⟩ : ∃ n, UA.length = n := ⟨_, rfl⟩
      have HTA := hideP hTA
      have HNA := hideP NA
      have HMA := hideP MA
      clear NA MA
      have HI := hideP hi
      have HJ := hideP hj
      have HZ := hideP hz
      clear hi hj hz hTA hab NT MT hL hR hS hU hUr
      go_enter Try.func9, Try.ntmps9
      have c21 := treeBegun_any (w.alloc (.cells #[.slice aT nT dT, .slice eT mT hT] 25))
      go_wp2_with fail
      refine c21.mono ?_
      rintro _ w21 ⟨rfl, f21⟩
      clear c21
      replace VT := hideP (VT.out.fr f21)
      replace HF := hideP (HF.out.trans f21)
      clear f21
      have kT0 := VT.out.b.cell 0 (u := .slice aT nT dT) rfl
      have kT1 := VT.out.b.cell 1 (u := .slice eT mT hT) rfl
      have c22 := insert_ok a1 a3 VT.out.s HI.out
      rw [HTA.out] at c22
      dsimp only at c22
      rw [HNA.out, HMA.out] at c22
      go_wp2_with fail
      refine c22.mono ?_
      rintro _ w22 ⟨⟨aA, dA, eA, hA, rfl, oA⟩, f22⟩
      clear c22
      clear kT0 kT1
      have NV := TV.new oA.isT
      have g22 : Fr w21 (w22.alloc (.cells #[.slice aA nA dA, .slice eA mA hA] 25)) := f22.alloc _
      replace VT := hideP (VT.out.fr g22)
      replace HF := hideP (HF.out.trans g22)
      have VA := hideP NV
      clear NV g22 f22
      clear oA
      have kT0 := VT.out.b.cell 0 (u := .slice aT nT dT) rfl
      have kT1 := VT.out.b.cell 1 (u := .slice eT mT hT) rfl
      have c23 := ins_err a2 a4 VT.out.s HBt.out (by omega) HJ.out
      rw [HZ.out] at c23
      go_wp2_with fail
      refine c23.mono ?_
      rintro _ w23 ⟨rfl, f23⟩
      clear c23
      clear kT0 kT1
      have g23 : Fr (w22.alloc (.cells #[.slice aA nA dA, .slice eA mA hA] 25)) (w23.alloc (.cells #[.slice none 0 0, .slice none 0 0] 25)) := f23.alloc _
      have NB := hideP (Blk.new w23 #[.slice none 0 0, .slice none 0 0] 25)
      replace VT := hideP (VT.out.fr g23)
      replace VA := hideP (VA.out.fr g23)
      replace HF := hideP (HF.out.trans g23)
      have BN := NB
      clear NB g23 f23
      go_wp2_with fail
      go_ret
      exact ⟨rfl, HF.out⟩
  · by_cases hj : TK.insE a2 L0 U0 = 0
    · obtain ⟨Un, rfl, _⟩ := TK.right_of (TK.insE_zero hj).1
      obtain ⟨z, hz⟩ : ∃ z, TK.insE a1 L0 (Un.map nI) = z := ⟨_, rfl⟩
      have g1 : ((z : Int) != 0) = true := by rw [← hz]; simp; omega
      have g2 : ¬ ((z : Int) = 0) := by rw [← hz]; omega
      have g3 : ((z : Int) == 0) = false := by rw [← hz]; simp; omega
      obtain ⟨⟨LB, UB⟩, hTB⟩ : ∃ r, TK.insT a2 a4 L0 Un = r := ⟨_, rfl⟩
      obtain ⟨nB, NB⟩ : ∃ n, LB.length = n := ⟨_, rfl⟩
      obtain ⟨mB, MB⟩ : ∃ n, UB.length = n := ⟨_, rfl⟩
      have HTB := hideP hTB
      have HNB := hideP NB
      have HMB := hideP MB
      clear NB MB
      have HI := hideP hi
      have HJ := hideP hj
      have HZ := hideP hz
      clear hi hj hz hTB hab NT MT hL hR hS hU hUr
      go_enter Try.func9, Try.ntmps9
      have c21 := treeBegun_any (w.alloc (.cells #[.slice aT nT dT, .slice eT mT hT] 25))
      go_wp2_with fail
      refine c21.mono ?_
      rintro _ w21 ⟨rfl, f21⟩
      clear c21
      replace VT := hideP (VT.out.fr f21)
      replace HF := hideP (HF.out.trans f21)
      clear f21
      have kT0 := VT.out.b.cell 0 (u := .slice aT nT dT) rfl
      have kT1 := VT.out.b.cell 1 (u := .slice eT mT hT) rfl
      have c22 := ins_err a1 a3 VT.out.s HBt.out (by omega) HI.out
      rw [HZ.out] at c22
      go_wp2_with fail
      refine c22.mono ?_
      rintro _ w22 ⟨rfl, f22⟩
      clear c22
      clear kT0 kT1
      have g22 : Fr w21 (w22.alloc (.cells #[.slice none 0 0, .slice none 0 0] 25)) := f22.alloc _
      have NB := hideP (Blk.new w22 #[.slice none 0 0, .slice none 0 0] 25)
      replace VT := hideP (VT.out.fr g22)
      replace HF := hideP (HF.out.trans g22)
      have BN := NB
      clear NB g22 f22
      have kT0 := VT.out.b.cell 0 (u := .slice aT nT dT) rfl
      have kT1 := VT.out.b.cell 1 (u := .slice eT mT hT) rfl
      have c23 := insert_ok a2 a4 VT.out.s HJ.out
      rw [HTB.out] at c23
      dsimp only at c23
      rw [HNB.out, HMB.out] at c23
      go_wp2_with fail
      refine c23.mono ?_
      rintro _ w23 ⟨⟨aB, dB, eB, hB, rfl, oB⟩, f23⟩
      clear c23
      clear kT0 kT1
      have NV := TV.new oB.isT
      have g23 : Fr (w22.alloc (.cells #[.slice none 0 0, .slice none 0 0] 25)) (w23.alloc (.cells #[.slice aB nB dB, .slice eB mB hB] 25)) := f23.alloc _
      replace VT := hideP (VT.out.fr g23)
      replace BN := hideP (BN.out.fr g23)
      replace HF := hideP (HF.out.trans g23)
      have VB := hideP NV
      clear NV g23 f23
      clear oB
      go_wp2_with fail
      go_ret
      exact ⟨rfl, HF.out⟩
    · obtain ⟨z, hz⟩ : ∃ z, TK.insE a1 L0 U0 = z := ⟨_, rfl⟩
      have g1 : ((z : Int) != 0) = true := by rw [← hz]; simp; omega
      have g2 : ¬ ((z : Int) = 0) := by rw [← hz]; omega
      have g3 : ((z : Int) == 0) = false := by rw [← hz]; simp; omega
      obtain ⟨z2, hz2⟩ : ∃ z, TK.insE a2 L0 U0 = z := ⟨_, rfl⟩
      have HI := hideP hi
      have HJ := hideP hj
      have HZ := hideP hz
      have HZ2 := hideP hz2
      clear hi hj hz hz2 hab NT MT hL hR hS hU hUr
      go_enter Try.func9, Try.ntmps9
      have c21 := treeBegun_any (w.alloc (.cells #[.slice aT nT dT, .slice eT mT hT] 25))
      go_wp2_with fail
      refine c21.mono ?_
      rintro _ w21 ⟨rfl, f21⟩
      clear c21
      replace VT := hideP (VT.out.fr f21)
      replace HF := hideP (HF.out.trans f21)
      clear f21
      have kT0 := VT.out.b.cell 0 (u := .slice aT nT dT) rfl
      have kT1 := VT.out.b.cell 1 (u := .slice eT mT hT) rfl
      have c22 := ins_err a1 a3 VT.out.s HBt.out (by omega) HI.out
      rw [HZ.out] at c22
      go_wp2_with fail
      refine c22.mono ?_
      rintro _ w22 ⟨rfl, f22⟩
      clear c22
      clear kT0 kT1
      have g22 : Fr w21 (w22.alloc (.cells #[.slice none 0 0, .slice none 0 0] 25)) := f22.alloc _
      have NB := hideP (Blk.new w22 #[.slice none 0 0, .slice none 0 0] 25)
      replace VT := hideP (VT.out.fr g22)
      replace HF := hideP (HF.out.trans g22)
      have BN := NB
      clear NB g22 f22
      have kT0 := VT.out.b.cell 0 (u := .slice aT nT dT) rfl
      have kT1 := VT.out.b.cell 1 (u := .slice eT mT hT) rfl
      have c23 := ins_err a2 a4 VT.out.s HBt.out (by omega) HJ.out
      rw [HZ2.out] at c23
      go_wp2_with fail
      refine c23.mono ?_
      rintro _ w23 ⟨rfl, f23⟩
      clear c23
      clear kT0 kT1
      have g23 : Fr (w22.alloc (.cells #[.slice none 0 0, .slice none 0 0] 25)) (w23.alloc (.cells #[.slice none 0 0, .slice none 0 0] 25)) := f23.alloc _
      have NB := hideP (Blk.new w23 #[.slice none 0 0, .slice none 0 0] 25)
      replace VT := hideP (VT.out.fr g23)
      replace BN := hideP (BN.out.fr g23)
      replace HF := hideP (HF.out.trans g23)
      have BO := NB
      clear NB g23 f23
      go_wp2_with fail
      go_ret
      exact ⟨rfl, HF.out⟩


set_option maxRecDepth 100000 in
theorem lifted (os : Go.Os) (started : os.Started) (H : Type) (enc : TypeId × Value → H) :
    ReturnsInHanded {} Try.checked os 9 .any (Rows.treeEitherSpec.pre6 enc Try.prog Try.f9 Rows.treeEitherRow.domain false) (Rows.treeEitherSpec.post enc Try.prog Try.f9 false true false false) := by
  refine returnsInHanded_of_change_sized (C := Try.checked) own started (by kernel_rfl) Try.func9
    (ChangeSpec.witness6 (enc := enc) (C := Try.checked) false ⟨#[], #[.agg #[.slice none 0 0, .slice none 0 0], .string ByteArray.empty, .string ByteArray.empty, .int .i64 0, .int .i64 0], []⟩ 8 (by kernel_rfl) (by kernel_rfl) (by kernel_rfl) (by kernel_rfl)) ?_
  intro W base args ds gs before hval0 hW hcnd hsz0 _
  have hval : ∀ (j : Nat) t v, Try.f9.params[j]? = some t → args[j]? = some v → Value.okWide Try.prog W .any base t v := hval0
  have hsz : (DataW.weightsEach Try.prog (Try.f9.params.toList ++ Rows.treeEitherSpec.plain.varTypes Try.prog) (ds ++ gs)).all (· ≤ reachBytes) = true := hsz0
  have hW' := hW
  obtain ⟨p, q, hA0, hV, rfl, hfz, hnd⟩ := hW
  have hA : DataW.TrodAll enc Try.prog W 0 (fun _ => true) true Try.f9.params.toList args.toList ds p := hA0
  rw [Try.params9] at hA hval hsz
  obtain ⟨v0, vs0, d0, ds0, p0, q0, hargs, rfl, rfl, h0, r0⟩ := trodAll_cons hA
  obtain ⟨v1, vs1, d1, ds1, p1, q1, rfl, rfl, rfl, h1, r1⟩ := trodAll_cons r0
  obtain ⟨v2, vs2, d2, ds2, p2, q2, rfl, rfl, rfl, h2, r2⟩ := trodAll_cons r1
  obtain ⟨v3, vs3, d3, ds3, p3, q3, rfl, rfl, rfl, h3, r3⟩ := trodAll_cons r2
  obtain ⟨v4, vs4, d4, ds4, p4, q4, rfl, rfl, rfl, h4, r4⟩ := trodAll_cons r3
  obtain ⟨rfl, rfl, rfl⟩ := trodAll_nil r4
  obtain rfl : args = #[v0, v1, v2, v3, v4] := by cases args; simp_all
  obtain ⟨rfl, rfl⟩ := trodVars_none hV
  obtain ⟨x0, y0, l0, u0, rfl, rw0, b0⟩ := open_tree (hval 0 25 v0 rfl rfl) h0 (sized_at hsz (j := 0) rfl rfl)
  obtain ⟨a1, rfl, rfl, rfl, w1⟩ := open_string Try.underlying9 (hval 1 9 v1 rfl rfl) h1
  obtain ⟨a2, rfl, rfl, rfl, w2⟩ := open_string Try.underlying9 (hval 2 9 v2 rfl rfl) h2
  obtain ⟨a3, rfl, rfl, rfl, w3⟩ := open_int Try.underlying2 (hval 3 2 v3 rfl rfl) h3
  obtain ⟨a4, rfl, rfl, rfl, w4⟩ := open_int Try.underlying2 (hval 4 2 v4 rfl rfl) h4
  have b1 : a1.size ≤ 140737488351232 := by
    have h := sized_string hsz (j := 1) (t := 9) rfl rfl
    simpa [reachBytes] using h
  have b2 : a2.size ≤ 140737488351232 := by
    have h := sized_string hsz (j := 2) (t := 9) rfl rfl
    simpa [reachBytes] using h
  clear hA0 hval0 hsz0
  refine (walk x0 y0 l0 u0 a1 a2 a3 a4 W rw0 b0 b1 b2 (wf_i64 w3) (wf_i64 w4)).mono fun e W' ⟨he, bel⟩ => ?_
  subst he
  exact ⟨_, rfl, _, _, _, [], _, [], hW', trodAll_mk1 (shut_bool Try.underlying4 _), (trodAll_cons_mk (shut_tree h0 bel) (trodAll_cons_mk (shut_string Try.underlying9 w1) (trodAll_cons_mk (shut_string Try.underlying9 w2) (trodAll_cons_mk (shut_int Try.underlying2 w3) (trodAll_cons_mk (shut_int Try.underlying2 w4) trodAll_mk0))))), rfl, Below.frame bel _, fun h => by cases h⟩

theorem over : Rows.treeEitherRow.holds Try.pinned (OpenSpec.ofChange Rows.treeEitherSpec) :=
  OpenClaim.holds_of_wide 9 Try.f9 rfl rfl rfl rfl rfl rfl rfl ⟨rfl, rfl, rfl, rfl, rfl⟩ rfl rfl rfl rfl rfl (by kernel_rfl) Try.func9 (by kernel_rfl)
    (of_decide_eq_true (by kernel_rfl)) (by unfold Func.isWrapper; first | (rw [if_pos (by decide +kernel)]; kernel_rfl) | (rw [if_neg (by decide +kernel)]; exact ⟨rfl, rfl⟩))
    (fun os started H enc _ => lifted os started H enc)

end Go.Proofs.Ytmemapfboefngaa.treeEitherProof
namespace Go.Proofs.Ytmemapfboefngaa
theorem treeEither_holds : Rows.TreeEitherSaid := treeEitherProof.over
#print axioms treeEither_holds
end Go.Proofs.Ytmemapfboefngaa
