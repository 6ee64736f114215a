/-
  Proved: for every disk, every place, every text and every choice of what lands DiskTells answers true: Check, Read, Write, Sync and Crash answer just what the document says, errors too. No condition but the form's own reach.
-/
import Derived.Test.YtklldfkaihpkiaaDkBg
import Derived.Test.YtklldfkaihpkiaaJdS
import Derived.Test.YtklldfkaihpkiaaOpenD
namespace Go.Proofs.Ytklldfkaihpkiaa.DiskTells
open Go.ChangeShapes Go.WideShapes Go.ChangeAt Go.RowKit
open Go.ChangeMaps (open_string shut_string)
set_option linter.unusedVariables false
set_option linter.unusedSimpArgs false
set_option maxRecDepth 100000

theorem sn_after {w w' : World} {a0 a1 a2 a3 a4 a5 a6 a7 a8 a9 a10 a11 a12 a13 : Addr} {v0 v1 v2 v3 v4 v5 v6 v7 v8 v9 v10 v11 v12 v13 : Value} (f : Fr w w') (h : w.cell? a0 = some v0 ∧ w.cell? a1 = some v1 ∧ w.cell? a2 = some v2 ∧ w.cell? a3 = some v3 ∧ w.cell? a4 = some v4 ∧ w.cell? a5 = some v5 ∧ w.cell? a6 = some v6 ∧ w.cell? a7 = some v7 ∧ w.cell? a8 = some v8 ∧ w.cell? a9 = some v9 ∧ w.cell? a10 = some v10 ∧ w.cell? a11 = some v11 ∧ w.cell? a12 = some v12 ∧ w.cell? a13 = some v13) : w'.cell? a0 = some v0 ∧ w'.cell? a1 = some v1 ∧ w'.cell? a2 = some v2 ∧ w'.cell? a3 = some v3 ∧ w'.cell? a4 = some v4 ∧ w'.cell? a5 = some v5 ∧ w'.cell? a6 = some v6 ∧ w'.cell? a7 = some v7 ∧ w'.cell? a8 = some v8 ∧ w'.cell? a9 = some v9 ∧ w'.cell? a10 = some v10 ∧ w'.cell? a11 = some v11 ∧ w'.cell? a12 = some v12 ∧ w'.cell? a13 = some v13 :=
  ⟨(Below.cell f (World.block_lt_of_cell? _ _ h.1)).trans h.1, (Below.cell f (World.block_lt_of_cell? _ _ h.2.1)).trans h.2.1, (Below.cell f (World.block_lt_of_cell? _ _ h.2.2.1)).trans h.2.2.1, (Below.cell f (World.block_lt_of_cell? _ _ h.2.2.2.1)).trans h.2.2.2.1, (Below.cell f (World.block_lt_of_cell? _ _ h.2.2.2.2.1)).trans h.2.2.2.2.1, (Below.cell f (World.block_lt_of_cell? _ _ h.2.2.2.2.2.1)).trans h.2.2.2.2.2.1, (Below.cell f (World.block_lt_of_cell? _ _ h.2.2.2.2.2.2.1)).trans h.2.2.2.2.2.2.1, (Below.cell f (World.block_lt_of_cell? _ _ h.2.2.2.2.2.2.2.1)).trans h.2.2.2.2.2.2.2.1, (Below.cell f (World.block_lt_of_cell? _ _ h.2.2.2.2.2.2.2.2.1)).trans h.2.2.2.2.2.2.2.2.1, (Below.cell f (World.block_lt_of_cell? _ _ h.2.2.2.2.2.2.2.2.2.1)).trans h.2.2.2.2.2.2.2.2.2.1, (Below.cell f (World.block_lt_of_cell? _ _ h.2.2.2.2.2.2.2.2.2.2.1)).trans h.2.2.2.2.2.2.2.2.2.2.1, (Below.cell f (World.block_lt_of_cell? _ _ h.2.2.2.2.2.2.2.2.2.2.2.1)).trans h.2.2.2.2.2.2.2.2.2.2.2.1, (Below.cell f (World.block_lt_of_cell? _ _ h.2.2.2.2.2.2.2.2.2.2.2.2.1)).trans h.2.2.2.2.2.2.2.2.2.2.2.2.1, (Below.cell f (World.block_lt_of_cell? _ _ h.2.2.2.2.2.2.2.2.2.2.2.2.2)).trans h.2.2.2.2.2.2.2.2.2.2.2.2.2⟩
theorem all_bits (d : JN.D) : JN.crashD d (JN.bits 18446744073709551615) = JN.crashD d JN.all := by
  unfold JN.crashD
  by_cases h : JN.dchk d = 0
  · have hm := ((JN.dchk_ok d).1 h).many
    rw [if_pos h, if_pos h, JN.land_bits_all _ _ (by rw [List.length_map]; omega)]
  · rw [if_neg h, if_neg h]
theorem crash_len (d : JN.D) (m : Nat → Bool) : (JN.crashD d m).1.pg.length ≤ 32 ∧ (JN.crashD d m).1.wt.length ≤ 48 := by
  by_cases h : JN.dchk d = 0
  · have := (JN.crash_ok ((JN.dchk_ok d).1 h) m).2.1
    exact ⟨this.len, this.many⟩
  · rw [JN.crashD, if_neg h]; exact ⟨Nat.zero_le _, Nat.zero_le _⟩
theorem write_len (d : JN.D) (n : Int) (t : JN.B) : (JN.writeD d n t).1.pg.length ≤ 32 ∧ (JN.writeD d n t).1.wt.length ≤ 48 := by
  by_cases h : (JN.writeD d n t).2 = 0
  · obtain ⟨a, b, c, e⟩ := JN.write_err h
    obtain ⟨e1, e2, _⟩ := JN.write_ok a b c e
    rw [e1]
    exact ⟨e2.len, e2.many⟩
  · unfold JN.writeD at h ⊢
    by_cases h0 : JN.dchk d = 0
    · rw [if_pos h0] at h ⊢
      by_cases h1 : n < 0 ∨ 31 < n
      · rw [if_pos h1]; decide
      · rw [if_neg h1] at h ⊢
        by_cases h2 : 260 < t.size ∨ d.wt.length = 48
        · rw [if_pos h2]; decide
        · rw [if_neg h2] at h; exact absurd rfl h
    · rw [if_neg h0]; exact ⟨Nat.zero_le _, Nat.zero_le _⟩
set_option maxHeartbeats 20000000 in
theorem walk (p q : Value) (d : JN.D) (no : Int) (s : ByteArray) (m : Int) (w : World) (hr : IsD w p q d) (hb : BD d) (hno : -9223372036854775808 ≤ no ∧ no ≤ 9223372036854775807) (hs : s.size ≤ 140737488351232) (hm : 0 ≤ m ∧ m ≤ 18446744073709551615) :
    Calls Try.prog 3 #[.agg #[p, q], .int .i64 no, .string s, .int .u64 m] w fun e w' => e = .returned (.bool true) ∧ Fr w w' := by
  obtain ⟨m, rfl⟩ := Int.eq_ofNat_of_zero_le hm.1
  have hm2 : m < 18446744073709551616 := by omega
  obtain ⟨aA, nA, dA, rfl⟩ := hr.1.slice
  obtain ⟨eA, mA, hA, rfl⟩ := hr.2.slice
  have hb1 := hb.pl
  have hb2 := hb.wl
  have DA := hideP (DV.new hr)
  have HF : Hid (Fr w (w.alloc (.cells #[.slice aA nA dA, .slice eA mA hA] 25))) := (Fr.refl w).alloc _
  have l1 := write_len d no s
  have l2 := crash_len d JN.all
  have l3 := crash_len d (JN.bits m)
  obtain ⟨⟨rt, re⟩, h1⟩ : ∃ r, JN.readD d no = r := ⟨_, rfl⟩
  obtain ⟨⟨x1, e1⟩, h2⟩ : ∃ r, JN.writeD d no s = r := ⟨_, rfl⟩
  obtain ⟨⟨x2, e2⟩, h3⟩ : ∃ r, JN.crashD d JN.all = r := ⟨_, rfl⟩
  obtain ⟨⟨x3, e3⟩, h4⟩ : ∃ r, JN.crashD d (JN.bits m) = r := ⟨_, rfl⟩
  have h5 := all_bits d
  rw [h3] at h5
  rw [h2] at l1
  rw [h3] at l2
  rw [h4] at l3
  simp only at l1 l2 l3
  have H1 := hideP h1
  have H2 := hideP h2
  have H3 := hideP h3
  have H4 := hideP h4
  have H5 := hideP h5
  clear hr hm h1 h2 h3 h4 h5 hb
  go_enter Try.func3, Try.ntmps3
  obtain ⟨kA0, kA1, _, _⟩ := DA.out.b.two
  have c21 := read_any _ _ d no (w.alloc (.cells #[.slice aA nA dA, .slice eA mA hA] 25)) DA.out.d hb1
  rw [H1.out] at c21
  go_wp2_with fail
  refine c21.mono ?_
  rintro _ w21 ⟨rfl, f21⟩
  clear c21
  clear kA0 kA1
  replace DA := hideP (DA.out.fr f21)
  replace HF := hideP (HF.out.trans f21)
  clear f21
  obtain ⟨kA0, kA1, _, _⟩ := DA.out.b.two
  have c22 := write_any _ _ d no s w21 DA.out.d hb1
  rw [H2.out] at c22
  go_wp2_with fail
  refine c22.mono ?_
  rintro _ w22 ⟨pB, qB, rfl, oB, f22⟩
  clear c22
  clear kA0 kA1
  obtain ⟨aB, nB, dB, rfl⟩ := own_slice' oB.pg
  obtain ⟨eB, mB, hB, rfl⟩ := own_slice' oB.wt
  have NV := DV.new oB.is
  have g22 : Fr w21 (w22.alloc (.cells #[.slice aB nB dB, .slice eB mB hB] 25)) := f22.alloc _
  replace DA := hideP (DA.out.fr g22)
  replace HF := hideP (HF.out.trans g22)
  have DB := hideP NV
  have OB := hideP oB
  clear NV g22 f22 oB
  obtain ⟨kA0, kA1, _, _⟩ := DA.out.b.two
  have c23 := sync_any _ _ d (w22.alloc (.cells #[.slice aB nB dB, .slice eB mB hB] 25)) DA.out.d hb1
  rw [H3.out] at c23
  go_wp2_with fail
  refine c23.mono ?_
  rintro _ w23 ⟨pC, qC, rfl, oC, f23⟩
  clear c23
  clear kA0 kA1
  obtain ⟨aC, nC, dC, rfl⟩ := own_slice' oC.pg
  obtain ⟨eC, mC, hC, rfl⟩ := own_slice' oC.wt
  have NV := DV.new oC.is
  have g23 : Fr (w22.alloc (.cells #[.slice aB nB dB, .slice eB mB hB] 25)) (w23.alloc (.cells #[.slice aC nC dC, .slice eC mC hC] 25)) := f23.alloc _
  replace DA := hideP (DA.out.fr g23)
  replace DB := hideP (DB.out.fr g23)
  replace HF := hideP (HF.out.trans g23)
  have DC := hideP NV
  have OC := hideP oC
  clear NV g23 f23 oC
  obtain ⟨kA0, kA1, _, _⟩ := DA.out.b.two
  have c24 := crash_any _ _ d m (w23.alloc (.cells #[.slice aC nC dC, .slice eC mC hC] 25)) DA.out.d hb1 hm2
  rw [H4.out] at c24
  go_wp2_with fail
  refine c24.mono ?_
  rintro _ w24 ⟨pE, qE, rfl, oE, f24⟩
  clear c24
  clear kA0 kA1
  obtain ⟨aE, nE, dE, rfl⟩ := own_slice' oE.pg
  obtain ⟨eE, mE, hE, rfl⟩ := own_slice' oE.wt
  have NV := DV.new oE.is
  have g24 : Fr (w23.alloc (.cells #[.slice aC nC dC, .slice eC mC hC] 25)) (w24.alloc (.cells #[.slice aE nE dE, .slice eE mE hE] 25)) := f24.alloc _
  replace DA := hideP (DA.out.fr g24)
  replace DB := hideP (DB.out.fr g24)
  replace DC := hideP (DC.out.fr g24)
  replace HF := hideP (HF.out.trans g24)
  have DE := hideP NV
  have OE := hideP oE
  clear NV g24 f24 oE
  obtain ⟨kA0, kA1, _, _⟩ := DA.out.b.two
  have c25 := readOf_any _ _ d no (w24.alloc (.cells #[.slice aE nE dE, .slice eE mE hE] 25)) DA.out.d hb1 hb2
  rw [H1.out] at c25
  go_wp2_with fail
  refine c25.mono ?_
  rintro _ w25 ⟨rfl, f25⟩
  clear c25
  clear kA0 kA1
  replace DA := hideP (DA.out.fr f25)
  replace DB := hideP (DB.out.fr f25)
  replace DC := hideP (DC.out.fr f25)
  replace DE := hideP (DE.out.fr f25)
  replace HF := hideP (HF.out.trans f25)
  clear f25
  obtain ⟨kA0, kA1, _, _⟩ := DA.out.b.two
  have c26 := writeOf_any _ _ d no s w25 DA.out.d hb1 hb2
  rw [H2.out] at c26
  go_wp2_with fail
  refine c26.mono ?_
  rintro _ w26 ⟨pG, qG, rfl, oG, f26⟩
  clear c26
  clear kA0 kA1
  obtain ⟨aG, nG, dG, rfl⟩ := oG.1.slice
  obtain ⟨eG, mG, hG, rfl⟩ := oG.2.slice
  have NV := DV.new oG
  have g26 : Fr w25 (w26.alloc (.cells #[.slice aG nG dG, .slice eG mG hG] 25)) := f26.alloc _
  replace DA := hideP (DA.out.fr g26)
  replace DB := hideP (DB.out.fr g26)
  replace DC := hideP (DC.out.fr g26)
  replace DE := hideP (DE.out.fr g26)
  replace HF := hideP (HF.out.trans g26)
  have DG := hideP NV
  clear NV g26 f26 oG
  obtain ⟨kA0, kA1, _, _⟩ := DA.out.b.two
  have c27 := crashOf_any _ _ d 18446744073709551615 (w26.alloc (.cells #[.slice aG nG dG, .slice eG mG hG] 25)) DA.out.d hb1 hb2 (by decide)
  rw [H5.out] at c27
  go_wp2_with fail
  refine c27.mono ?_
  rintro _ w27 ⟨pH, qH, rfl, oH, f27⟩
  clear c27
  clear kA0 kA1
  obtain ⟨aH, nH, dH, rfl⟩ := oH.1.slice
  obtain ⟨eH, mH, hH, rfl⟩ := oH.2.slice
  have NV := DV.new oH
  have g27 : Fr (w26.alloc (.cells #[.slice aG nG dG, .slice eG mG hG] 25)) (w27.alloc (.cells #[.slice aH nH dH, .slice eH mH hH] 25)) := f27.alloc _
  replace DA := hideP (DA.out.fr g27)
  replace DB := hideP (DB.out.fr g27)
  replace DC := hideP (DC.out.fr g27)
  replace DE := hideP (DE.out.fr g27)
  replace DG := hideP (DG.out.fr g27)
  replace HF := hideP (HF.out.trans g27)
  have DH := hideP NV
  clear NV g27 f27 oH
  obtain ⟨kA0, kA1, _, _⟩ := DA.out.b.two
  have c28 := crashOf_any _ _ d m (w27.alloc (.cells #[.slice aH nH dH, .slice eH mH hH] 25)) DA.out.d hb1 hb2 hm2
  rw [H4.out] at c28
  go_wp2_with fail
  refine c28.mono ?_
  rintro _ w28 ⟨pI, qI, rfl, oI, f28⟩
  clear c28
  clear kA0 kA1
  obtain ⟨aI, nI, dI, rfl⟩ := oI.1.slice
  obtain ⟨eI, mI, hI, rfl⟩ := oI.2.slice
  have NV := DV.new oI
  have g28 : Fr (w27.alloc (.cells #[.slice aH nH dH, .slice eH mH hH] 25)) (w28.alloc (.cells #[.slice aI nI dI, .slice eI mI hI] 25)) := f28.alloc _
  replace DA := hideP (DA.out.fr g28)
  replace DB := hideP (DB.out.fr g28)
  replace DC := hideP (DC.out.fr g28)
  replace DE := hideP (DE.out.fr g28)
  replace DG := hideP (DG.out.fr g28)
  replace DH := hideP (DH.out.fr g28)
  replace HF := hideP (HF.out.trans g28)
  have DI := hideP NV
  clear NV g28 f28 oI
  obtain ⟨W0, hW0⟩ : ∃ W0, (w28.alloc (.cells #[.slice aI nI dI, .slice eI mI hI] 25)) = W0 := ⟨_, rfl⟩
  have HW := hideP hW0
  rw [hW0] at DA DB DC DE DG DH DI HF
  have HS3 := hideP (show W0.cell? ⟨w.heap.size, 0, none⟩ = some (.slice aA nA dA) ∧ W0.cell? ⟨w.heap.size, 1, none⟩ = some (.slice eA mA hA) ∧ W0.cell? ⟨w22.heap.size, 0, none⟩ = some (.slice aB nB dB) ∧ W0.cell? ⟨w22.heap.size, 1, none⟩ = some (.slice eB mB hB) ∧ W0.cell? ⟨w23.heap.size, 0, none⟩ = some (.slice aC nC dC) ∧ W0.cell? ⟨w23.heap.size, 1, none⟩ = some (.slice eC mC hC) ∧ W0.cell? ⟨w24.heap.size, 0, none⟩ = some (.slice aE nE dE) ∧ W0.cell? ⟨w24.heap.size, 1, none⟩ = some (.slice eE mE hE) ∧ W0.cell? ⟨w26.heap.size, 0, none⟩ = some (.slice aG nG dG) ∧ W0.cell? ⟨w26.heap.size, 1, none⟩ = some (.slice eG mG hG) ∧ W0.cell? ⟨w27.heap.size, 0, none⟩ = some (.slice aH nH dH) ∧ W0.cell? ⟨w27.heap.size, 1, none⟩ = some (.slice eH mH hH) ∧ W0.cell? ⟨w28.heap.size, 0, none⟩ = some (.slice aI nI dI) ∧ W0.cell? ⟨w28.heap.size, 1, none⟩ = some (.slice eI mI hI) from by
    obtain ⟨kA0, kA1, _, _⟩ := DA.out.b.two
    obtain ⟨kB0, kB1, _, _⟩ := DB.out.b.two
    obtain ⟨kC0, kC1, _, _⟩ := DC.out.b.two
    obtain ⟨kE0, kE1, _, _⟩ := DE.out.b.two
    obtain ⟨kG0, kG1, _, _⟩ := DG.out.b.two
    obtain ⟨kH0, kH1, _, _⟩ := DH.out.b.two
    obtain ⟨kI0, kI1, _, _⟩ := DI.out.b.two
    exact ⟨kA0, kA1, kB0, kB1, kC0, kC1, kE0, kE1, kG0, kG1, kH0, kH1, kI0, kI1⟩)
  have CB := hideP (fun W => diskBegun_any W)
  obtain ⟨z, hzz⟩ : ∃ z, JN.dchk d = z := ⟨_, rfl⟩
  have cc := fun W (f : Fr W0 W) => check_any _ _ d W (DA.out.d.fr f) hb1
  have cd := fun W (f : Fr W0 W) => diskCheck_any _ _ d W (DA.out.d.fr f) hb1 hb2
  rw [hzz] at cc cd
  have CC := hideP cc
  have CD := hideP cd
  have CS : Hid (∀ W (f : Fr W0 W) (P Q P' Q' : Value), (P = .slice aB nB dB ∧ Q = .slice eB mB hB ∧ P' = .slice aG nG dG ∧ Q' = .slice eG mG hG ∨ P = .slice aC nC dC ∧ Q = .slice eC mC hC ∧ P' = .slice aH nH dH ∧ Q' = .slice eH mH hH ∨ P = .slice aE nE dE ∧ Q = .slice eE mE hE ∧ P' = .slice aI nI dI ∧ Q' = .slice eI mI hI) → Calls Try.prog 26 #[.agg #[P, Q], .agg #[P', Q']] W fun e w' => e = .returned (.bool true) ∧ Fr W w') := by
    rintro W f P Q P' Q' (⟨rfl, rfl, rfl, rfl⟩ | ⟨rfl, rfl, rfl, rfl⟩ | ⟨rfl, rfl, rfl, rfl⟩)
    · exact sameDisk_eq _ _ _ _ x1 W (DB.out.d.fr f) (DG.out.d.fr f) (by omega) (by omega)
    · exact sameDisk_eq _ _ _ _ x2 W (DC.out.d.fr f) (DH.out.d.fr f) (by omega) (by omega)
    · exact sameDisk_eq _ _ _ _ x3 W (DE.out.d.fr f) (DI.out.d.fr f) (by omega) (by omega)
  have hz := Fr.drew (Fr.refl W0)
  clear hW0 cc cd hzz l1 l2 l3
  go_upto_region 9 with fail
  rw [HW.out]
  go_region_held3 (fun W => W.cell? ⟨w.heap.size, 0, none⟩ = some (.slice aA nA dA) ∧ W.cell? ⟨w.heap.size, 1, none⟩ = some (.slice eA mA hA) ∧ W.cell? ⟨w22.heap.size, 0, none⟩ = some (.slice aB nB dB) ∧ W.cell? ⟨w22.heap.size, 1, none⟩ = some (.slice eB mB hB) ∧ W.cell? ⟨w23.heap.size, 0, none⟩ = some (.slice aC nC dC) ∧ W.cell? ⟨w23.heap.size, 1, none⟩ = some (.slice eC mC hC) ∧ W.cell? ⟨w24.heap.size, 0, none⟩ = some (.slice aE nE dE) ∧ W.cell? ⟨w24.heap.size, 1, none⟩ = some (.slice eE mE hE) ∧ W.cell? ⟨w26.heap.size, 0, none⟩ = some (.slice aG nG dG) ∧ W.cell? ⟨w26.heap.size, 1, none⟩ = some (.slice eG mG hG) ∧ W.cell? ⟨w27.heap.size, 0, none⟩ = some (.slice aH nH dH) ∧ W.cell? ⟨w27.heap.size, 1, none⟩ = some (.slice eH mH hH) ∧ W.cell? ⟨w28.heap.size, 0, none⟩ = some (.slice aI nI dI) ∧ W.cell? ⟨w28.heap.size, 1, none⟩ = some (.slice eI mI hI)) (first | exact HS3.out | exact sn_after hz HS3.out) (first
    | (go_at_call 23; refine (CB.out _).mono ?_; rintro _ w50 ⟨rfl, f50⟩; replace hz := Fr.after f50 hz; clear f50)
    | (go_at_call 24; refine (CC.out _ hz).mono ?_; rintro _ w51 ⟨rfl, f51⟩; replace hz := Fr.after f51 hz; clear f51)
    | (go_at_call 25; refine (CD.out _ hz).mono ?_; rintro _ w52 ⟨rfl, f52⟩; replace hz := Fr.after f52 hz; clear f52)
    | (go_at_call 26; refine (CS.out _ hz _ _ _ _ (by first | exact .inl ⟨rfl, rfl, rfl, rfl⟩ | exact .inr (.inl ⟨rfl, rfl, rfl, rfl⟩) | exact .inr (.inr ⟨rfl, rfl, rfl, rfl⟩))).mono ?_; rintro _ w53 ⟨rfl, f53⟩; replace hz := Fr.after f53 hz; clear f53))
  all_goals go_wp2_with fail
  all_goals go_ret
  all_goals exact ⟨rfl, HF.out.trans hz⟩

set_option maxRecDepth 100000 in
theorem lifted (os : Go.Os) (started : os.Started) (H : Type) (enc : TypeId × Value → H) :
    ReturnsInHanded {} Try.checked os 3 .any (Rows.diskTellsSpec.pre6 enc Try.prog Try.f3 Rows.diskTellsRow.domain false) (Rows.diskTellsSpec.post enc Try.prog Try.f3 false true false false) := by
  refine returnsInHanded_of_change_sized (C := Try.checked) own started (by kernel_rfl) Try.func3
    (ChangeSpec.witness6 (enc := enc) (C := Try.checked) false ⟨#[], #[.agg #[.slice none 0 0, .slice none 0 0], .int .i64 0, .string ByteArray.empty, .int .u64 0], []⟩ 8 (by kernel_rfl) (by kernel_rfl) (by kernel_rfl) (by kernel_rfl)) ?_
  intro W base args ds gs before hval0 hW hcnd hsz0 _
  have hval : ∀ (j : Nat) t v, Try.f3.params[j]? = some t → args[j]? = some v → Value.okWide Try.prog W .any base t v := hval0
  have hsz : (DataW.weightsEach Try.prog (Try.f3.params.toList ++ Rows.diskTellsSpec.plain.varTypes Try.prog) (ds ++ gs)).all (· ≤ reachBytes) = true := hsz0
  have hW' := hW
  obtain ⟨p, q, hA0, hV, rfl, hfz, hnd⟩ := hW
  have hA : DataW.TrodAll enc Try.prog W 0 (fun _ => true) true Try.f3.params.toList args.toList ds p := hA0
  rw [Try.params3] at hA hval hsz
  obtain ⟨v0, vs0, d0, ds0, p0, q0, hargs, rfl, rfl, h0, r0⟩ := trodAll_cons hA
  obtain ⟨v1, vs1, d1, ds1, p1, q1, rfl, rfl, rfl, h1, r1⟩ := trodAll_cons r0
  obtain ⟨v2, vs2, d2, ds2, p2, q2, rfl, rfl, rfl, h2, r2⟩ := trodAll_cons r1
  obtain ⟨v3, vs3, d3, ds3, p3, q3, rfl, rfl, rfl, h3, r3⟩ := trodAll_cons r2
  obtain ⟨rfl, rfl, rfl⟩ := trodAll_nil r3
  obtain rfl : args = #[v0, v1, v2, v3] := by cases args; simp_all
  obtain ⟨rfl, rfl⟩ := trodVars_none hV
  obtain ⟨x0, y0, l0, rfl, rw0, bd0⟩ := open_disk (hval 0 25 v0 rfl rfl) h0 (sized_at hsz (j := 0) rfl rfl)
  obtain ⟨a1, rfl, rfl, rfl, w1⟩ := open_int Try.underlying3 (hval 1 3 v1 rfl rfl) h1
  obtain ⟨a2, rfl, rfl, rfl, w2⟩ := open_string Try.underlying9 (hval 2 9 v2 rfl rfl) h2
  obtain ⟨a3, rfl, rfl, rfl, w3⟩ := open_int Try.underlying26 (hval 3 26 v3 rfl rfl) h3
  have b2 : a2.size ≤ 140737488351232 := by
    have h := sized_string hsz (j := 2) (t := 9) rfl rfl
    simpa [reachBytes] using h
  clear hA0 hval0 hsz0
  refine (walk x0 y0 l0 a1 a2 a3 W rw0 bd0 (wf_i64 w1) b2 (wf_u64 w3)).mono fun e W' ⟨he, bel⟩ => ?_
  subst he
  exact ⟨_, rfl, _, _, _, [], _, [], hW', trodAll_mk1 (shut_bool Try.underlying4 _), (trodAll_cons_mk (shut_disk h0 bel) (trodAll_cons_mk (shut_int Try.underlying3 w1) (trodAll_cons_mk (shut_string Try.underlying9 w2) (trodAll_cons_mk (shut_int Try.underlying26 w3) trodAll_mk0)))), rfl, Below.frame bel _, fun h => by cases h⟩

theorem over : Rows.diskTellsRow.holds Try.pinned (OpenSpec.ofChange Rows.diskTellsSpec) :=
  OpenClaim.holds_of_wide 3 Try.f3 rfl rfl rfl rfl rfl rfl rfl ⟨rfl, rfl, rfl, rfl, rfl⟩ rfl rfl rfl rfl rfl (by kernel_rfl) Try.func3 (by kernel_rfl)
    (of_decide_eq_true (by kernel_rfl)) (by unfold Func.isWrapper; first | (rw [if_pos (by decide +kernel)]; kernel_rfl) | (rw [if_neg (by decide +kernel)]; exact ⟨rfl, rfl⟩))
    (fun os started H enc _ => lifted os started H enc)

end Go.Proofs.Ytklldfkaihpkiaa.DiskTells
namespace Go.Proofs.Ytklldfkaihpkiaa
theorem diskTells_holds : Rows.DiskTellsSaid := DiskTells.over
#print axioms diskTells_holds
end Go.Proofs.Ytklldfkaihpkiaa
