/-
  Proved: for every tree and all keys TreeTells answers true: Check, List, Find and Range answer just what the document says, errors too. The arguments' bulk is at most 1048576 (the second form): with more, the document's own list of all pairs may outgrow what append takes.
-/
import Derived.Test.YtmemapfboefngaaTwI
import Derived.Test.YtmemapfboefngaaTxB
import Derived.Test.YtmemapfboefngaaOpenQ
namespace Go.Proofs.Ytmemapfboefngaa.treeTellsProof
open Go.ChangeShapes Go.WideShapes Go.ChangeAt Go.RowKit
open Go.ChangeMaps (open_string shut_string)
set_option linter.unusedVariables false
set_option linter.unusedSimpArgs false
set_option maxRecDepth 100000
set_option maxHeartbeats 4000000
theorem fo_spec {key : ByteArray} : ∀ (l : List TK.Pr) (i : Nat), (TK.fo key l i = -1 ∧ TK.get key l = none) ∨ ∃ (j : Nat) (h : j < l.length), TK.fo key l i = ((i + j : Nat) : Int) ∧ TK.get key l = some l[j]
  | [], i => .inl ⟨rfl, rfl⟩
  | p :: t, i => by
    by_cases e : p.k = key
    · right
      refine ⟨0, by simp, ?_, ?_⟩
      · rw [TK.fo, if_pos e]; rfl
      · unfold TK.get
        rw [List.find?_cons_of_pos (by simpa using e)]; rfl
    · have hg : TK.get key (p :: t) = TK.get key t := by
        unfold TK.get
        rw [List.find?_cons_of_neg (by simpa using e)]
      have hf : TK.fo key (p :: t) i = TK.fo key t (i + 1) := by rw [TK.fo, if_neg e]
      rw [hg, hf]
      rcases fo_spec t (i + 1) with h | ⟨j, h, h1, h2⟩
      · exact .inl h
      · right
        refine ⟨j + 1, by simp; omega, by rw [h1]; congr 1; omega, by rw [h2]; rfl⟩
theorem walk (p0 q0 : Value) (L0 : List (List TK.Pr)) (U0 : List (List Int)) (a1 : ByteArray) (a2 : ByteArray) (a3 : ByteArray) (w : World) (h0 : IsT w p0 q0 L0 U0) (b0 : BT L0 U0) (ht : L0.flatten.length ≤ 1048576) (b1 : a1.size ≤ 140737488351232) (b2 : a2.size ≤ 140737488351232) (b3 : a3.size ≤ 140737488351232) :
    Calls Try.prog 3 #[.agg #[p0, q0], .string a1, .string a2, .string a3] w fun e w' => e = .returned (.bool true) ∧ Fr w w' := by
  have hbt := b0
  have hL := b0.l; have hR := b0.r; have hS := b0.s; have hU := b0.u; have hUr := b0.ur
  obtain ⟨aT, dT, rfl⟩ := h0.l.slice
  obtain ⟨eT, hT, rfl⟩ := h0.u.slice
  obtain ⟨nT, NT⟩ : ∃ n, L0.length = n := ⟨_, rfl⟩
  obtain ⟨mT, MT⟩ : ∃ n, U0.length = n := ⟨_, rfl⟩
  rw [NT, MT] at h0 ⊢
  have VT := hideP (TV.new h0)
  have HF : Hid (Fr w (w.alloc (.cells #[.slice aT nT dT, .slice eT mT hT] 25))) := hideP ((Fr.refl w).alloc _)
  have HBt := hideP hbt
  clear h0 b0 hbt
  obtain ⟨nF, NF⟩ : ∃ n, L0.flatten.length = n := ⟨_, rfl⟩
  have HNF := hideP NF
  rw [NF] at ht
  clear NF
  have HLk := hideP HBt.out.sc
  by_cases hc : TK.chk L0 U0 = 0
  · by_cases h40 : 40 < a1.size
    · obtain ⟨f1, f2, f3, f4⟩ := TK.chk_facts hc
      obtain ⟨R1, hR1⟩ : ∃ r, TK.rng a2 a3 L0.flatten = r := ⟨_, rfl⟩
      obtain ⟨nR, NR⟩ : ∃ n, R1.length = n := ⟨_, rfl⟩
      obtain ⟨at_, hat_⟩ : ∃ z, TK.fo a1 L0.flatten 0 = z := ⟨_, rfl⟩
      have hkk := fun p hp => f3 p hp
      have HKs := hideP (show ∀ x ∈ L0.flatten, x.k.size ≤ 140737488351232 from fun x hx => by have := f3 x hx; omega)
      have hrl : nR ≤ 1048576 := by
        have := List.length_filter_le (TK.btw a2 a3) L0.flatten
        have e : (L0.flatten.filter (TK.btw a2 a3)).length = nR := by rw [← NR, ← hR1]; rfl
        omega
      have hfa : TK.findA a1 L0 U0 = ((0, false), 2) := by rw [TK.find_get hc, if_pos h40]
      have h40' : (40 : Int) < (a1.size : Int) := by omega
      have HR1 := hideP hR1
      have HNR := hideP NR
      have HAt := hideP hat_
      have HFa := hideP hfa
      have C0 := hideP hc
      clear hc hR1 NR NT MT hR hS hU hUr f1 f2 f3 f4 hat_ hfa hkk h40
      go_enter Try.func3, Try.ntmps3
      have kT0 := VT.out.b.cell 0 (u := .slice aT nT dT) rfl
      have kT1 := VT.out.b.cell 1 (u := .slice eT mT hT) rfl
      have c21 := treeCheck_any _ _ L0 U0 (w.alloc (.cells #[.slice aT nT dT, .slice eT mT hT] 25)) VT.out.s hL HBt.out.r HBt.out.sc HBt.out.u HBt.out.ur
      rw [C0.out] at c21
      go_wp2_with fail
      refine c21.mono ?_
      rintro _ w21 ⟨rfl, f21⟩
      clear c21
      clear kT0 kT1
      replace VT := hideP (VT.out.fr f21)
      replace HF := hideP (HF.out.trans f21)
      clear f21
      have kT0 := VT.out.b.cell 0 (u := .slice aT nT dT) rfl
      have kT1 := VT.out.b.cell 1 (u := .slice eT mT hT) rfl
      have c22 := list_ok VT.out.s C0.out
      rw [HNF.out] at c22
      go_wp2_with fail
      refine c22.mono ?_
      rintro _ w22 ⟨⟨aP, dP, rfl, oP⟩, f22⟩
      clear c22
      clear kT0 kT1
      replace VT := hideP (VT.out.fr f22)
      replace HF := hideP (HF.out.trans f22)
      have LP := hideP oP
      clear oP f22
      have kT0 := VT.out.b.cell 0 (u := .slice aT nT dT) rfl
      have kT1 := VT.out.b.cell 1 (u := .slice eT mT hT) rfl
      have c23 := find_bt a1 VT.out.s HBt.out (by omega)
      rw [HFa.out] at c23
      dsimp only at c23
      go_wp2_with fail
      refine c23.mono ?_
      rintro _ w23 ⟨rfl, f23⟩
      clear c23
      clear kT0 kT1
      replace VT := hideP (VT.out.fr f23)
      replace LP := hideP (LP.out.fr f23)
      replace HF := hideP (HF.out.trans f23)
      clear f23
      have kT0 := VT.out.b.cell 0 (u := .slice aT nT dT) rfl
      have kT1 := VT.out.b.cell 1 (u := .slice eT mT hT) rfl
      have c24 := range_ok a2 a3 VT.out.s C0.out
      rw [HR1.out, HNR.out] at c24
      go_wp2_with fail
      refine c24.mono ?_
      rintro _ w24 ⟨⟨aR, dR, rfl, oR⟩, f24⟩
      clear c24
      clear kT0 kT1
      replace VT := hideP (VT.out.fr f24)
      replace LP := hideP (LP.out.fr f24)
      replace HF := hideP (HF.out.trans f24)
      have LR := hideP oR
      clear oR f24
      have c25 := treeBegun_any w24
      go_wp2_with fail
      refine c25.mono ?_
      rintro _ w25 ⟨rfl, f25⟩
      clear c25
      replace VT := hideP (VT.out.fr f25)
      replace LP := hideP (LP.out.fr f25)
      replace LR := hideP (LR.out.fr f25)
      replace HF := hideP (HF.out.trans f25)
      clear f25
      have kT0 := VT.out.b.cell 0 (u := .slice aT nT dT) rfl
      have kT1 := VT.out.b.cell 1 (u := .slice eT mT hT) rfl
      have c26 := check_ok VT.out.s C0.out
      go_wp2_with fail
      refine c26.mono ?_
      rintro _ w26 ⟨rfl, f26⟩
      clear c26
      clear kT0 kT1
      replace VT := hideP (VT.out.fr f26)
      replace LP := hideP (LP.out.fr f26)
      replace LR := hideP (LR.out.fr f26)
      replace HF := hideP (HF.out.trans f26)
      clear f26
      have kT0 := VT.out.b.cell 0 (u := .slice aT nT dT) rfl
      have kT1 := VT.out.b.cell 1 (u := .slice eT mT hT) rfl
      have c27 := pairsOf_any _ (.slice eT mT hT) L0 w26 VT.out.s.l ⟨_, _, _, rfl⟩ hL (by rw [HNF.out]; exact ht)
      rw [HNF.out] at c27
      go_wp2_with fail
      refine c27.mono ?_
      rintro _ w27 ⟨_, rfl, oA, f27⟩
      clear c27
      clear kT0 kT1
      obtain ⟨aA, dA, rfl⟩ := own_slice oA
      replace VT := hideP (VT.out.fr f27)
      replace LP := hideP (LP.out.fr f27)
      replace LR := hideP (LR.out.fr f27)
      replace HF := hideP (HF.out.trans f27)
      have LA := hideP (show IsL cdPr w27 (.slice aA nF dA) L0.flatten from by have h0 := HNF.out; subst h0; exact isL_own oA)
      clear oA f27
      have c28 := foundOf_any _ L0.flatten a1 w27 LA.out (by rw [HNF.out]; omega)
      rw [HAt.out] at c28
      go_wp2_with fail
      refine c28.mono ?_
      rintro _ w28 ⟨rfl, f28⟩
      clear c28
      replace VT := hideP (VT.out.fr f28)
      replace LP := hideP (LP.out.fr f28)
      replace LR := hideP (LR.out.fr f28)
      replace LA := hideP (LA.out.fr f28)
      replace HF := hideP (HF.out.trans f28)
      clear f28
      have c29 := samePairs_eq _ _ L0.flatten w28 LP.out LA.out (by rw [HNF.out]; omega)
      go_wp2_with fail
      refine c29.mono ?_
      rintro _ w29 ⟨rfl, f29⟩
      clear c29
      replace VT := hideP (VT.out.fr f29)
      replace LP := hideP (LP.out.fr f29)
      replace LR := hideP (LR.out.fr f29)
      replace LA := hideP (LA.out.fr f29)
      replace HF := hideP (HF.out.trans f29)
      clear f29
      have c30 := rangeOf_any _ L0.flatten a2 a3 w29 LA.out (by rw [HNF.out]; exact ht) HKs.out b2 b3
      rw [HR1.out, HNR.out] at c30
      go_wp2_with fail
      refine c30.mono ?_
      rintro _ w30 ⟨_, rfl, oQ, f30⟩
      clear c30
      obtain ⟨aQ, dQ, rfl⟩ := own_slice oQ
      replace VT := hideP (VT.out.fr f30)
      replace LP := hideP (LP.out.fr f30)
      replace LR := hideP (LR.out.fr f30)
      replace LA := hideP (LA.out.fr f30)
      replace HF := hideP (HF.out.trans f30)
      have LQ := hideP (show IsL cdPr w30 (.slice aQ nR dQ) R1 from by have h0 := HNR.out; subst h0; exact isL_own oQ)
      clear oQ f30
      have c31 := samePairs_eq _ _ R1 w30 LR.out LQ.out (by rw [HNR.out]; omega)
      go_wp2_with fail
      refine c31.mono ?_
      rintro _ w31 ⟨rfl, f31⟩
      clear c31
      replace VT := hideP (VT.out.fr f31)
      replace LP := hideP (LP.out.fr f31)
      replace LR := hideP (LR.out.fr f31)
      replace LA := hideP (LA.out.fr f31)
      replace LQ := hideP (LQ.out.fr f31)
      replace HF := hideP (HF.out.trans f31)
      clear f31
      go_wp2_with fail
      go_ret
      exact ⟨rfl, HF.out⟩
    rcases fo_spec (key := a1) L0.flatten 0 with ⟨hf, hg⟩ | ⟨j, hj, hf, hg⟩
    · obtain ⟨f1, f2, f3, f4⟩ := TK.chk_facts hc
      obtain ⟨R1, hR1⟩ : ∃ r, TK.rng a2 a3 L0.flatten = r := ⟨_, rfl⟩
      obtain ⟨nR, NR⟩ : ∃ n, R1.length = n := ⟨_, rfl⟩
      obtain ⟨at_, hat_⟩ : ∃ z, TK.fo a1 L0.flatten 0 = z := ⟨_, rfl⟩
      have hkk := fun p hp => f3 p hp
      have HKs := hideP (show ∀ x ∈ L0.flatten, x.k.size ≤ 140737488351232 from fun x hx => by have := f3 x hx; omega)
      have hrl : nR ≤ 1048576 := by
        have := List.length_filter_le (TK.btw a2 a3) L0.flatten
        have e : (L0.flatten.filter (TK.btw a2 a3)).length = nR := by rw [← NR, ← hR1]; rfl
        omega
      have h40' : ((40 : Int) < (a1.size : Int)) = False := by simp; omega
      have hfa : TK.findA a1 L0 U0 = ((0, false), 0) := by rw [TK.find_get hc, if_neg h40, hg]; rfl
      rw [hat_] at hf
      subst hf
      have HR1 := hideP hR1
      have HNR := hideP NR
      have HAt := hideP hat_
      have HFa := hideP hfa
      have C0 := hideP hc
      clear hc hR1 NR NT MT hR hS hU hUr f1 f2 f3 f4 hat_ hfa hkk h40 hg
      go_enter Try.func3, Try.ntmps3
      have kT0 := VT.out.b.cell 0 (u := .slice aT nT dT) rfl
      have kT1 := VT.out.b.cell 1 (u := .slice eT mT hT) rfl
      have c21 := treeCheck_any _ _ L0 U0 (w.alloc (.cells #[.slice aT nT dT, .slice eT mT hT] 25)) VT.out.s hL HBt.out.r HBt.out.sc HBt.out.u HBt.out.ur
      rw [C0.out] at c21
      go_wp2_with fail
      refine c21.mono ?_
      rintro _ w21 ⟨rfl, f21⟩
      clear c21
      clear kT0 kT1
      replace VT := hideP (VT.out.fr f21)
      replace HF := hideP (HF.out.trans f21)
      clear f21
      have kT0 := VT.out.b.cell 0 (u := .slice aT nT dT) rfl
      have kT1 := VT.out.b.cell 1 (u := .slice eT mT hT) rfl
      have c22 := list_ok VT.out.s C0.out
      rw [HNF.out] at c22
      go_wp2_with fail
      refine c22.mono ?_
      rintro _ w22 ⟨⟨aP, dP, rfl, oP⟩, f22⟩
      clear c22
      clear kT0 kT1
      replace VT := hideP (VT.out.fr f22)
      replace HF := hideP (HF.out.trans f22)
      have LP := hideP oP
      clear oP f22
      have kT0 := VT.out.b.cell 0 (u := .slice aT nT dT) rfl
      have kT1 := VT.out.b.cell 1 (u := .slice eT mT hT) rfl
      have c23 := find_bt a1 VT.out.s HBt.out (by omega)
      rw [HFa.out] at c23
      dsimp only at c23
      go_wp2_with fail
      refine c23.mono ?_
      rintro _ w23 ⟨rfl, f23⟩
      clear c23
      clear kT0 kT1
      replace VT := hideP (VT.out.fr f23)
      replace LP := hideP (LP.out.fr f23)
      replace HF := hideP (HF.out.trans f23)
      clear f23
      have kT0 := VT.out.b.cell 0 (u := .slice aT nT dT) rfl
      have kT1 := VT.out.b.cell 1 (u := .slice eT mT hT) rfl
      have c24 := range_ok a2 a3 VT.out.s C0.out
      rw [HR1.out, HNR.out] at c24
      go_wp2_with fail
      refine c24.mono ?_
      rintro _ w24 ⟨⟨aR, dR, rfl, oR⟩, f24⟩
      clear c24
      clear kT0 kT1
      replace VT := hideP (VT.out.fr f24)
      replace LP := hideP (LP.out.fr f24)
      replace HF := hideP (HF.out.trans f24)
      have LR := hideP oR
      clear oR f24
      have c25 := treeBegun_any w24
      go_wp2_with fail
      refine c25.mono ?_
      rintro _ w25 ⟨rfl, f25⟩
      clear c25
      replace VT := hideP (VT.out.fr f25)
      replace LP := hideP (LP.out.fr f25)
      replace LR := hideP (LR.out.fr f25)
      replace HF := hideP (HF.out.trans f25)
      clear f25
      have kT0 := VT.out.b.cell 0 (u := .slice aT nT dT) rfl
      have kT1 := VT.out.b.cell 1 (u := .slice eT mT hT) rfl
      have c26 := check_ok VT.out.s C0.out
      go_wp2_with fail
      refine c26.mono ?_
      rintro _ w26 ⟨rfl, f26⟩
      clear c26
      clear kT0 kT1
      replace VT := hideP (VT.out.fr f26)
      replace LP := hideP (LP.out.fr f26)
      replace LR := hideP (LR.out.fr f26)
      replace HF := hideP (HF.out.trans f26)
      clear f26
      have kT0 := VT.out.b.cell 0 (u := .slice aT nT dT) rfl
      have kT1 := VT.out.b.cell 1 (u := .slice eT mT hT) rfl
      have c27 := pairsOf_any _ (.slice eT mT hT) L0 w26 VT.out.s.l ⟨_, _, _, rfl⟩ hL (by rw [HNF.out]; exact ht)
      rw [HNF.out] at c27
      go_wp2_with fail
      refine c27.mono ?_
      rintro _ w27 ⟨_, rfl, oA, f27⟩
      clear c27
      clear kT0 kT1
      obtain ⟨aA, dA, rfl⟩ := own_slice oA
      replace VT := hideP (VT.out.fr f27)
      replace LP := hideP (LP.out.fr f27)
      replace LR := hideP (LR.out.fr f27)
      replace HF := hideP (HF.out.trans f27)
      have LA := hideP (show IsL cdPr w27 (.slice aA nF dA) L0.flatten from by have h0 := HNF.out; subst h0; exact isL_own oA)
      clear oA f27
      have c28 := foundOf_any _ L0.flatten a1 w27 LA.out (by rw [HNF.out]; omega)
      rw [HAt.out] at c28
      go_wp2_with fail
      refine c28.mono ?_
      rintro _ w28 ⟨rfl, f28⟩
      clear c28
      replace VT := hideP (VT.out.fr f28)
      replace LP := hideP (LP.out.fr f28)
      replace LR := hideP (LR.out.fr f28)
      replace LA := hideP (LA.out.fr f28)
      replace HF := hideP (HF.out.trans f28)
      clear f28
      have c29 := samePairs_eq _ _ L0.flatten w28 LP.out LA.out (by rw [HNF.out]; omega)
      go_wp2_with fail
      refine c29.mono ?_
      rintro _ w29 ⟨rfl, f29⟩
      clear c29
      replace VT := hideP (VT.out.fr f29)
      replace LP := hideP (LP.out.fr f29)
      replace LR := hideP (LR.out.fr f29)
      replace LA := hideP (LA.out.fr f29)
      replace HF := hideP (HF.out.trans f29)
      clear f29
      have c30 := rangeOf_any _ L0.flatten a2 a3 w29 LA.out (by rw [HNF.out]; exact ht) HKs.out b2 b3
      rw [HR1.out, HNR.out] at c30
      go_wp2_with fail
      refine c30.mono ?_
      rintro _ w30 ⟨_, rfl, oQ, f30⟩
      clear c30
      obtain ⟨aQ, dQ, rfl⟩ := own_slice oQ
      replace VT := hideP (VT.out.fr f30)
      replace LP := hideP (LP.out.fr f30)
      replace LR := hideP (LR.out.fr f30)
      replace LA := hideP (LA.out.fr f30)
      replace HF := hideP (HF.out.trans f30)
      have LQ := hideP (show IsL cdPr w30 (.slice aQ nR dQ) R1 from by have h0 := HNR.out; subst h0; exact isL_own oQ)
      clear oQ f30
      have c31 := samePairs_eq _ _ R1 w30 LR.out LQ.out (by rw [HNR.out]; omega)
      go_wp2_with fail
      refine c31.mono ?_
      rintro _ w31 ⟨rfl, f31⟩
      clear c31
      replace VT := hideP (VT.out.fr f31)
      replace LP := hideP (LP.out.fr f31)
      replace LR := hideP (LR.out.fr f31)
      replace LA := hideP (LA.out.fr f31)
      replace LQ := hideP (LQ.out.fr f31)
      replace HF := hideP (HF.out.trans f31)
      clear f31
      go_wp2_with fail
      go_ret
      exact ⟨rfl, HF.out⟩
    · obtain ⟨f1, f2, f3, f4⟩ := TK.chk_facts hc
      obtain ⟨R1, hR1⟩ : ∃ r, TK.rng a2 a3 L0.flatten = r := ⟨_, rfl⟩
      obtain ⟨nR, NR⟩ : ∃ n, R1.length = n := ⟨_, rfl⟩
      obtain ⟨at_, hat_⟩ : ∃ z, TK.fo a1 L0.flatten 0 = z := ⟨_, rfl⟩
      have hkk := fun p hp => f3 p hp
      have HKs := hideP (show ∀ x ∈ L0.flatten, x.k.size ≤ 140737488351232 from fun x hx => by have := f3 x hx; omega)
      have hrl : nR ≤ 1048576 := by
        have := List.length_filter_le (TK.btw a2 a3) L0.flatten
        have e : (L0.flatten.filter (TK.btw a2 a3)).length = nR := by rw [← NR, ← hR1]; rfl
        omega
      have h40' : ((40 : Int) < (a1.size : Int)) = False := by simp; omega
      have hfa : TK.findA a1 L0 U0 = ((L0.flatten[j].n, true), 0) := by rw [TK.find_get hc, if_neg h40, hg]; rfl
      rw [hat_, Nat.zero_add] at hf
      subst hf
      have hjF : j < nF := by rw [← HNF.out]; exact hj
      have hjF' : (j : Int) < (nF : Int) := by omega
      have hj0 : (0 : Int) ≤ (j : Int) := by omega
      obtain ⟨y, hy⟩ : ∃ y, L0.flatten[j] = y := ⟨_, rfl⟩
      have HY := hideP hy
      rw [hy] at hfa
      clear hy
      have HR1 := hideP hR1
      have HNR := hideP NR
      have HAt := hideP hat_
      have HFa := hideP hfa
      have C0 := hideP hc
      clear hc hR1 NR NT MT hR hS hU hUr f1 f2 f3 f4 hat_ hfa hkk h40 hg
      obtain ⟨yk, yn⟩ := y
      dsimp only at HFa
      go_enter Try.func3, Try.ntmps3
      have kT0 := VT.out.b.cell 0 (u := .slice aT nT dT) rfl
      have kT1 := VT.out.b.cell 1 (u := .slice eT mT hT) rfl
      have c21 := treeCheck_any _ _ L0 U0 (w.alloc (.cells #[.slice aT nT dT, .slice eT mT hT] 25)) VT.out.s hL HBt.out.r HBt.out.sc HBt.out.u HBt.out.ur
      rw [C0.out] at c21
      go_wp2_with fail
      refine c21.mono ?_
      rintro _ w21 ⟨rfl, f21⟩
      clear c21
      clear kT0 kT1
      replace VT := hideP (VT.out.fr f21)
      replace HF := hideP (HF.out.trans f21)
      clear f21
      have kT0 := VT.out.b.cell 0 (u := .slice aT nT dT) rfl
      have kT1 := VT.out.b.cell 1 (u := .slice eT mT hT) rfl
      have c22 := list_ok VT.out.s C0.out
      rw [HNF.out] at c22
      go_wp2_with fail
      refine c22.mono ?_
      rintro _ w22 ⟨⟨aP, dP, rfl, oP⟩, f22⟩
      clear c22
      clear kT0 kT1
      replace VT := hideP (VT.out.fr f22)
      replace HF := hideP (HF.out.trans f22)
      have LP := hideP oP
      clear oP f22
      have kT0 := VT.out.b.cell 0 (u := .slice aT nT dT) rfl
      have kT1 := VT.out.b.cell 1 (u := .slice eT mT hT) rfl
      have c23 := find_bt a1 VT.out.s HBt.out (by omega)
      rw [HFa.out] at c23
      dsimp only at c23
      go_wp2_with fail
      refine c23.mono ?_
      rintro _ w23 ⟨rfl, f23⟩
      clear c23
      clear kT0 kT1
      replace VT := hideP (VT.out.fr f23)
      replace LP := hideP (LP.out.fr f23)
      replace HF := hideP (HF.out.trans f23)
      clear f23
      have kT0 := VT.out.b.cell 0 (u := .slice aT nT dT) rfl
      have kT1 := VT.out.b.cell 1 (u := .slice eT mT hT) rfl
      have c24 := range_ok a2 a3 VT.out.s C0.out
      rw [HR1.out, HNR.out] at c24
      go_wp2_with fail
      refine c24.mono ?_
      rintro _ w24 ⟨⟨aR, dR, rfl, oR⟩, f24⟩
      clear c24
      clear kT0 kT1
      replace VT := hideP (VT.out.fr f24)
      replace LP := hideP (LP.out.fr f24)
      replace HF := hideP (HF.out.trans f24)
      have LR := hideP oR
      clear oR f24
      have c25 := treeBegun_any w24
      go_wp2_with fail
      refine c25.mono ?_
      rintro _ w25 ⟨rfl, f25⟩
      clear c25
      replace VT := hideP (VT.out.fr f25)
      replace LP := hideP (LP.out.fr f25)
      replace LR := hideP (LR.out.fr f25)
      replace HF := hideP (HF.out.trans f25)
      clear f25
      have kT0 := VT.out.b.cell 0 (u := .slice aT nT dT) rfl
      have kT1 := VT.out.b.cell 1 (u := .slice eT mT hT) rfl
      have c26 := check_ok VT.out.s C0.out
      go_wp2_with fail
      refine c26.mono ?_
      rintro _ w26 ⟨rfl, f26⟩
      clear c26
      clear kT0 kT1
      replace VT := hideP (VT.out.fr f26)
      replace LP := hideP (LP.out.fr f26)
      replace LR := hideP (LR.out.fr f26)
      replace HF := hideP (HF.out.trans f26)
      clear f26
      have kT0 := VT.out.b.cell 0 (u := .slice aT nT dT) rfl
      have kT1 := VT.out.b.cell 1 (u := .slice eT mT hT) rfl
      have c27 := pairsOf_any _ (.slice eT mT hT) L0 w26 VT.out.s.l ⟨_, _, _, rfl⟩ hL (by rw [HNF.out]; exact ht)
      rw [HNF.out] at c27
      go_wp2_with fail
      refine c27.mono ?_
      rintro _ w27 ⟨_, rfl, oA, f27⟩
      clear c27
      clear kT0 kT1
      obtain ⟨aA, dA, rfl⟩ := own_slice oA
      replace VT := hideP (VT.out.fr f27)
      replace LP := hideP (LP.out.fr f27)
      replace LR := hideP (LR.out.fr f27)
      replace HF := hideP (HF.out.trans f27)
      have LA := hideP (show IsL cdPr w27 (.slice aA nF dA) L0.flatten from by have h0 := HNF.out; subst h0; exact isL_own oA)
      clear oA f27
      have c28 := foundOf_any _ L0.flatten a1 w27 LA.out (by rw [HNF.out]; omega)
      rw [HAt.out] at c28
      go_wp2_with fail
      refine c28.mono ?_
      rintro _ w28 ⟨rfl, f28⟩
      clear c28
      replace VT := hideP (VT.out.fr f28)
      replace LP := hideP (LP.out.fr f28)
      replace LR := hideP (LR.out.fr f28)
      replace LA := hideP (LA.out.fr f28)
      replace HF := hideP (HF.out.trans f28)
      clear f28
      have hcy : w28.cell? ((⟨0, 0, none⟩ : Addr)) = w28.cell? ⟨0, 0, none⟩ := rfl
      obtain ⟨xa, xc, xe, _, xat⟩ := LA.out
      simp only [Value.slice.injEq] at xe
      obtain ⟨rfl, hxn, rfl⟩ := xe
      obtain ⟨gb, go, rfl, hgb, hatl⟩ : ∃ b o, aA = some ⟨b, o, none⟩ ∧ b < w28.heap.size ∧ At cdPr w28 b o L0.flatten := by
        rcases xat with h | h
        · exact absurd (congrArg List.length h) (by rw [HNF.out]; simp; omega)
        · exact h
      obtain ⟨d0, d1⟩ := hatl.p2 j hj
      rw [HY.out] at d0 d1
      simp only at d0 d1
      clear hcy xat hxn hatl hgb
      have c29 := samePairs_eq _ _ L0.flatten w28 LP.out LA.out (by rw [HNF.out]; omega)
      go_wp2_with fail
      refine c29.mono ?_
      rintro _ w29 ⟨rfl, f29⟩
      clear c29
      replace VT := hideP (VT.out.fr f29)
      replace LP := hideP (LP.out.fr f29)
      replace LR := hideP (LR.out.fr f29)
      replace LA := hideP (LA.out.fr f29)
      replace HF := hideP (HF.out.trans f29)
      clear f29
      have c30 := rangeOf_any _ L0.flatten a2 a3 w29 LA.out (by rw [HNF.out]; exact ht) HKs.out b2 b3
      rw [HR1.out, HNR.out] at c30
      go_wp2_with fail
      refine c30.mono ?_
      rintro _ w30 ⟨_, rfl, oQ, f30⟩
      clear c30
      obtain ⟨aQ, dQ, rfl⟩ := own_slice oQ
      replace VT := hideP (VT.out.fr f30)
      replace LP := hideP (LP.out.fr f30)
      replace LR := hideP (LR.out.fr f30)
      replace LA := hideP (LA.out.fr f30)
      replace HF := hideP (HF.out.trans f30)
      have LQ := hideP (show IsL cdPr w30 (.slice aQ nR dQ) R1 from by have h0 := HNR.out; subst h0; exact isL_own oQ)
      clear oQ f30
      have c31 := samePairs_eq _ _ R1 w30 LR.out LQ.out (by rw [HNR.out]; omega)
      go_wp2_with fail
      refine c31.mono ?_
      rintro _ w31 ⟨rfl, f31⟩
      clear c31
      replace VT := hideP (VT.out.fr f31)
      replace LP := hideP (LP.out.fr f31)
      replace LR := hideP (LR.out.fr f31)
      replace LA := hideP (LA.out.fr f31)
      replace LQ := hideP (LQ.out.fr f31)
      replace HF := hideP (HF.out.trans f31)
      clear f31
      go_wp2_with fail
      go_ret
      exact ⟨rfl, HF.out⟩
  · obtain ⟨z, hz⟩ : ∃ z, TK.chk L0 U0 = z := ⟨_, rfl⟩
    have g1 : ((z : Int) != 0) = true := by rw [← hz]; simp; omega
    have g2 : ¬ ((z : Int) = 0) := by rw [← hz]; omega
    have g3 : ((z : Int) == 0) = false := by rw [← hz]; simp; omega
    have hfa : TK.findA a1 L0 U0 = ((0, false), z) := by unfold TK.findA; rw [if_pos hc, hz]
    obtain ⟨at_, hat_⟩ : ∃ z, TK.fo a1 L0.flatten 0 = z := ⟨_, rfl⟩
    have HAt := hideP hat_
    have HFa := hideP hfa
    have HI := hideP hc
    have HZ := hideP hz
    clear hc hz NT MT hR hS hU hUr hat_ hfa
    go_enter Try.func3, Try.ntmps3
    have kT0 := VT.out.b.cell 0 (u := .slice aT nT dT) rfl
    have kT1 := VT.out.b.cell 1 (u := .slice eT mT hT) rfl
    have c21 := treeCheck_any _ _ L0 U0 (w.alloc (.cells #[.slice aT nT dT, .slice eT mT hT] 25)) VT.out.s hL HBt.out.r HBt.out.sc HBt.out.u HBt.out.ur
    rw [HZ.out] at c21
    go_wp2_with fail
    refine c21.mono ?_
    rintro _ w21 ⟨rfl, f21⟩
    clear c21
    clear kT0 kT1
    replace VT := hideP (VT.out.fr f21)
    replace HF := hideP (HF.out.trans f21)
    clear f21
    have kT0 := VT.out.b.cell 0 (u := .slice aT nT dT) rfl
    have kT1 := VT.out.b.cell 1 (u := .slice eT mT hT) rfl
    have c22 := list_err VT.out.s HBt.out HI.out
    rw [HZ.out] at c22
    go_wp2_with fail
    refine c22.mono ?_
    rintro _ w22 ⟨rfl, f22⟩
    clear c22
    clear kT0 kT1
    replace VT := hideP (VT.out.fr f22)
    replace HF := hideP (HF.out.trans f22)
    clear f22
    have kT0 := VT.out.b.cell 0 (u := .slice aT nT dT) rfl
    have kT1 := VT.out.b.cell 1 (u := .slice eT mT hT) rfl
    have c23 := find_bt a1 VT.out.s HBt.out (by omega)
    rw [HFa.out] at c23
    dsimp only at c23
    go_wp2_with fail
    refine c23.mono ?_
    rintro _ w23 ⟨rfl, f23⟩
    clear c23
    clear kT0 kT1
    replace VT := hideP (VT.out.fr f23)
    replace HF := hideP (HF.out.trans f23)
    clear f23
    have kT0 := VT.out.b.cell 0 (u := .slice aT nT dT) rfl
    have kT1 := VT.out.b.cell 1 (u := .slice eT mT hT) rfl
    have c24 := range_err a2 a3 VT.out.s HBt.out HI.out
    rw [HZ.out] at c24
    go_wp2_with fail
    refine c24.mono ?_
    rintro _ w24 ⟨rfl, f24⟩
    clear c24
    clear kT0 kT1
    replace VT := hideP (VT.out.fr f24)
    replace HF := hideP (HF.out.trans f24)
    clear f24
    have c25 := treeBegun_any w24
    go_wp2_with fail
    refine c25.mono ?_
    rintro _ w25 ⟨rfl, f25⟩
    clear c25
    replace VT := hideP (VT.out.fr f25)
    replace HF := hideP (HF.out.trans f25)
    clear f25
    have kT0 := VT.out.b.cell 0 (u := .slice aT nT dT) rfl
    have kT1 := VT.out.b.cell 1 (u := .slice eT mT hT) rfl
    have c26 := tcheck_any _ _ L0 U0 w25 VT.out.s hL HBt.out.r HBt.out.s HBt.out.u HBt.out.ur
    rw [HZ.out] at c26
    go_wp2_with fail
    refine c26.mono ?_
    rintro _ w26 ⟨rfl, f26⟩
    clear c26
    clear kT0 kT1
    replace VT := hideP (VT.out.fr f26)
    replace HF := hideP (HF.out.trans f26)
    clear f26
    have kT0 := VT.out.b.cell 0 (u := .slice aT nT dT) rfl
    have kT1 := VT.out.b.cell 1 (u := .slice eT mT hT) rfl
    have c27 := pairsOf_any _ (.slice eT mT hT) L0 w26 VT.out.s.l ⟨_, _, _, rfl⟩ hL (by rw [HNF.out]; exact ht)
    rw [HNF.out] at c27
    go_wp2_with fail
    refine c27.mono ?_
    rintro _ w27 ⟨_, rfl, oA, f27⟩
    clear c27
    clear kT0 kT1
    obtain ⟨aA, dA, rfl⟩ := own_slice oA
    replace VT := hideP (VT.out.fr f27)
    replace HF := hideP (HF.out.trans f27)
    have LA := hideP (show IsL cdPr w27 (.slice aA nF dA) L0.flatten from by have h0 := HNF.out; subst h0; exact isL_own oA)
    clear oA f27
    have c28 := foundOf_any _ L0.flatten a1 w27 LA.out (by rw [HNF.out]; omega)
    rw [HAt.out] at c28
    go_wp2_with fail
    refine c28.mono ?_
    rintro _ w28 ⟨rfl, f28⟩
    clear c28
    replace VT := hideP (VT.out.fr f28)
    replace LA := hideP (LA.out.fr f28)
    replace HF := hideP (HF.out.trans f28)
    clear f28
    go_wp2_with fail
    go_ret
    exact ⟨rfl, HF.out⟩


theorem contract (H : Type) (enc : TypeId × Value → H) (W : World) (base : Nat) (args : Array Value) (ds gs : List (DataW H)) (before : List MemPlace)
    (hval : ∀ (j : Nat) t v, Try.f3.params[j]? = some t → args[j]? = some v → Value.okWide Try.prog W .any base t v)
    (hW : DataW.Whole enc Try.prog Try.f3.params.toList Rows.treeTellsSpec.vars false W args.toList ds gs before) (hk : Rows.uptoSmall H (ds ++ gs) = true) :
    Calls Try.prog 3 args W fun e W' => ∃ v, e = .returned v ∧ Rows.treeTellsSpec.post enc Try.prog Try.f3 false true false false W args v W' := by
  have hW' := hW
  obtain ⟨p, q, hA0, hV, rfl, hfz, hnd⟩ := hW
  have hA : DataW.TrodAll enc Try.prog W 0 (fun _ => true) true Try.f3.params.toList args.toList ds p := hA0
  rw [Try.params3] at hA hval
  obtain ⟨v0, vs0, d0, ds0, p0, q0, hargs, rfl, rfl, h0, r0⟩ := trodAll_cons hA
  obtain ⟨v1, vs1, d1, ds1, p1, q1, rfl, rfl, rfl, h1, r1⟩ := trodAll_cons r0
  obtain ⟨v2, vs2, d2, ds2, p2, q2, rfl, rfl, rfl, h2, r2⟩ := trodAll_cons r1
  obtain ⟨v3, vs3, d3, ds3, p3, q3, rfl, rfl, rfl, h3, r3⟩ := trodAll_cons r2
  obtain ⟨rfl, rfl, rfl⟩ := trodAll_nil r3
  obtain rfl : args = #[v0, v1, v2, v3] := by cases args; simp_all
  obtain ⟨rfl, rfl⟩ := trodVars_none hV
  have hbulk : Rows.uptoBulkAll (H := H) [d0, d1, d2, d3] ≤ 1048576 := of_decide_eq_true hk
  simp only [Rows.uptoBulkAll] at hbulk
  obtain ⟨x0, y0, l0, u0, rfl, rw0, b0, m0⟩ := open_treeB (hval 0 25 v0 rfl rfl) h0 (by omega)
  have g1 : Rows.uptoBulk d1 ≤ 1048576 := by omega
  obtain ⟨a1, rfl, rfl, rfl, w1⟩ := open_string Try.underlying9 (hval 1 9 v1 rfl rfl) h1
  have b1 : a1.size ≤ 140737488351232 := by
    rw [Rows.uptoBulk] at g1
    have e : a1.data.toList.length = a1.size := by rw [Array.length_toList]; rfl
    omega
  clear g1
  have g2 : Rows.uptoBulk d2 ≤ 1048576 := by omega
  obtain ⟨a2, rfl, rfl, rfl, w2⟩ := open_string Try.underlying9 (hval 2 9 v2 rfl rfl) h2
  have b2 : a2.size ≤ 140737488351232 := by
    rw [Rows.uptoBulk] at g2
    have e : a2.data.toList.length = a2.size := by rw [Array.length_toList]; rfl
    omega
  clear g2
  have g3 : Rows.uptoBulk d3 ≤ 1048576 := by omega
  obtain ⟨a3, rfl, rfl, rfl, w3⟩ := open_string Try.underlying9 (hval 3 9 v3 rfl rfl) h3
  have b3 : a3.size ≤ 140737488351232 := by
    rw [Rows.uptoBulk] at g3
    have e : a3.data.toList.length = a3.size := by rw [Array.length_toList]; rfl
    omega
  clear g3
  clear hA0
  simp only [List.append_nil] at hW'
  refine (walk x0 y0 l0 u0 a1 a2 a3 W rw0 b0 m0 b1 b2 b3).mono fun e W' ⟨he, bel⟩ => ?_
  subst he
  exact ⟨_, rfl, _, _, _, [], _, [], hW', trodAll_mk1 (shut_bool Try.underlying4 _), (trodAll_cons_mk (shut_tree h0 bel) (trodAll_cons_mk (shut_string Try.underlying9 w1) (trodAll_cons_mk (shut_string Try.underlying9 w2) (trodAll_cons_mk (shut_string Try.underlying9 w3) trodAll_mk0)))), rfl, Below.frame bel _, fun h => by cases h⟩

set_option maxRecDepth 100000 in
theorem lifted (os : Go.Os) (started : os.Started) (H : Type) (enc : TypeId × Value → H) (F : Stop.Interp) :
    ReturnsInHanded {} Try.checked os 3 .any ((Rows.OpenSpec.upto Rows.treeTellsSpec).pre6 enc Try.prog Try.f3 Rows.treeTellsUptoRow.domain false) (((Rows.OpenSpec.upto Rows.treeTellsSpec).at F).post enc Try.prog Try.f3 false true false false) := by
  refine returnsInHanded_of_cond (C := Try.checked) (s := Rows.OpenSpec.upto Rows.treeTellsSpec) (k := Rows.uptoSmall) rfl own started (by kernel_rfl) Try.func3
    (OpenSpec.witness (enc := enc) (C := Try.checked) (s := Rows.OpenSpec.upto Rows.treeTellsSpec) (k := Rows.uptoSmall) rfl false ⟨#[], #[.agg #[.slice none 0 0, .slice none 0 0], .string ByteArray.empty, .string ByteArray.empty, .string ByteArray.empty], []⟩ 8 (by kernel_rfl) (by kernel_rfl) (by kernel_rfl)
      (x := ([.agg [.nil, .nil], .lit (.string []), .lit (.string []), .lit (.string [])], [], [])) (by kernel_rfl) rfl (by kernel_rfl)) ?_
  intro W base args ds gs before hval hW _ hk _
  exact contract H enc W base args ds gs before hval hW hk

theorem over : Rows.treeTellsUptoRow.holds Try.pinned (Rows.OpenSpec.upto Rows.treeTellsSpec) :=
  OpenClaim.holds_of_cond 3 Try.f3 rfl rfl rfl rfl rfl rfl rfl ⟨rfl, rfl, rfl, rfl, rfl⟩ rfl rfl rfl rfl rfl (by kernel_rfl) Try.func3 (by kernel_rfl)
    (of_decide_eq_true (by kernel_rfl)) (by unfold Func.isWrapper; first | (rw [if_pos (by decide +kernel)]; kernel_rfl) | (rw [if_neg (by decide +kernel)]; exact ⟨rfl, rfl⟩))
    (fun os started H enc _ F => lifted os started H enc F)

end Go.Proofs.Ytmemapfboefngaa.treeTellsProof
namespace Go.Proofs.Ytmemapfboefngaa
theorem treeTellsUpto_holds : Rows.TreeTellsUptoSaid := treeTellsProof.over
#print axioms treeTellsUpto_holds
end Go.Proofs.Ytmemapfboefngaa
