/-
  The examples that the statements on trees hold first are met.
-/
import Derived.Test.YtmemapfboefngaaGtL
namespace Go.Proofs.Ytmemapfboefngaa
open Go.ChangeShapes Go.WideShapes Go.ChangeAt Go.RowKit
set_option linter.unusedVariables false
set_option linter.unusedSimpArgs false
set_option maxRecDepth 100000
set_option maxHeartbeats 8000000
def bgS : Array Value := #[.string ⟨#[98]⟩, .string ⟨#[100]⟩, .string ⟨#[97]⟩, .string ⟨#[101]⟩, .string ⟨#[99]⟩]
theorem bgS_at : ∀ i, i < 5 → bgS[i]? = some (.string (TK.bk i)) := by
  intro i hi
  rcases (show i = 0 ∨ i = 1 ∨ i = 2 ∨ i = 3 ∨ i = 4 by omega) with rfl | rfl | rfl | rfl | rfl <;> rfl
theorem bg_byte : ∀ i, i < 5 → ∀ h : 0 < (TK.bk i).size, IntKind.i64.wrap (((TK.bk i)[0]'h).toNat : Int) = TK.bn i := by
  intro i hi
  rcases (show i = 0 ∨ i = 1 ∨ i = 2 ∨ i = 3 ∨ i = 4 by omega) with rfl | rfl | rfl | rfl | rfl <;> (intro h; rfl)
theorem lit_many {α : Type} (E : Cd α) (W : World) (l : List α) (T : TypeId) : IsL E (W.alloc (.cells (flat E l).toArray T)) (.slice (some ⟨W.heap.size, 0, none⟩) l.length l.length) l := by
  refine ⟨_, _, rfl, Nat.le_refl _, .inr ⟨_, 0, rfl, (Blk.new W _ T).lt, ?_⟩⟩
  intro j u hu
  rw [Nat.zero_add]
  exact (Blk.new W _ T).cell j (by rw [List.getElem?_toArray]; exact hu)
structure TV (W : World) (b : Nat) (p q : Value) (L : List (List TK.Pr)) (U : List (List Int)) : Prop where
  b : Blk W b #[p, q] 25
  s : IsT W p q L U
theorem TV.fr {W W' : World} {b : Nat} {p q : Value} {L : List (List TK.Pr)} {U : List (List Int)} (h : TV W b p q L U) (f : Fr W W') : TV W' b p q L U := ⟨h.b.fr f, h.s.fr f⟩
theorem TV.new {W : World} {p q : Value} {L : List (List TK.Pr)} {U : List (List Int)} (h : IsT W p q L U) : TV (W.alloc (.cells #[p, q] 25)) W.heap.size p q L U := ⟨Blk.new _ _ _, h.fr ((Fr.refl _).alloc _)⟩
theorem find_ok {p q : Value} {L : List (List TK.Pr)} {U : List (List Int)} (key : ByteArray) {w : World} (h : IsT w p q L U) (hc : TK.chk L U = 0) (hk : key.size ≤ 9223372036854775806) :
    Calls Try.prog 15 #[.agg #[p, q], .string key] w fun e w' => e = .returned (.tuple #[.int .i64 (TK.findA key L U).1.1, .bool (TK.findA key L U).1.2, .int .i64 (((TK.findA key L U).2 : Nat) : Int)]) ∧ Fr w w' := by
  obtain ⟨s1, s2, s3, s4, s5⟩ := TK.small_of hc
  exact find_any p q L U key w h s1 s2 s3 s4 s5 hk
/-- the literal that is wanted -/
theorem want_is (W1 W2 : World) (f : Fr (W1.alloc (.cells #[.string ⟨#[97]⟩, .int .i64 97, .string ⟨#[98]⟩, .int .i64 98] 38)) W2) :
    IsT ((((W2.alloc (.cells #[.string ⟨#[99]⟩, .int .i64 99, .string ⟨#[100]⟩, .int .i64 100, .string ⟨#[101]⟩, .int .i64 101] 38)).alloc (.cells #[.slice (some ⟨W1.heap.size, 0, none⟩) 2 2, .slice (some ⟨W2.heap.size, 0, none⟩) 3 3] 28)).alloc (.cells #[.int .i64 2] 3)).alloc (.cells #[.slice (some ⟨W2.heap.size + 1 + 1, 0, none⟩) 1 1] 53))
      (.slice (some ⟨W2.heap.size + 1, 0, none⟩) 2 2) (.slice (some ⟨W2.heap.size + 1 + 1 + 1, 0, none⟩) 1 1) TK.L5 [[2]] := by
  have h1 := lit_many cdPr W1 [⟨⟨#[97]⟩, 97⟩, ⟨⟨#[98]⟩, 98⟩] 38
  have h2 := lit_many cdPr W2 [⟨⟨#[99]⟩, 99⟩, ⟨⟨#[100]⟩, 100⟩, ⟨⟨#[101]⟩, 101⟩] 38
  have h1' := h1.fr f
  generalize hA : W2.alloc (.cells #[.string ⟨#[99]⟩, .int .i64 99, .string ⟨#[100]⟩, .int .i64 100, .string ⟨#[101]⟩, .int .i64 101] 38) = A
  have fA : Fr W2 A := by rw [← hA]; exact (Fr.refl _).alloc _
  have sA : A.heap.size = W2.heap.size + 1 := by rw [← hA]; exact World.size_alloc _ _
  have h2' : IsL cdPr A (.slice (some ⟨W2.heap.size, 0, none⟩) 3 3) [⟨⟨#[99]⟩, 99⟩, ⟨⟨#[100]⟩, 100⟩, ⟨⟨#[101]⟩, 101⟩] := by rw [← hA]; exact h2
  have h3 := lit_many cdS A [⟨some ⟨W1.heap.size, 0, none⟩, 2, 2⟩, ⟨some ⟨W2.heap.size, 0, none⟩, 3, 3⟩] 28
  generalize hB : A.alloc (.cells #[.slice (some ⟨W1.heap.size, 0, none⟩) 2 2, .slice (some ⟨W2.heap.size, 0, none⟩) 3 3] 28) = B
  have fB : Fr A B := by rw [← hB]; exact (Fr.refl _).alloc _
  have sB : B.heap.size = W2.heap.size + 1 + 1 := by rw [← hB, World.size_alloc, sA]
  have h3' : IsL cdS B (.slice (some ⟨A.heap.size, 0, none⟩) 2 2) [⟨some ⟨W1.heap.size, 0, none⟩, 2, 2⟩, ⟨some ⟨W2.heap.size, 0, none⟩, 3, 3⟩] := by rw [← hB]; exact h3
  have h4 := lit_many cdZ B [2] 3
  generalize hC : B.alloc (.cells #[.int .i64 2] 3) = C
  have fC : Fr B C := by rw [← hC]; exact (Fr.refl _).alloc _
  have sC : C.heap.size = W2.heap.size + 1 + 1 + 1 := by rw [← hC, World.size_alloc, sB]
  have h4' : IsL cdZ C (.slice (some ⟨B.heap.size, 0, none⟩) 1 1) [2] := by rw [← hC]; exact h4
  have h5 := lit_many cdS C [⟨some ⟨B.heap.size, 0, none⟩, 1, 1⟩] 53
  rw [sA] at h3'
  rw [sB] at h4' h5
  rw [sC] at h5
  have fD : Fr C (C.alloc (.cells #[.slice (some ⟨W2.heap.size + 1 + 1, 0, none⟩) 1 1] 53)) := (Fr.refl _).alloc _
  refine ⟨⟨_, h3'.fr (fC.trans fD), rfl, fun i a b => ?_⟩, ⟨_, h5, rfl, fun i a b => ?_⟩⟩
  · rcases (show i = 0 ∨ i = 1 by simp at a; omega) with rfl | rfl
    · exact h1'.fr (fA.trans (fB.trans (fC.trans fD)))
    · exact h2'.fr (fB.trans (fC.trans fD))
  · obtain rfl : i = 0 := by simp at a; omega
    exact h4'.fr fD
theorem ins_bg (i : Nat) (hi : i < 5) {p q : Value} {w : World} (n : Int) (hn : n = TK.bn i) (h : IsT w p q (TK.bs i).1 ((TK.bs i).2.map nI)) :
    Calls Try.prog 23 #[.agg #[p, q], .string (TK.bk i), .int .i64 n] w fun e w' => (∃ pa pn pc qa qn qc, e = .returned (.tuple #[.agg #[.slice pa pn pc, .slice qa qn qc], .int .i64 0]) ∧ Ow w.heap.size w' (.slice pa pn pc) (.slice qa qn qc) (TK.bs (i + 1)).1 (TK.bs (i + 1)).2) ∧ Fr w w' := by
  subst hn
  refine (insert_ok (TK.bk i) (TK.bn i) h (TK.bs_ins i hi)).mono ?_
  rintro e w' ⟨⟨pa, pc, qa, qc, h1, h2⟩, f⟩
  exact ⟨⟨pa, _, pc, qa, _, qc, h1, h2⟩, f⟩
theorem treeBegun_any (w : World) : Calls Try.prog 17 #[] w fun e w' => e = .returned (.bool true) ∧ Fr w w' := by
  obtain ⟨W0, hW0⟩ : ∃ W0, (w.alloc (.cells #[.slice none 0 0, .slice none 0 0] 25)).alloc (.cells #[.string ⟨#[98]⟩, .string ⟨#[100]⟩, .string ⟨#[97]⟩, .string ⟨#[101]⟩, .string ⟨#[99]⟩] 9) = W0 := ⟨_, rfl⟩
  have f0 : Fr w W0 := by rw [← hW0]; exact ((Fr.refl w).alloc _).alloc _
  have b0 : Blk W0 w.heap.size #[.slice none 0 0, .slice none 0 0] 25 := by rw [← hW0]; exact (Blk.new w _ _).old _
  have b1 : Blk W0 (w.heap.size + 1) bgS 9 := by
    have := Blk.new (w.alloc (.cells #[.slice none 0 0, .slice none 0 0] 25)) bgS 9
    rw [World.size_alloc] at this
    rw [← hW0]; exact this
  have HF0 := hideP f0
  have HB0 := hideP b0
  have HB1 := hideP b1
  clear f0 b0 b1
  go_enter Try.func17, Try.ntmps17
  go_wp2_with fail
  go_loopw [2, 4, 19] (fun ev kv iv wr => ∃ (i : Nat) (pa : Option Addr) (pn pc : Nat) (qa : Option Addr) (qn qc : Nat), iv = .int .i64 i ∧ i ≤ 5 ∧ ev = .int .i64 0 ∧ Blk wr w.heap.size #[.slice pa pn pc, .slice qa qn qc] 25 ∧ Blk wr (w.heap.size + 1) bgS 9 ∧ IsT wr (.slice pa pn pc) (.slice qa qn qc) (TK.bs i).1 ((TK.bs i).2.map nI) ∧ Fr w wr) (fun _ _ iv _ => 5 - (intOf iv).toNat)
  case atStart => exact ⟨0, none, 0, 0, none, 0, 0, rfl, by decide, rfl, HB0.out, HB1.out, ⟨⟨[], isL_nil cdS _, rfl, fun i h => by simp at h⟩, ⟨[], isL_nil cdS _, rfl, fun i h => by simp at h⟩⟩, HF0.out⟩
  case round =>
    obtain ⟨i, pa, pn, pc, qa, qn, qc, rfl, hi, rfl, hb, hs, ht, hfr⟩ := hrel
    by_cases hlt : i < 5
    · have hlt' : (i : Int) < 5 := by omega
      have x0 := hb.cell 0 (u := .slice pa pn pc) rfl
      have x1 := hb.cell 1 (u := .slice qa qn qc) rfl
      have k0 := hs.cell i (bgS_at i hlt)
      have hsz := TK.bk_size i
      have hby := hideP (bg_byte i hlt)
      have HC := hideP (fun (n : Int) (hn : n = TK.bn i) W (f : Fr wr W) => ins_bg i hlt n hn (ht.fr f))
      have HB := hideP hb
      have HS := hideP hs
      have HF := hideP hfr
      clear hb hs ht hfr
      generalize TK.bk i = key at *
      generalize TK.bn i = nn at *
      generalize hnx : TK.bs (i + 1) = nx at *
      have HNx := hideP hnx
      clear hnx
      have hz : Fr wr wr.drew := Fr.drew (Fr.refl wr)
      go_wp2_with fail
      go_region_with (first
        | (go_at_call 23; refine (HC.out _ (by exact hby.out _) _ hz).mono ?_; rintro _ w4 ⟨⟨pa4, pn4, pc4, qa4, qn4, qc4, rfl, ho4⟩, f4⟩; have f9 := hz.trans f4; have e0 := (HB.out.fr f9).cell 0 (u := .slice pa pn pc) rfl; have e1 := (HB.out.fr f9).cell 1 (u := .slice qa qn qc) rfl; have e2 := (HB.out.fr f9).frozen 0; have e3 := (HB.out.fr f9).frozen 1))
      all_goals (
        have HB4 := hideP (HB.out.fr f9)
        have HS4 := hideP ((((HS.out.fr f9).other (b' := w.heap.size) (by omega) 0 (.slice pa4 pn4 pc4)).other (b' := w.heap.size) (by omega) 1 (.slice qa4 qn4 qc4)))
        have hO := ((ho4.set (i := 0) (u := .slice pa4 pn4 pc4) HB4.out).set (i := 1) (u := .slice qa4 qn4 qc4) (HB4.out.set 0 (.slice pa4 pn4 pc4)))
        have HO := hideP hO.isT
        have HB5 := hideP ((HB4.out.set 0 (.slice pa4 pn4 pc4)).set 1 (.slice qa4 qn4 qc4))
        have HF5 := hideP (Fr.setCell (Fr.setCell (HF.out.trans f9) w.heap.size 0 (.slice pa4 pn4 pc4) (Nat.le_refl _)) w.heap.size 1 (.slice qa4 qn4 qc4) (Nat.le_refl _))
        clear f9 f4 ho4 hO e0 e1 e2 e3 hz x0 x1 k0
        go_wp2_with fail
        go_roundw
        case rel => exact ⟨i + 1, pa4, pn4, pc4, qa4, qn4, qc4, by go_num, by omega, rfl, HB5.out, HS4.out, by rw [HNx.out]; exact HO.out, HF5.out⟩
        case measure => simp [intOf]; omega)
    · obtain rfl : i = 5 := by omega
      rw [TK.bs_5] at ht
      obtain ⟨pa', pc', e1⟩ := ht.l.slice
      obtain ⟨qa', qc', e2⟩ := ht.u.slice
      cases e1
      cases e2
      have VT := hideP (show TV wr w.heap.size _ _ TK.L5 [[2]] from ⟨hb, ht⟩)
      have HF := hideP hfr
      clear hb hs ht hfr
      go_wp2_with fail
      refine (pair_any ⟨#[97]⟩ 97 _).mono ?_
      rintro _ w23 ⟨rfl, f23⟩
      have F23 := hideP f23
      clear f23
      go_wp2_with fail
      refine (pair_any ⟨#[98]⟩ 98 _).mono ?_
      rintro _ w24 ⟨rfl, f24⟩
      have F24 := hideP ((F23.out.trans f24).alloc (.cells #[.string ⟨#[97]⟩, .int .i64 97, .string ⟨#[98]⟩, .int .i64 98] 38))
      clear f24
      go_wp2_with fail
      refine (pair_any ⟨#[99]⟩ 99 _).mono ?_
      rintro _ w25 ⟨rfl, f25⟩
      have F25 := hideP f25
      clear f25
      go_wp2_with fail
      refine (pair_any ⟨#[100]⟩ 100 _).mono ?_
      rintro _ w26 ⟨rfl, f26⟩
      have F26 := hideP (F25.out.trans f26)
      clear f26
      go_wp2_with fail
      refine (pair_any ⟨#[101]⟩ 101 _).mono ?_
      rintro _ w27 ⟨rfl, f27⟩
      have F27 := hideP (F26.out.trans f27)
      clear f27
      have hW0 := TV.new (want_is w24 w27 F27.out)
      simp only [World.size_alloc] at hW0
      have HW := hideP hW0
      clear hW0
      have FW : Fr wr (((((w27.alloc (.cells #[.string ⟨#[99]⟩, .int .i64 99, .string ⟨#[100]⟩, .int .i64 100, .string ⟨#[101]⟩, .int .i64 101] 38)).alloc (.cells #[.slice (some ⟨w24.heap.size, 0, none⟩) 2 2, .slice (some ⟨w27.heap.size, 0, none⟩) 3 3] 28)).alloc (.cells #[.int .i64 2] 3)).alloc (.cells #[.slice (some ⟨w27.heap.size + 1 + 1, 0, none⟩) 1 1] 53)).alloc (.cells #[.slice (some ⟨w27.heap.size + 1, 0, none⟩) 2 2, .slice (some ⟨w27.heap.size + 1 + 1 + 1, 0, none⟩) 1 1] 25)) := ((((F24.out.trans F27.out).alloc _).alloc _).alloc _).alloc _ |>.alloc _
      replace VT := hideP (VT.out.fr FW)
      replace HF := hideP (HF.out.trans FW)
      obtain ⟨WW, hWW⟩ : ∃ WW, (((((w27.alloc (.cells #[.string ⟨#[99]⟩, .int .i64 99, .string ⟨#[100]⟩, .int .i64 100, .string ⟨#[101]⟩, .int .i64 101] 38)).alloc (.cells #[.slice (some ⟨w24.heap.size, 0, none⟩) 2 2, .slice (some ⟨w27.heap.size, 0, none⟩) 3 3] 28)).alloc (.cells #[.int .i64 2] 3)).alloc (.cells #[.slice (some ⟨w27.heap.size + 1 + 1, 0, none⟩) 1 1] 53)).alloc (.cells #[.slice (some ⟨w27.heap.size + 1, 0, none⟩) 2 2, .slice (some ⟨w27.heap.size + 1 + 1 + 1, 0, none⟩) 1 1] 25)) = WW := ⟨_, rfl⟩
      have VW := HW
      clear HW FW F23 F24 F25 F26 F27
      rw [hWW] at VT VW HF
      have kT0 := VT.out.b.cell 0 (u := .slice pa 2 pc) rfl
      have kT1 := VT.out.b.cell 1 (u := .slice qa 1 qc) rfl
      have c28 := find_ok ⟨#[100]⟩ VT.out.s TK.b5_chk (by decide)
      rw [TK.b5_find] at c28
      dsimp only at c28
      go_wp2_with fail
      refine c28.mono ?_
      rintro _ w28 ⟨rfl, f28⟩
      clear c28
      clear kT0 kT1
      replace VT := hideP (VT.out.fr f28)
      replace VW := hideP (VW.out.fr f28)
      replace HF := hideP (HF.out.trans f28)
      clear f28 hWW
      have kT0 := VT.out.b.cell 0 (u := .slice pa 2 pc) rfl
      have kT1 := VT.out.b.cell 1 (u := .slice qa 1 qc) rfl
      have c29 := delete_ok (U := [[2]]) ⟨#[97]⟩ VT.out.s TK.b5_del
      rw [TK.b6_is] at c29
      dsimp only at c29
      rw [show TK.L6.length = 2 from rfl, show ([[2]] : List (List Nat)).length = 1 from rfl] at c29
      go_wp2_with fail
      refine c29.mono ?_
      rintro _ w29 ⟨⟨aU, dU, eU, hU, rfl, oU⟩, f29⟩
      clear c29
      clear kT0 kT1
      have NV := TV.new oU.isT
      have g29 : Fr w28 (w29.alloc (.cells #[.slice aU 2 dU, .slice eU 1 hU] 25)) := f29.alloc _
      replace VT := hideP (VT.out.fr g29)
      replace VW := hideP (VW.out.fr g29)
      replace HF := hideP (HF.out.trans g29)
      have VU : Hid (TV (w29.alloc (.cells #[.slice aU 2 dU, .slice eU 1 hU] 25)) _ (.slice aU 2 dU) (.slice eU 1 hU) _ _) := hideP NV
      clear NV g29 f29 oU
      have kU0 := VU.out.b.cell 0 (u := .slice aU 2 dU) rfl
      have kU1 := VU.out.b.cell 1 (u := .slice eU 1 hU) rfl
      have c30 := delete_ok (U := [[2]]) ⟨#[98]⟩ VU.out.s TK.b6_del
      rw [TK.b7_is] at c30
      dsimp only at c30
      rw [show TK.L7.length = 1 from rfl, show ([] : List (List Nat)).length = 0 from rfl] at c30
      go_wp2_with fail
      refine c30.mono ?_
      rintro _ w30 ⟨⟨aV, dV, eV, hV, rfl, oV⟩, f30⟩
      clear c30
      clear kU0 kU1
      have NV := TV.new oV.isT
      have g30 : Fr (w29.alloc (.cells #[.slice aU 2 dU, .slice eU 1 hU] 25)) (w30.alloc (.cells #[.slice aV 1 dV, .slice eV 0 hV] 25)) := f30.alloc _
      replace VT := hideP (VT.out.fr g30)
      replace VW := hideP (VW.out.fr g30)
      replace VU := hideP (VU.out.fr g30)
      replace HF := hideP (HF.out.trans g30)
      have VV : Hid (TV (w30.alloc (.cells #[.slice aV 1 dV, .slice eV 0 hV] 25)) _ (.slice aV 1 dV) (.slice eV 0 hV) _ _) := hideP NV
      clear NV g30 f30 oV
      have kT0 := VT.out.b.cell 0 (u := .slice pa 2 pc) rfl
      have kT1 := VT.out.b.cell 1 (u := .slice qa 1 qc) rfl
      have c31 := range_ok ⟨#[98]⟩ ⟨#[100]⟩ VT.out.s TK.b5_chk
      rw [TK.b5_rng] at c31
      go_wp2_with fail
      refine c31.mono ?_
      rintro _ w31 ⟨⟨aR, cR, rfl, _⟩, f31⟩
      clear c31
      clear kT0 kT1
      replace VT := hideP (VT.out.fr f31)
      replace VW := hideP (VW.out.fr f31)
      replace VU := hideP (VU.out.fr f31)
      replace VV := hideP (VV.out.fr f31)
      replace HF := hideP (HF.out.trans f31)
      clear f31
      have kV0 := VV.out.b.cell 0 (u := .slice aV 1 dV) rfl
      have kV1 := VV.out.b.cell 1 (u := .slice eV 0 hV) rfl
      have c32 := list_ok (U := []) VV.out.s TK.b7_chk
      rw [show TK.L7.flatten.length = 3 from rfl] at c32
      go_wp2_with fail
      refine c32.mono ?_
      rintro _ w32 ⟨⟨aL, cL, rfl, _⟩, f32⟩
      clear c32
      clear kV0 kV1
      replace VT := hideP (VT.out.fr f32)
      replace VW := hideP (VW.out.fr f32)
      replace VU := hideP (VU.out.fr f32)
      replace VV := hideP (VV.out.fr f32)
      replace HF := hideP (HF.out.trans f32)
      clear f32
      obtain ⟨qs, hq, hn2, hn3, ha, har⟩ := VU.out.s.l.at
      have hq2 : 0 < qs.length := by rw [hq]; decide
      obtain ⟨bb, oo, rfl, hbb, c0⟩ := ha 0 hq2
      have c1 := (har 0 hq2 (by decide)).2
      obtain ⟨x, hx⟩ : ∃ x, qs[0] = x := ⟨_, rfl⟩
      rw [hx] at c0 c1
      obtain ⟨xa, xn, xc⟩ := x
      obtain rfl : xn = 2 := c1
      simp only [Nat.add_zero] at c0
      have HC0 := hideP c0
      have hS := fun W (f : Fr w32 W) => sameTree_eq _ _ _ _ _ _ W (VT.out.s.fr f) (VW.out.s.fr f) (by decide) (by decide) (by decide) (by decide)
      have HSm := hideP hS
      clear ha har hq c0 hx hS hq2 hn2 hn3
      have kT0 := VT.out.b.cell 0 (u := .slice pa 2 pc) rfl
      have kT1 := VT.out.b.cell 1 (u := .slice qa 1 qc) rfl
      have kW0 := VW.out.b.cell 0 (u := .slice (some ⟨w27.heap.size + 1, 0, none⟩) 2 2) rfl
      have kW1 := VW.out.b.cell 1 (u := .slice (some ⟨w27.heap.size + 1 + 1 + 1, 0, none⟩) 1 1) rfl
      go_wp2_with fail
      refine (HSm.out _ (Fr.refl _)).mono ?_
      rintro _ w33 ⟨rfl, f33⟩
      clear kT0 kT1 kW0 kW1
      have c0 := (Below.cell f33 (World.block_lt_of_cell? _ _ HC0.out)).trans HC0.out
      replace VT := hideP (VT.out.fr f33)
      replace VW := hideP (VW.out.fr f33)
      replace VU := hideP (VU.out.fr f33)
      replace VV := hideP (VV.out.fr f33)
      replace HF := hideP (HF.out.trans f33)
      have kU0 := VU.out.b.cell 0 (u := .slice (some ⟨bb, oo, none⟩) 2 dU) rfl
      have kU1 := VU.out.b.cell 1 (u := .slice eU 1 hU) rfl
      have kV0 := VV.out.b.cell 0 (u := .slice aV 1 dV) rfl
      have kV1 := VV.out.b.cell 1 (u := .slice eV 0 hV) rfl
      go_wp2_with fail
      go_ret
      exact ⟨rfl, HF.out⟩
end Go.Proofs.Ytmemapfboefngaa
