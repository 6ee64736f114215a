/-
  shown: one token.
-/
import Derived.Test.YtoagobpkenfbkaaGreatDoorLyA
namespace Go.Proofs.YtoagobpkenfbkaaGreatDoor
open Go.ChangeShapes Go.WideShapes Go.ChangeAt Go.RowKit Go.Shelf
set_option linter.unusedVariables false
set_option linter.unusedSimpArgs false

/-- a token that is told, or nothing with its error -/
def tsh (t : LX.Tk) : List UInt8 := if LX.chk t = 0 then LX.shw t else []
def shV (t : LX.Tk) : Value := .tuple #[.string ⟨(tsh t).toArray⟩, .int .i64 (LX.chk t)]
theorem shV_bad {t : LX.Tk} {c : Nat} (h : LX.chk t = c) (hc : c ≠ 0) : shV t = .tuple #[.string ⟨#[]⟩, .int .i64 c] := by
  unfold shV tsh
  rw [h, if_neg hc]
theorem chk_kind {k n : Int} {l : List UInt8} (h : k < 1 ∨ 5 < k) : LX.chk ⟨k, n, l⟩ = 7 := if_pos h
theorem chk_num {k n : Int} {l : List UInt8} (h1 : ¬ (k < 1 ∨ 5 < k)) (h : (n ≠ 0 ∧ k ≠ 2) ∨ (l ≠ [] ∧ k = 2)) : LX.chk ⟨k, n, l⟩ = 1 := by
  unfold LX.chk
  rw [if_neg h1, if_pos h]
theorem sh_word (s : ByteArray) : shV ⟨1, 0, s.data.toList⟩ = twE s (LX.chkWord s.data.toList) := by
  have e : LX.chk ⟨1, 0, s.data.toList⟩ = LX.chkWord s.data.toList := by
    unfold LX.chk
    rw [if_neg (by simp), if_neg (by simp), if_pos rfl]
  unfold shV tsh twE
  rw [e]
  by_cases h : LX.chkWord s.data.toList = 0
  · rw [if_pos h, if_pos h]
    rfl
  · rw [if_neg h, if_neg h]
theorem sh_sign (s : ByteArray) : shV ⟨5, 0, s.data.toList⟩ = twE s (chkSign s.data.toList) := by
  have e : LX.chk ⟨5, 0, s.data.toList⟩ = chkSign s.data.toList := by
    unfold LX.chk
    rw [if_neg (by simp), if_neg (by simp), if_neg (by simp), if_neg (by simp), if_pos rfl]
    rfl
  unfold shV tsh twE
  rw [e]
  by_cases h : chkSign s.data.toList = 0
  · rw [if_pos h, if_pos h]
    rfl
  · rw [if_neg h, if_neg h]
theorem sh_neg {n : Int} (h : n < 0) : LX.chk ⟨2, n, []⟩ = 3 := by
  unfold LX.chk
  rw [if_neg (by simp), if_neg (by simp), if_neg (by simp), if_pos rfl, if_pos h]
theorem sh_numb {n : Int} (h : ¬ n < 0) : shV ⟨2, n, []⟩ = .tuple #[.string ⟨(shn ⟨1, n, ⟨#[]⟩⟩).toArray⟩, .int .i64 (VM.chk ⟨1, n, ⟨#[]⟩⟩)] := by
  have e : LX.chk ⟨2, n, []⟩ = 0 := by
    unfold LX.chk
    rw [if_neg (by simp), if_neg (by simp), if_neg (by simp), if_pos rfl, if_neg h]
  have e2 : VM.chk ⟨1, n, ⟨#[]⟩⟩ = 0 := by
    have hz : (⟨#[]⟩ : ByteArray).size = 0 := rfl
    unfold VM.chk
    simp only [hz]
    simp
  unfold shV tsh shn
  rw [e, e2]
  rfl
theorem chk34 (k j : Int) (s : ByteArray) (h : (k = 3 ∧ j = 2) ∨ (k = 4 ∧ j = 3)) : LX.chk ⟨k, 0, s.data.toList⟩ = VM.chk ⟨j, 0, s⟩ := by
  rcases h with ⟨rfl, rfl⟩ | ⟨rfl, rfl⟩ <;>
  · unfold LX.chk VM.chk
    simp only [dl_size]
    simp
theorem sh_lit (k j : Int) (s : ByteArray) (h : (k = 3 ∧ j = 2) ∨ (k = 4 ∧ j = 3)) : shV ⟨k, 0, s.data.toList⟩ = .tuple #[.string ⟨(shn ⟨j, 0, s⟩).toArray⟩, .int .i64 (VM.chk ⟨j, 0, s⟩)] := by
  have e := chk34 k j s h
  unfold shV tsh shn
  rw [e]
  have e3 : LX.shw ⟨k, 0, s.data.toList⟩ = VS.shw j 0 s.data.toList := by
    rcases h with ⟨rfl, rfl⟩ | ⟨rfl, rfl⟩ <;> rfl
  rw [e3]

set_option maxRecDepth 100000 in
set_option maxHeartbeats 4000000 in
theorem shown_any (k p n : Int) (s : ByteArray) (w : World) (hs : s.size ≤ 9223372036854775807) (hn0 : -9223372036854775808 ≤ n) (hn1 : n ≤ 9223372036854775807) (hT : Tb w) :
    Calls Tryz.prog 21 #[.agg #[.int .i64 k, .int .i64 p, .int .i64 n, .string s]] w fun e w' => e = .returned (shV ⟨k, n, s.data.toList⟩) ∧ Fr w w' := by
  obtain ⟨W0, hW0⟩ : ∃ W0, w.alloc (.cells #[.int .i64 k, .int .i64 p, .int .i64 n, .string s] 29) = W0 := ⟨_, rfl⟩
  have f0 : Fr w W0 := by rw [← hW0]; exact (Fr.refl w).alloc _
  have hb0 : Bt W0 w.heap.size k p n s := by rw [← hW0]; exact Bt.new _ _ _ _ _
  have hT0 := hT.fr f0
  have d0 := hb0.c0
  have d2 := hb0.c2
  have d3 := hb0.c3
  have F0 : Hid _ := f0
  rw [← hW0] at d0 d2 d3
  have HW : Hid _ := hW0
  clear hb0 f0 hW0 hT
  have hw : k < 1 ∨ 5 < k ∨ k = 1 ∨ k = 2 ∨ k = 3 ∨ k = 4 ∨ k = 5 := by omega
  rcases hw with h | h | rfl | rfl | rfl | rfl | rfl
  · have HX : Hid _ := shV_bad (chk_kind (n := n) (l := s.data.toList) (Or.inl h)) (by decide)
    generalize shV _ = V at *
    clear hT0
    go_enter Tryz.func21, Tryz.ntmps21
    go_wp2_with fail
    rw [HW.out]
    go_ret2
    exact ⟨by rw [HX.out]; rfl, F0.out⟩
  · have HX : Hid _ := shV_bad (chk_kind (n := n) (l := s.data.toList) (Or.inr h)) (by decide)
    generalize shV _ = V at *
    have hg : (1 : Int) ≤ k := by omega
    have hg2 : (k < 1) = False := by simp; omega
    clear hT0
    go_enter Tryz.func21, Tryz.ntmps21
    go_wp2_with fail
    rw [HW.out]
    go_ret2
    exact ⟨by rw [HX.out]; rfl, F0.out⟩
  · by_cases hz : n = 0
    · subst hz
      have HX : Hid _ := sh_word s
      have c := shownWord_any s W0 hs
      generalize LX.chkWord s.data.toList = q at *
      unfold twE at c HX
      generalize (if q = 0 then s else ⟨#[]⟩ : ByteArray) = S at *
      generalize shV _ = V at *
      clear hT0
      by_cases hE : s.toList = []
      · have y1 : (s.toList != []) = false := by simp [hE]
        have y2 : (s.toList == []) = true := by simp [hE]
        go_enter Tryz.func21, Tryz.ntmps21
        go_wp2_with fail
        rw [HW.out]
        refine c.mono ?_
        rintro _ w1 ⟨rfl, f1⟩
        have F1 : Hid (Fr w w1) := Fr.trans F0.out f1
        clear c f1
        go_wp2_with fail
        go_ret2
        exact ⟨by rw [HX.out]; rfl, F1.out⟩
      · have y1 : (s.toList != []) = true := bne_iff_ne.2 hE
        have y2 : (s.toList == []) = false := beq_false_of_ne hE
        go_enter Tryz.func21, Tryz.ntmps21
        go_wp2_with fail
        rw [HW.out]
        refine c.mono ?_
        rintro _ w1 ⟨rfl, f1⟩
        have F1 : Hid (Fr w w1) := Fr.trans F0.out f1
        clear c f1
        go_wp2_with fail
        go_ret2
        exact ⟨by rw [HX.out]; rfl, F1.out⟩
    · have HX : Hid _ := shV_bad (chk_num (k := 1) (n := n) (l := s.data.toList) (by decide) (Or.inl ⟨hz, by decide⟩)) (by decide)
      generalize shV _ = V at *
      have z1 : (n != 0) = true := bne_iff_ne.2 hz
      clear hT0
      go_enter Tryz.func21, Tryz.ntmps21
      go_wp2_with fail
      rw [HW.out]
      go_ret2
      exact ⟨by rw [HX.out]; rfl, F0.out⟩
  · by_cases hz : s.data.toList = []
    · obtain rfl : s = ⟨#[]⟩ := by rw [← dl_eq s, hz]
      by_cases hneg : n < 0
      · have HX : Hid _ := shV_bad (sh_neg hneg) (by decide)
        rw [show (⟨#[]⟩ : ByteArray).data.toList = [] from rfl]
        generalize shV _ = V at *
        have y1 : (n != 0) = true := bne_iff_ne.2 (by omega)
        have y3 : ¬ n = 0 := by omega
        clear hT0 hz
        go_enter Tryz.func21, Tryz.ntmps21
        go_wp2_with fail
        rw [HW.out]
        go_ret2
        exact ⟨by rw [HX.out]; rfl, F0.out⟩
      · have HX : Hid _ := sh_numb hneg
        rw [show (⟨#[]⟩ : ByteArray).data.toList = [] from rfl]
        have c := show_any ⟨1, n, ⟨#[]⟩⟩ hn0 hn1 W0 hT0
        generalize VM.chk ⟨1, n, ⟨#[]⟩⟩ = q at *
        generalize (⟨(shn ⟨1, n, ⟨#[]⟩⟩).toArray⟩ : ByteArray) = S at *
        unfold VM.Vl.val at c
        simp only at c
        generalize shV _ = V at *
        have z1 : (0 : Int) ≤ n := by omega
        have z2 : (n < 0) = False := by simp; omega
        clear hT0 hz hneg
        by_cases hN : n = 0
        · subst hN
          go_enter Tryz.func21, Tryz.ntmps21
          go_wp2_with fail
          rw [HW.out]
          refine c.mono ?_
          rintro _ w1 ⟨rfl, f1⟩
          have F1 : Hid (Fr w w1) := Fr.trans F0.out f1
          clear c f1
          go_wp2_with fail
          go_ret2
          exact ⟨by rw [HX.out]; rfl, F1.out⟩
        · have y1 : (n != 0) = true := bne_iff_ne.2 hN
          have y2 : (n == 0) = false := beq_false_of_ne hN
          go_enter Tryz.func21, Tryz.ntmps21
          go_wp2_with fail
          rw [HW.out]
          refine c.mono ?_
          rintro _ w1 ⟨rfl, f1⟩
          have F1 : Hid (Fr w w1) := Fr.trans F0.out f1
          clear c f1
          go_wp2_with fail
          go_ret2
          exact ⟨by rw [HX.out]; rfl, F1.out⟩
    · have HX : Hid _ := shV_bad (chk_num (k := 2) (n := n) (l := s.data.toList) (by decide) (Or.inr ⟨hz, rfl⟩)) (by decide)
      generalize shV _ = V at *
      have z3 : ¬ s.toList = [] := by rw [Lib.toList_data]; exact hz
      have z1 : (s.toList != []) = true := bne_iff_ne.2 z3
      have z2 : (s.toList == []) = false := beq_false_of_ne z3
      clear hT0 hz
      by_cases hN : n = 0
      · subst hN
        go_enter Tryz.func21, Tryz.ntmps21
        go_wp2_with fail
        rw [HW.out]
        go_ret2
        exact ⟨by rw [HX.out]; rfl, F0.out⟩
      · have y1 : (n != 0) = true := bne_iff_ne.2 hN
        have y2 : (n == 0) = false := beq_false_of_ne hN
        go_enter Tryz.func21, Tryz.ntmps21
        go_wp2_with fail
        rw [HW.out]
        go_ret2
        exact ⟨by rw [HX.out]; rfl, F0.out⟩
  · by_cases hz : n = 0
    · subst hz
      have HX : Hid _ := sh_lit 3 2 s (by decide)
      have c := show_any ⟨2, 0, s⟩ (by simp) (by simp) W0 hT0
      generalize VM.chk ⟨2, 0, s⟩ = q at *
      generalize (⟨(shn ⟨2, 0, s⟩).toArray⟩ : ByteArray) = S at *
      unfold VM.Vl.val at c
      simp only at c
      generalize shV _ = V at *
      clear hT0
      by_cases hE : s.toList = []
      · have y1 : (s.toList != []) = false := by simp [hE]
        have y2 : (s.toList == []) = true := by simp [hE]
        go_enter Tryz.func21, Tryz.ntmps21
        go_wp2_with fail
        rw [HW.out]
        refine c.mono ?_
        rintro _ w1 ⟨rfl, f1⟩
        have F1 : Hid (Fr w w1) := Fr.trans F0.out f1
        clear c f1
        go_wp2_with fail
        go_ret2
        exact ⟨by rw [HX.out]; rfl, F1.out⟩
      · have y1 : (s.toList != []) = true := bne_iff_ne.2 hE
        have y2 : (s.toList == []) = false := beq_false_of_ne hE
        go_enter Tryz.func21, Tryz.ntmps21
        go_wp2_with fail
        rw [HW.out]
        refine c.mono ?_
        rintro _ w1 ⟨rfl, f1⟩
        have F1 : Hid (Fr w w1) := Fr.trans F0.out f1
        clear c f1
        go_wp2_with fail
        go_ret2
        exact ⟨by rw [HX.out]; rfl, F1.out⟩
    · have HX : Hid _ := shV_bad (chk_num (k := 3) (n := n) (l := s.data.toList) (by decide) (Or.inl ⟨hz, by decide⟩)) (by decide)
      generalize shV _ = V at *
      have z1 : (n != 0) = true := bne_iff_ne.2 hz
      clear hT0
      go_enter Tryz.func21, Tryz.ntmps21
      go_wp2_with fail
      rw [HW.out]
      go_ret2
      exact ⟨by rw [HX.out]; rfl, F0.out⟩
  · by_cases hz : n = 0
    · subst hz
      have HX : Hid _ := sh_lit 4 3 s (by decide)
      have c := show_any ⟨3, 0, s⟩ (by simp) (by simp) W0 hT0
      generalize VM.chk ⟨3, 0, s⟩ = q at *
      generalize (⟨(shn ⟨3, 0, s⟩).toArray⟩ : ByteArray) = S at *
      unfold VM.Vl.val at c
      simp only at c
      generalize shV _ = V at *
      clear hT0
      by_cases hE : s.toList = []
      · have y1 : (s.toList != []) = false := by simp [hE]
        have y2 : (s.toList == []) = true := by simp [hE]
        go_enter Tryz.func21, Tryz.ntmps21
        go_wp2_with fail
        rw [HW.out]
        refine c.mono ?_
        rintro _ w1 ⟨rfl, f1⟩
        have F1 : Hid (Fr w w1) := Fr.trans F0.out f1
        clear c f1
        go_wp2_with fail
        go_ret2
        exact ⟨by rw [HX.out]; rfl, F1.out⟩
      · have y1 : (s.toList != []) = true := bne_iff_ne.2 hE
        have y2 : (s.toList == []) = false := beq_false_of_ne hE
        go_enter Tryz.func21, Tryz.ntmps21
        go_wp2_with fail
        rw [HW.out]
        refine c.mono ?_
        rintro _ w1 ⟨rfl, f1⟩
        have F1 : Hid (Fr w w1) := Fr.trans F0.out f1
        clear c f1
        go_wp2_with fail
        go_ret2
        exact ⟨by rw [HX.out]; rfl, F1.out⟩
    · have HX : Hid _ := shV_bad (chk_num (k := 4) (n := n) (l := s.data.toList) (by decide) (Or.inl ⟨hz, by decide⟩)) (by decide)
      generalize shV _ = V at *
      have z1 : (n != 0) = true := bne_iff_ne.2 hz
      clear hT0
      go_enter Tryz.func21, Tryz.ntmps21
      go_wp2_with fail
      rw [HW.out]
      go_ret2
      exact ⟨by rw [HX.out]; rfl, F0.out⟩
  · by_cases hz : n = 0
    · subst hz
      have HX : Hid _ := sh_sign s
      have c := shownSign_any s W0 hs hT0
      generalize chkSign s.data.toList = q at *
      unfold twE at c HX
      generalize (if q = 0 then s else ⟨#[]⟩ : ByteArray) = S at *
      generalize shV _ = V at *
      clear hT0
      by_cases hE : s.toList = []
      · have y1 : (s.toList != []) = false := by simp [hE]
        have y2 : (s.toList == []) = true := by simp [hE]
        go_enter Tryz.func21, Tryz.ntmps21
        go_wp2_with fail
        rw [HW.out]
        refine c.mono ?_
        rintro _ w1 ⟨rfl, f1⟩
        have F1 : Hid (Fr w w1) := Fr.trans F0.out f1
        clear c f1
        go_wp2_with fail
        go_ret2
        exact ⟨by rw [HX.out]; rfl, F1.out⟩
      · have y1 : (s.toList != []) = true := bne_iff_ne.2 hE
        have y2 : (s.toList == []) = false := beq_false_of_ne hE
        go_enter Tryz.func21, Tryz.ntmps21
        go_wp2_with fail
        rw [HW.out]
        refine c.mono ?_
        rintro _ w1 ⟨rfl, f1⟩
        have F1 : Hid (Fr w w1) := Fr.trans F0.out f1
        clear c f1
        go_wp2_with fail
        go_ret2
        exact ⟨by rw [HX.out]; rfl, F1.out⟩
    · have HX : Hid _ := shV_bad (chk_num (k := 5) (n := n) (l := s.data.toList) (by decide) (Or.inl ⟨hz, by decide⟩)) (by decide)
      generalize shV _ = V at *
      have z1 : (n != 0) = true := bne_iff_ne.2 hz
      clear hT0
      go_enter Tryz.func21, Tryz.ntmps21
      go_wp2_with fail
      rw [HW.out]
      go_ret2
      exact ⟨by rw [HX.out]; rfl, F0.out⟩
end Go.Proofs.YtoagobpkenfbkaaGreatDoor
