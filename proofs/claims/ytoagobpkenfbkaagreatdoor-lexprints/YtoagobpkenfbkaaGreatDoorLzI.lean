/-
  The document's own ShownOf of a number, and TokenCheck.
-/
import Derived.Test.YtoagobpkenfbkaaGreatDoorLzH
import Derived.Test.YtoagobpkenfbkaaGreatDoorLtA
namespace Go.Proofs.YtoagobpkenfbkaaGreatDoor
open Go.ChangeShapes Go.WideShapes Go.ChangeAt Go.RowKit Go.Shelf
set_option linter.unusedVariables false
set_option linter.unusedSimpArgs false
set_option maxRecDepth 100000

theorem shownOf_int (s : ByteArray) (n : Int) (w : World) (h0 : -9223372036854775808 ≤ n) (h1 : n ≤ 9223372036854775807) :
    Calls Tryz.prog 24 #[.agg #[.int .i64 1, .int .i64 n, .string s]] w fun e w' => e = .returned (.string ⟨(Lib.itoa n).toArray⟩) ∧ Fr w w' := by
  have hc := fun W => intText_any n W h0 h1
  go_enter Tryz.func24, Tryz.ntmps24
  go_wp2_with fail
  refine (hc _).mono ?_
  rintro _ w1 ⟨rfl, f1⟩
  have F1 : Hid _ := f1
  clear f1 hc
  go_wp2_with fail
  go_ret
  exact ⟨rfl, Fr.trans ((Fr.refl w).alloc _) F1.out⟩

theorem chk_word (l : List UInt8) : LX.chk ⟨1, 0, l⟩ = if LX.isWd l = true then (if 12 < l.length then 2 else 0) else 1 := by
  have e : LX.chk ⟨1, 0, l⟩ = LX.chkWord l := by
    unfold LX.chk
    rw [if_neg (by simp), if_neg (by simp), if_pos rfl]
  rw [e]
  unfold LX.chkWord LX.isWd
  cases l with
  | nil => rfl
  | cons b r => simp only [Bool.and_eq_true]
theorem chk_numb {n : Int} (h : ¬ n < 0) : LX.chk ⟨2, n, []⟩ = 0 := by
  unfold LX.chk
  rw [if_neg (by simp), if_neg (by simp), if_neg (by simp), if_pos rfl, if_neg h]
theorem chk_lit (k : Int) (l : List UInt8) (h : k = 3 ∨ k = 4) : LX.chk ⟨k, 0, l⟩ = if 16 < l.length then 2 else 0 := by
  rcases h with rfl | rfl <;>
  · unfold LX.chk
    rw [if_neg (by simp), if_neg (by simp), if_neg (by simp), if_neg (by simp), if_neg (by simp)]
theorem chk_sgn (l : List UInt8) : LX.chk ⟨5, 0, l⟩ = if l ∈ LX.signs then 0 else 1 := by
  unfold LX.chk
  rw [if_neg (by simp), if_neg (by simp), if_neg (by simp), if_neg (by simp), if_pos rfl]
theorem endV {a b : Nat} {c : Int} (h : a = b) (hc : (b : Int) = c) : Ending.returned (.int .i64 c) = .returned (.int .i64 (a : Int)) := by rw [h, hc]

set_option maxHeartbeats 4000000 in
theorem tokCheck_any (k p n : Int) (s : ByteArray) (w : World) (hs : s.size ≤ 9223372036854775807) (hn0 : -9223372036854775808 ≤ n) (hn1 : n ≤ 9223372036854775807) :
    Calls Tryz.prog 23 #[.agg #[.int .i64 k, .int .i64 p, .int .i64 n, .string s]] w fun e w' => e = .returned (.int .i64 (LX.chk ⟨k, n, s.data.toList⟩ : Int)) ∧ Fr w w' := by
  obtain ⟨W0, hW0⟩ : ∃ W0, w.alloc (.cells #[.int .i64 k, .int .i64 p, .int .i64 n, .string s] 29) = W0 := ⟨_, rfl⟩
  have f0 : Fr w W0 := by rw [← hW0]; exact (Fr.refl w).alloc _
  have hb0 : Bt W0 w.heap.size k p n s := by rw [← hW0]; exact Bt.new _ _ _ _ _
  have HB0 : Hid _ := hb0
  have d0 := hb0.c0
  have d2 := hb0.c2
  have d3 := hb0.c3
  have F0 : Hid _ := f0
  rw [← hW0] at d0 d2 d3
  have HW : Hid _ := hW0
  have hlen := ba_len s
  have HL : Hid _ := hlen
  clear hb0 f0 hW0 hlen
  have hw : k < 1 ∨ 5 < k ∨ k = 1 ∨ k = 2 ∨ k = 3 ∨ k = 4 ∨ k = 5 := by omega
  rcases hw with h | h | rfl | rfl | rfl | rfl | rfl
  · have HX : Hid _ := chk_kind (n := n) (l := s.data.toList) (Or.inl h)
    generalize LX.chk _ = V at *
    go_enter Tryz.func23, Tryz.ntmps23
    go_wp2_with fail
    first | rw [HW.out] | skip
    go_ret
    exact ⟨endV HX.out rfl, by first | exact F0.out | exact Fr.drew F0.out | exact Fr.drewN F0.out _⟩
  · have HX : Hid _ := chk_kind (n := n) (l := s.data.toList) (Or.inr h)
    generalize LX.chk _ = V at *
    have hg : (1 : Int) ≤ k := by omega
    have hg2 : (k < 1) = False := by simp; omega
    go_enter Tryz.func23, Tryz.ntmps23
    go_wp2_with fail
    first | rw [HW.out] | skip
    go_ret
    exact ⟨endV HX.out rfl, by first | exact F0.out | exact Fr.drew F0.out | exact Fr.drewN F0.out _⟩
  · by_cases hz : n = 0
    · subst hz
      have hX := chk_word s.data.toList
      rw [HL.out] at hX
      have c := isWord_any s W0 hs
      generalize LX.isWd s.data.toList = b at *
      generalize LX.chk _ = V at *
      have hE : ((s.toList != []) = false ∧ (s.toList == []) = true) ∨ ((s.toList != []) = true ∧ (s.toList == []) = false) := by
        by_cases h : s.toList = []
        · exact Or.inl ⟨by simp [h], by simp [h]⟩
        · exact Or.inr ⟨bne_iff_ne.2 h, beq_false_of_ne h⟩
      have hC : b = false ∨ (b = true ∧ 12 < s.size) ∨ (b = true ∧ s.size ≤ 12) := by
        cases b
        · exact Or.inl rfl
        · by_cases h : 12 < s.size
          · exact Or.inr (Or.inl ⟨rfl, h⟩)
          · exact Or.inr (Or.inr ⟨rfl, by omega⟩)
      rcases hE with ⟨y1, y2⟩ | ⟨y1, y2⟩
      all_goals
        go_enter Tryz.func23, Tryz.ntmps23
        go_wp2_with fail
        rw [HW.out]
        refine c.mono ?_
        rintro _ w1 ⟨rfl, f1⟩
        have F1 : Hid (Fr w w1) := Fr.trans F0.out f1
        have b1 : Bt w1 w.heap.size 1 p 0 s := Bt.fr HB0.out f1
        have q0 := b1.c0
        have q2 := b1.c2
        have q3 := b1.c3
        clear c f1 d0 d2 d3 b1
        rcases hC with rfl | ⟨rfl, hC⟩ | ⟨rfl, hC⟩
        · have HX : Hid (V = 1) := by unfold Hid; rw [hX]; rfl
          clear hX
          go_wp2_with fail
          go_ret
          exact ⟨endV HX.out rfl, F1.out⟩
        · have HX : Hid (V = 2) := by unfold Hid; rw [hX, if_pos rfl, if_pos hC]
          have g1 : (12 : Int) < (s.size : Int) := by omega
          clear hX
          go_wp2_with fail
          go_ret
          exact ⟨endV HX.out rfl, F1.out⟩
        · have HX : Hid (V = 0) := by unfold Hid; rw [hX, if_pos rfl, if_neg (by omega)]
          have g1 : (s.size : Int) ≤ 12 := by omega
          have g2 : (12 < (s.size : Int)) = False := by simp; omega
          clear hX
          go_wp2_with fail
          first
            | go_quiet (fail)
            | fail
          go_wp2_with fail
          go_ret
          exact ⟨endV HX.out rfl, by first | exact F1.out | exact Fr.drew F1.out | exact Fr.drewN F1.out _⟩
    · have HX : Hid _ := chk_num (k := 1) (n := n) (l := s.data.toList) (by decide) (Or.inl ⟨hz, by decide⟩)
      generalize LX.chk _ = V at *
      have z1 : (n != 0) = true := bne_iff_ne.2 hz
      go_enter Tryz.func23, Tryz.ntmps23
      go_wp2_with fail
      first | rw [HW.out] | skip
      go_ret
      exact ⟨endV HX.out rfl, by first | exact F0.out | exact Fr.drew F0.out | exact Fr.drewN F0.out _⟩
  · by_cases hz : s.data.toList = []
    · obtain rfl : s = ⟨#[]⟩ := by rw [← dl_eq s, hz]
      by_cases hneg : n < 0
      · have HX : Hid _ := sh_neg hneg
        rw [show (⟨#[]⟩ : ByteArray).data.toList = [] from rfl]
        generalize LX.chk _ = V at *
        have y1 : (n != 0) = true := bne_iff_ne.2 (by omega)
        have y3 : ¬ n = 0 := by omega
        clear hz
        go_enter Tryz.func23, Tryz.ntmps23
        go_wp2_with fail
        first | rw [HW.out] | skip
        go_ret
        exact ⟨endV HX.out rfl, by first | exact F0.out | exact Fr.drew F0.out | exact Fr.drewN F0.out _⟩
      · have HX : Hid _ := chk_numb hneg
        rw [show (⟨#[]⟩ : ByteArray).data.toList = [] from rfl]
        generalize LX.chk _ = V at *
        have z1 : (0 : Int) ≤ n := by omega
        have z2 : (n < 0) = False := by simp; omega
        clear hz hneg
        by_cases hN : n = 0
        · subst hN
          go_enter Tryz.func23, Tryz.ntmps23
          go_wp2_with fail
          first
            | go_quiet (fail)
            | fail
          go_wp2_with fail
          first | rw [HW.out] | skip
          go_ret
          exact ⟨endV HX.out rfl, by first | exact F0.out | exact Fr.drew F0.out | exact Fr.drewN F0.out _⟩
        · have y1 : (n != 0) = true := bne_iff_ne.2 hN
          have y2 : (n == 0) = false := beq_false_of_ne hN
          go_enter Tryz.func23, Tryz.ntmps23
          go_wp2_with fail
          first
            | go_quiet (fail)
            | fail
          go_wp2_with fail
          first | rw [HW.out] | skip
          go_ret
          exact ⟨endV HX.out rfl, by first | exact F0.out | exact Fr.drew F0.out | exact Fr.drewN F0.out _⟩
    · have HX : Hid _ := chk_num (k := 2) (n := n) (l := s.data.toList) (by decide) (Or.inr ⟨hz, rfl⟩)
      generalize LX.chk _ = V at *
      have z3 : ¬ s.toList = [] := by rw [Lib.toList_data]; exact hz
      have z1 : (s.toList != []) = true := bne_iff_ne.2 z3
      have z2 : (s.toList == []) = false := beq_false_of_ne z3
      clear hz
      by_cases hN : n = 0
      · subst hN
        go_enter Tryz.func23, Tryz.ntmps23
        go_wp2_with fail
        first | rw [HW.out] | skip
        go_ret
        exact ⟨endV HX.out rfl, by first | exact F0.out | exact Fr.drew F0.out | exact Fr.drewN F0.out _⟩
      · have y1 : (n != 0) = true := bne_iff_ne.2 hN
        have y2 : (n == 0) = false := beq_false_of_ne hN
        go_enter Tryz.func23, Tryz.ntmps23
        go_wp2_with fail
        first | rw [HW.out] | skip
        go_ret
        exact ⟨endV HX.out rfl, by first | exact F0.out | exact Fr.drew F0.out | exact Fr.drewN F0.out _⟩
  · by_cases hz : n = 0
    · subst hz
      have hX := chk_lit 3 s.data.toList (by decide)
      rw [HL.out] at hX
      generalize LX.chk _ = V at *
      by_cases hC : 16 < s.size
      · have HX : Hid (V = 2) := by unfold Hid; rw [hX, if_pos hC]
        have g1 : (16 : Int) < (s.size : Int) := by omega
        clear hX
        go_enter Tryz.func23, Tryz.ntmps23
        go_wp2_with fail
        first | rw [HW.out] | skip
        go_ret
        exact ⟨endV HX.out rfl, by first | exact F0.out | exact Fr.drew F0.out | exact Fr.drewN F0.out _⟩
      · have HX : Hid (V = 0) := by unfold Hid; rw [hX, if_neg hC]
        have g1 : (s.size : Int) ≤ 16 := by omega
        have g2 : (16 < (s.size : Int)) = False := by simp; omega
        clear hX
        go_enter Tryz.func23, Tryz.ntmps23
        go_wp2_with fail
        first
          | go_quiet (fail)
          | fail
        go_wp2_with fail
        first | rw [HW.out] | skip
        go_ret
        exact ⟨endV HX.out rfl, by first | exact F0.out | exact Fr.drew F0.out | exact Fr.drewN F0.out _⟩
    · have HX : Hid _ := chk_num (k := 3) (n := n) (l := s.data.toList) (by decide) (Or.inl ⟨hz, by decide⟩)
      generalize LX.chk _ = V at *
      have z1 : (n != 0) = true := bne_iff_ne.2 hz
      go_enter Tryz.func23, Tryz.ntmps23
      go_wp2_with fail
      first | rw [HW.out] | skip
      go_ret
      exact ⟨endV HX.out rfl, by first | exact F0.out | exact Fr.drew F0.out | exact Fr.drewN F0.out _⟩
  · by_cases hz : n = 0
    · subst hz
      have hX := chk_lit 4 s.data.toList (by decide)
      rw [HL.out] at hX
      generalize LX.chk _ = V at *
      by_cases hC : 16 < s.size
      · have HX : Hid (V = 2) := by unfold Hid; rw [hX, if_pos hC]
        have g1 : (16 : Int) < (s.size : Int) := by omega
        clear hX
        go_enter Tryz.func23, Tryz.ntmps23
        go_wp2_with fail
        first | rw [HW.out] | skip
        go_ret
        exact ⟨endV HX.out rfl, by first | exact F0.out | exact Fr.drew F0.out | exact Fr.drewN F0.out _⟩
      · have HX : Hid (V = 0) := by unfold Hid; rw [hX, if_neg hC]
        have g1 : (s.size : Int) ≤ 16 := by omega
        have g2 : (16 < (s.size : Int)) = False := by simp; omega
        clear hX
        go_enter Tryz.func23, Tryz.ntmps23
        go_wp2_with fail
        first
          | go_quiet (fail)
          | fail
        go_wp2_with fail
        first | rw [HW.out] | skip
        go_ret
        exact ⟨endV HX.out rfl, by first | exact F0.out | exact Fr.drew F0.out | exact Fr.drewN F0.out _⟩
    · have HX : Hid _ := chk_num (k := 4) (n := n) (l := s.data.toList) (by decide) (Or.inl ⟨hz, by decide⟩)
      generalize LX.chk _ = V at *
      have z1 : (n != 0) = true := bne_iff_ne.2 hz
      go_enter Tryz.func23, Tryz.ntmps23
      go_wp2_with fail
      first | rw [HW.out] | skip
      go_ret
      exact ⟨endV HX.out rfl, by first | exact F0.out | exact Fr.drew F0.out | exact Fr.drewN F0.out _⟩
  · by_cases hz : n = 0
    · subst hz
      have hX := chk_sgn s.data.toList
      by_cases hE : s.toList = []
      · have HX : Hid (LX.chk ⟨5, 0, s.data.toList⟩ = 1) := by unfold Hid; rw [hX, ← Lib.toList_data, hE]; rfl
        generalize LX.chk _ = V at *
        have y1 : (s.toList != []) = false := by simp [hE]
        have y2 : (s.toList == []) = true := by simp [hE]
        clear hX
        go_enter Tryz.func23, Tryz.ntmps23
        go_wp2_with fail
        first
          | go_quiet (fail)
          | fail
        go_wp2_with fail
        first | rw [HW.out] | skip
        go_ret
        exact ⟨endV HX.out rfl, by first | exact F0.out | exact Fr.drew F0.out | exact Fr.drewN F0.out _⟩
      · have hsg := LX.sgl_signs (l := s.data.toList) (by rw [← Lib.toList_data]; exact hE)
        rw [HL.out] at hsg
        have y1 : (s.toList != []) = true := bne_iff_ne.2 hE
        have y2 : (s.toList == []) = false := beq_false_of_ne hE
        have c := fun W => isSign_any s W (by omega)
        generalize LX.sgl s.data.toList = q at *
        by_cases hq : q = s.size
        · subst hq
          have HX : Hid (LX.chk ⟨5, 0, s.data.toList⟩ = 0) := by unfold Hid; rw [hX, if_pos (hsg.1 rfl)]
          clear hsg
          generalize LX.chk _ = V at *
          clear hX
          go_enter Tryz.func23, Tryz.ntmps23
          go_wp2_with fail
          rw [HW.out]
          have b0 := HB0.out
          have q0 := b0.c0
          have q3 := b0.c3
          first
            | go_region_with (go_at_call 47; refine (c _).mono ?_; rintro _ w2 ⟨rfl, f2⟩; have r3 := s1_after f2 q3; have HF : Hid (Fr w w2) := by first | exact Fr.trans F0.out f2 | exact Fr.trans (Fr.drew F0.out) f2)
            | fail
          all_goals
            go_wp2_with fail
            go_ret
            exact ⟨endV HX.out rfl, by first | exact HF.out | exact Fr.drew HF.out⟩
        · have HX : Hid (LX.chk ⟨5, 0, s.data.toList⟩ = 1) := by unfold Hid; rw [hX, if_neg (fun h => hq (hsg.2 h))]
          have g1 : ((q : Int) != (s.size : Int)) = true := bne_iff_ne.2 (by omega)
          have g2 : ¬ ((q : Int) = (s.size : Int)) := by omega
          have g3 : ((q : Int) == (s.size : Int)) = false := beq_false_of_ne (by omega)
          clear hsg hq
          generalize LX.chk _ = V at *
          clear hX
          go_enter Tryz.func23, Tryz.ntmps23
          go_wp2_with fail
          rw [HW.out]
          have b0 := HB0.out
          have q0 := b0.c0
          have q3 := b0.c3
          first
            | go_region_with (go_at_call 47; refine (c _).mono ?_; rintro _ w2 ⟨rfl, f2⟩; have r3 := s1_after f2 q3; have HF : Hid (Fr w w2) := by first | exact Fr.trans F0.out f2 | exact Fr.trans (Fr.drew F0.out) f2)
            | fail
          all_goals
            go_wp2_with fail
            go_ret
            exact ⟨endV HX.out rfl, by first | exact HF.out | exact Fr.drew HF.out⟩
    · have HX : Hid _ := chk_num (k := 5) (n := n) (l := s.data.toList) (by decide) (Or.inl ⟨hz, by decide⟩)
      generalize LX.chk _ = V at *
      have z1 : (n != 0) = true := bne_iff_ne.2 hz
      go_enter Tryz.func23, Tryz.ntmps23
      go_wp2_with fail
      first | rw [HW.out] | skip
      go_ret
      exact ⟨endV HX.out rfl, by first | exact F0.out | exact Fr.drew F0.out | exact Fr.drewN F0.out _⟩
end Go.Proofs.YtoagobpkenfbkaaGreatDoor
