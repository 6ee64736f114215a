/-
  What the lexer's tests of a byte answer, and run: how many bytes a text begins by that are wanted.
-/
import Derived.Test.YtoagobpkenfbkaaGreatDoorLxF
import Derived.Test.YtoagobpkenfbkaaGreatDoorBase
namespace Go.Proofs.YtoagobpkenfbkaaGreatDoor
open Go.ChangeShapes Go.WideShapes Go.ChangeAt Go.RowKit
set_option linter.unusedVariables false
set_option linter.unusedSimpArgs false
set_option maxRecDepth 100000

theorem isDigit_any (b : UInt8) (w : World) : Calls Tryz.prog 37 #[.int .u8 (b.toNat : Int)] w fun e w' => e = .returned (.bool (VS.dig b)) ∧ w' = w := by
  obtain ⟨q, hq⟩ : ∃ q, VS.dig b = q := ⟨_, rfl⟩
  rw [hq]
  have hw : b.toNat < 48 ∨ (48 ≤ b.toNat ∧ b.toNat ≤ 57) ∨ (48 ≤ b.toNat ∧ 57 < b.toNat) := by omega
  rcases hw with h | ⟨h1, h2⟩ | ⟨h1, h2⟩
  · have HE : Hid (q = false) := by unfold Hid; rw [← hq]; exact LX.not_true (fun h' => by have := LX.dig_iff.1 h'; omega)
    have a1 : (b.toNat : Int) < 48 := by omega
    have a7 : decide ((48 : Int) ≤ (b.toNat : Int)) = false := by rw [decide_eq_false_iff_not]; omega
    have a8 : ((48 : Int) ≤ (b.toNat : Int)) = False := by simp; omega
    clear hq
    go_enter Tryz.func37, Tryz.ntmps37
    go_wp2_with fail
    go_ret
    exact ⟨by rw [HE.out]; rfl, by first | rfl | trivial⟩
  · have HE : Hid (q = true) := by unfold Hid; rw [← hq]; exact LX.dig_iff.2 ⟨h1, h2⟩
    have a1 : (48 : Int) ≤ (b.toNat : Int) := by omega
    have a2 : (b.toNat : Int) ≤ 57 := by omega
    clear hq
    go_enter Tryz.func37, Tryz.ntmps37
    go_wp2_with fail
    go_ret
    exact ⟨by rw [HE.out]; rfl, by first | rfl | trivial⟩
  · have HE : Hid (q = false) := by unfold Hid; rw [← hq]; exact LX.not_true (fun h' => by have := LX.dig_iff.1 h'; omega)
    have a1 : (48 : Int) ≤ (b.toNat : Int) := by omega
    have a2 : (57 : Int) < (b.toNat : Int) := by omega
    have a5 : decide ((b.toNat : Int) ≤ 57) = false := by rw [decide_eq_false_iff_not]; omega
    have a6 : ((b.toNat : Int) ≤ 57) = False := by simp; omega
    clear hq
    go_enter Tryz.func37, Tryz.ntmps37
    go_wp2_with fail
    go_ret
    exact ⟨by rw [HE.out]; rfl, by first | rfl | trivial⟩
theorem isSmall_any (b : UInt8) (w : World) : Calls Tryz.prog 61 #[.int .u8 (b.toNat : Int)] w fun e w' => e = .returned (.bool (LX.small b)) ∧ w' = w := by
  obtain ⟨q, hq⟩ : ∃ q, LX.small b = q := ⟨_, rfl⟩
  rw [hq]
  have hw : (97 ≤ b.toNat ∧ b.toNat ≤ 122) ∨ (97 ≤ b.toNat ∧ 122 < b.toNat) ∨ b.toNat = 95 ∨ (b.toNat < 97 ∧ b.toNat ≠ 95) := by omega
  rcases hw with ⟨h1, h2⟩ | ⟨h1, h2⟩ | h1 | ⟨h1, h2⟩
  · have HE : Hid (q = true) := by unfold Hid; rw [← hq]; exact LX.small_iff.2 (by omega)
    have a1 : (97 : Int) ≤ (b.toNat : Int) := by omega
    have a2 : (b.toNat : Int) ≤ 122 := by omega
    clear hq
    go_enter Tryz.func61, Tryz.ntmps61
    go_wp2_with fail
    go_ret
    exact ⟨by rw [HE.out]; rfl, by first | rfl | trivial⟩
  · have HE : Hid (q = false) := by unfold Hid; rw [← hq]; exact LX.not_true (fun h' => by have := LX.small_iff.1 h'; omega)
    have a1 : (97 : Int) ≤ (b.toNat : Int) := by omega
    have a2 : (122 : Int) < (b.toNat : Int) := by omega
    have a5 : decide ((b.toNat : Int) ≤ 122) = false := by rw [decide_eq_false_iff_not]; omega
    have a6 : ((b.toNat : Int) ≤ 122) = False := by simp; omega
    have a3 : ((b.toNat : Int) == 95) = false := by rw [beq_eq_false_iff_ne]; omega
    have a4 : ¬ (b.toNat : Int) = 95 := by omega
    clear hq
    go_enter Tryz.func61, Tryz.ntmps61
    go_wp2_with fail
    go_ret
    exact ⟨by rw [HE.out]; rfl, by first | rfl | trivial⟩
  · have HE : Hid (q = true) := by unfold Hid; rw [← hq]; exact LX.small_iff.2 (by omega)
    have a3 : (b.toNat : Int) = 95 := by omega
    clear hq
    go_enter Tryz.func61, Tryz.ntmps61
    go_wp2_with fail
    go_ret
    exact ⟨by rw [HE.out]; rfl, by first | rfl | trivial⟩
  · have HE : Hid (q = false) := by unfold Hid; rw [← hq]; exact LX.not_true (fun h' => by have := LX.small_iff.1 h'; omega)
    have a1 : (b.toNat : Int) < 97 := by omega
    have a7 : decide ((97 : Int) ≤ (b.toNat : Int)) = false := by rw [decide_eq_false_iff_not]; omega
    have a8 : ((97 : Int) ≤ (b.toNat : Int)) = False := by simp; omega
    have a3 : ((b.toNat : Int) == 95) = false := by rw [beq_eq_false_iff_ne]; omega
    have a4 : ¬ (b.toNat : Int) = 95 := by omega
    clear hq
    go_enter Tryz.func61, Tryz.ntmps61
    go_wp2_with fail
    go_ret
    exact ⟨by rw [HE.out]; rfl, by first | rfl | trivial⟩
theorem isLetter_any (b : UInt8) (w : World) : Calls Tryz.prog 35 #[.int .u8 (b.toNat : Int)] w fun e w' => e = .returned (.bool (LX.letter b)) ∧ w' = w := by
  have hs := fun W => isSmall_any b W
  obtain ⟨q, hq⟩ : ∃ q, LX.letter b = q := ⟨_, rfl⟩
  rw [hq]
  cases hb : LX.small b with
  | true =>
    have HE : Hid (q = true) := by unfold Hid LX.letter at *; rw [← hq, hb]; rfl
    rw [hb] at hs
    clear hq hb
    go_enter Tryz.func35, Tryz.ntmps35
    go_wp2_with fail
    refine (hs _).mono ?_
    rintro _ w1 ⟨rfl, rfl⟩
    go_wp2_with fail
    go_ret
    exact ⟨by rw [HE.out]; rfl, by first | rfl | trivial⟩
  | false =>
    have hg : q = LX.great b := by unfold LX.letter at hq; rw [← hq, hb]; rfl
    rw [hb] at hs
    have hw : b.toNat < 65 ∨ (65 ≤ b.toNat ∧ b.toNat ≤ 90) ∨ (65 ≤ b.toNat ∧ 90 < b.toNat) := by omega
    clear hq hb
    rcases hw with h | ⟨h1, h2⟩ | ⟨h1, h2⟩
    · have HE : Hid (q = false) := by unfold Hid; rw [hg]; exact LX.not_true (fun h' => by have := LX.great_iff.1 h'; omega)
      have a1 : (b.toNat : Int) < 65 := by omega
      have a7 : decide ((65 : Int) ≤ (b.toNat : Int)) = false := by rw [decide_eq_false_iff_not]; omega
      have a8 : ((65 : Int) ≤ (b.toNat : Int)) = False := by simp; omega
      clear hg
      go_enter Tryz.func35, Tryz.ntmps35
      go_wp2_with fail
      refine (hs _).mono ?_
      rintro _ w1 ⟨rfl, rfl⟩
      go_wp2_with fail
      go_ret
      exact ⟨by rw [HE.out]; rfl, by first | rfl | trivial⟩
    · have HE : Hid (q = true) := by unfold Hid; rw [hg]; exact LX.great_iff.2 ⟨h1, h2⟩
      have a1 : (65 : Int) ≤ (b.toNat : Int) := by omega
      have a2 : (b.toNat : Int) ≤ 90 := by omega
      clear hg
      go_enter Tryz.func35, Tryz.ntmps35
      go_wp2_with fail
      refine (hs _).mono ?_
      rintro _ w1 ⟨rfl, rfl⟩
      go_wp2_with fail
      go_ret
      exact ⟨by rw [HE.out]; rfl, by first | rfl | trivial⟩
    · have HE : Hid (q = false) := by unfold Hid; rw [hg]; exact LX.not_true (fun h' => by have := LX.great_iff.1 h'; omega)
      have a1 : (65 : Int) ≤ (b.toNat : Int) := by omega
      have a2 : (90 : Int) < (b.toNat : Int) := by omega
      have a5 : decide ((b.toNat : Int) ≤ 90) = false := by rw [decide_eq_false_iff_not]; omega
      have a6 : ((b.toNat : Int) ≤ 90) = False := by simp; omega
      clear hg
      go_enter Tryz.func35, Tryz.ntmps35
      go_wp2_with fail
      refine (hs _).mono ?_
      rintro _ w1 ⟨rfl, rfl⟩
      go_wp2_with fail
      go_ret
      exact ⟨by rw [HE.out]; rfl, by first | rfl | trivial⟩

theorem wordClo_any (b : UInt8) (w : World) : Calls Tryz.prog 62 #[.int .u8 (b.toNat : Int)] w fun e w' => e = .returned (.bool (LX.letter b || VS.dig b)) ∧ w' = w := by
  have h1 := fun W => isLetter_any b W
  have h2 := fun W => isDigit_any b W
  generalize LX.letter b = p at *
  generalize VS.dig b = q at *
  cases p
  · go_enter Tryz.func62, Tryz.ntmps62
    go_wp2_with fail
    refine (h1 _).mono ?_
    rintro _ w1 ⟨rfl, rfl⟩
    go_wp2_with fail
    refine (h2 _).mono ?_
    rintro _ w1 ⟨rfl, rfl⟩
    go_wp2_with fail
    go_ret
    exact ⟨rfl, by first | rfl | trivial⟩
  · go_enter Tryz.func62, Tryz.ntmps62
    go_wp2_with fail
    refine (h1 _).mono ?_
    rintro _ w1 ⟨rfl, rfl⟩
    go_wp2_with fail
    go_ret
    exact ⟨rfl, by first | rfl | trivial⟩

theorem smallClo_any (b : UInt8) (w : World) : Calls Tryz.prog 67 #[.int .u8 (b.toNat : Int)] w fun e w' => e = .returned (.bool (LX.small b || VS.dig b)) ∧ w' = w := by
  have h1 := fun W => isSmall_any b W
  have h2 := fun W => isDigit_any b W
  generalize LX.small b = p at *
  generalize VS.dig b = q at *
  cases p
  · go_enter Tryz.func67, Tryz.ntmps67
    go_wp2_with fail
    refine (h1 _).mono ?_
    rintro _ w1 ⟨rfl, rfl⟩
    go_wp2_with fail
    refine (h2 _).mono ?_
    rintro _ w1 ⟨rfl, rfl⟩
    go_wp2_with fail
    go_ret
    exact ⟨rfl, by first | rfl | trivial⟩
  · go_enter Tryz.func67, Tryz.ntmps67
    go_wp2_with fail
    refine (h1 _).mono ?_
    rintro _ w1 ⟨rfl, rfl⟩
    go_wp2_with fail
    go_ret
    exact ⟨rfl, by first | rfl | trivial⟩

theorem lineClo_any (b : UInt8) (w : World) : Calls Tryz.prog 31 #[.int .u8 (b.toNat : Int)] w fun e w' => e = .returned (.bool (decide (b.toNat ≠ 10))) ∧ w' = w := by
  by_cases h : b.toNat = 10
  · have HE : Hid (decide (b.toNat ≠ 10) = false) := by unfold Hid; simp [h]
    generalize decide (b.toNat ≠ 10) = q at *
    have a : (b.toNat : Int) = 10 := by omega
    have ab : ((b.toNat : Int) != 10) = false := by simp [a]
    clear h
    go_enter Tryz.func31, Tryz.ntmps31
    go_wp2_with fail
    go_ret
    exact ⟨by first | (rw [HE.out]; rfl) | exact ret_bool (ab.trans HE.out.symm), by first | rfl | trivial⟩
  · have HE : Hid (decide (b.toNat ≠ 10) = true) := by unfold Hid; simp [h]
    generalize decide (b.toNat ≠ 10) = q at *
    have a : ((b.toNat : Int) != 10) = true := by simp; omega
    have a2 : ¬ (b.toNat : Int) = 10 := by omega
    clear h
    go_enter Tryz.func31, Tryz.ntmps31
    go_wp2_with fail
    go_ret
    exact ⟨by first | (rw [HE.out]; rfl) | exact ret_bool (a.trans HE.out.symm), by first | rfl | trivial⟩

theorem quoteClo_any (b : UInt8) (w : World) : Calls Tryz.prog 59 #[.int .u8 (b.toNat : Int)] w fun e w' => e = .returned (.bool (decide (b.toNat ≠ 39))) ∧ w' = w := by
  by_cases h : b.toNat = 39
  · have HE : Hid (decide (b.toNat ≠ 39) = false) := by unfold Hid; simp [h]
    generalize decide (b.toNat ≠ 39) = q at *
    have a : (b.toNat : Int) = 39 := by omega
    have ab : ((b.toNat : Int) != 39) = false := by simp [a]
    clear h
    go_enter Tryz.func59, Tryz.ntmps59
    go_wp2_with fail
    go_ret
    exact ⟨by first | (rw [HE.out]; rfl) | exact ret_bool (ab.trans HE.out.symm), by first | rfl | trivial⟩
  · have HE : Hid (decide (b.toNat ≠ 39) = true) := by unfold Hid; simp [h]
    generalize decide (b.toNat ≠ 39) = q at *
    have a : ((b.toNat : Int) != 39) = true := by simp; omega
    have a2 : ¬ (b.toNat : Int) = 39 := by omega
    clear h
    go_enter Tryz.func59, Tryz.ntmps59
    go_wp2_with fail
    go_ret
    exact ⟨by first | (rw [HE.out]; rfl) | exact ret_bool (a.trans HE.out.symm), by first | rfl | trivial⟩

theorem blankClo_any (b : UInt8) (w : World) : Calls Tryz.prog 29 #[.int .u8 (b.toNat : Int)] w fun e w' => e = .returned (.bool (LX.blank b)) ∧ w' = w := by
  obtain ⟨q, hq⟩ : ∃ q, LX.blank b = q := ⟨_, rfl⟩
  rw [hq]
  have e : ∀ n : Nat, b.toNat ≠ n → ((b.toNat : Int) == (n : Int)) = false := fun n h => by rw [beq_eq_false_iff_ne]; omega
  have hw : b.toNat = 32 ∨ b.toNat = 9 ∨ b.toNat = 10 ∨ b.toNat = 13 ∨ (b.toNat ≠ 32 ∧ b.toNat ≠ 9 ∧ b.toNat ≠ 10 ∧ b.toNat ≠ 13) := by omega
  rcases hw with h | h | h | h | ⟨h1, h2, h3, h4⟩
  iterate 4
    · have HE : Hid (q = true) := by unfold Hid; rw [← hq]; exact LX.blank_iff.2 (by omega)
      have a : (b.toNat : Int) = _ := congrArg Int.ofNat h
      simp only [Int.ofNat_eq_natCast, Int.cast_ofNat_Int] at a
      clear hq e
      go_enter Tryz.func29, Tryz.ntmps29
      go_wp2_with fail
      go_ret
      exact ⟨by rw [HE.out]; rfl, by first | rfl | trivial⟩
  · have HE : Hid (q = false) := by unfold Hid; rw [← hq]; exact LX.not_true (fun h' => by have := LX.blank_iff.1 h'; omega)
    have a1 := e 32 h1
    have a2 := e 9 h2
    have a3 := e 10 h3
    have a4 := e 13 h4
    simp only [Int.cast_ofNat_Int] at a1 a2 a3 a4
    have b1 : ¬ (b.toNat : Int) = 32 := by omega
    have b2 : ¬ (b.toNat : Int) = 9 := by omega
    have b3 : ¬ (b.toNat : Int) = 10 := by omega
    have b4 : ¬ (b.toNat : Int) = 13 := by omega
    clear hq e
    go_enter Tryz.func29, Tryz.ntmps29
    go_wp2_with fail
    go_ret
    exact ⟨by rw [HE.out]; rfl, by first | rfl | trivial⟩

set_option maxHeartbeats 1000000 in
theorem runBlank (s : ByteArray) (w : World) (hs : s.size ≤ 140737488355327) (p : UInt8 → Bool) (hp : ∀ b W, Calls Tryz.prog 29 #[.int .u8 (b.toNat : Int)] W fun e w' => e = .returned (.bool (p b)) ∧ w' = W) :
    Calls Tryz.prog 28 #[.string s, .func (.func 29) #[] #[]] w fun e w' => e = .returned (.int .i64 (LX.run p s.data.toList)) ∧ w' = w := by
  have hlen : s.data.toList.length = s.size := by rw [Array.length_toList]; rfl
  have hget : ∀ i (h : i < s.size), s.data.toList[i]'(by omega) = s[i] := fun i h => rfl
  obtain ⟨R, hR⟩ : ∃ R, LX.run p s.data.toList = R := ⟨_, rfl⟩
  rw [hR]
  have HR : Hid _ := hR
  have HP : Hid _ := hp
  clear hR hp
  go_enter Tryz.func28, Tryz.ntmps28
  go_wp2_with fail
  go_loopw [5] (fun iv wr => ∃ i : Nat, iv = .int .i64 i ∧ i ≤ s.size ∧ R = i + LX.run p (s.data.toList.drop i) ∧ wr = w) (fun iv _ => s.size - (intOf iv).toNat)
  case atStart => exact ⟨0, rfl, Nat.zero_le _, by rw [← HR.out]; simp, rfl⟩
  case round =>
    obtain ⟨i, rfl, hi, hrun, rfl⟩ := hrel
    by_cases hlt : i < s.size
    · have hltZ : (i : Int) < (s.size : Int) := by omega
      have hd : s.data.toList.drop i = s[i] :: s.data.toList.drop (i + 1) := by
        rw [List.drop_eq_getElem_cons (by omega), hget i hlt]
      have hc := fun W => HP.out s[i] W
      cases hb : p s[i] with
      | true =>
        rw [hb] at hc
        rw [hd, LX.run_step p _ _ hb] at hrun
        have HN : Hid (R = (i + 1) + LX.run p (s.data.toList.drop (i + 1))) := by unfold Hid; omega
        clear hrun hd hb hget hlen
        go_wp2_with fail
        refine (hc _).mono ?_
        rintro _ w1 ⟨rfl, rfl⟩
        go_wp2_with fail
        go_roundw
        case rel => exact ⟨i + 1, by go_num, by omega, HN.out, by first | rfl | trivial⟩
        case measure => simp [intOf]; omega
      | false =>
        rw [hb] at hc
        rw [hd, LX.run_zero p _ _ hb] at hrun
        have HN : Hid (R = i) := hrun
        clear hrun hd hb hget hlen
        go_wp2_with fail
        refine (hc _).mono ?_
        rintro _ w1 ⟨rfl, rfl⟩
        go_wp2_with fail
        go_ret
        exact ⟨by rw [HN.out]; rfl, by first | rfl | trivial⟩
    · have hltZ : ¬ (i : Int) < (s.size : Int) := by omega
      have hd : s.data.toList.drop i = [] := List.drop_of_length_le (by omega)
      rw [hd] at hrun
      have HN : Hid (R = i) := hrun
      clear hrun hd hget hlen
      go_wp2_with fail
      go_ret
      exact ⟨by rw [HN.out]; rfl, by first | rfl | trivial⟩

set_option maxHeartbeats 1000000 in
theorem runLine (s : ByteArray) (w : World) (hs : s.size ≤ 140737488355327) (p : UInt8 → Bool) (hp : ∀ b W, Calls Tryz.prog 31 #[.int .u8 (b.toNat : Int)] W fun e w' => e = .returned (.bool (p b)) ∧ w' = W) :
    Calls Tryz.prog 28 #[.string s, .func (.func 31) #[] #[]] w fun e w' => e = .returned (.int .i64 (LX.run p s.data.toList)) ∧ w' = w := by
  have hlen : s.data.toList.length = s.size := by rw [Array.length_toList]; rfl
  have hget : ∀ i (h : i < s.size), s.data.toList[i]'(by omega) = s[i] := fun i h => rfl
  obtain ⟨R, hR⟩ : ∃ R, LX.run p s.data.toList = R := ⟨_, rfl⟩
  rw [hR]
  have HR : Hid _ := hR
  have HP : Hid _ := hp
  clear hR hp
  go_enter Tryz.func28, Tryz.ntmps28
  go_wp2_with fail
  go_loopw [5] (fun iv wr => ∃ i : Nat, iv = .int .i64 i ∧ i ≤ s.size ∧ R = i + LX.run p (s.data.toList.drop i) ∧ wr = w) (fun iv _ => s.size - (intOf iv).toNat)
  case atStart => exact ⟨0, rfl, Nat.zero_le _, by rw [← HR.out]; simp, rfl⟩
  case round =>
    obtain ⟨i, rfl, hi, hrun, rfl⟩ := hrel
    by_cases hlt : i < s.size
    · have hltZ : (i : Int) < (s.size : Int) := by omega
      have hd : s.data.toList.drop i = s[i] :: s.data.toList.drop (i + 1) := by
        rw [List.drop_eq_getElem_cons (by omega), hget i hlt]
      have hc := fun W => HP.out s[i] W
      cases hb : p s[i] with
      | true =>
        rw [hb] at hc
        rw [hd, LX.run_step p _ _ hb] at hrun
        have HN : Hid (R = (i + 1) + LX.run p (s.data.toList.drop (i + 1))) := by unfold Hid; omega
        clear hrun hd hb hget hlen
        go_wp2_with fail
        refine (hc _).mono ?_
        rintro _ w1 ⟨rfl, rfl⟩
        go_wp2_with fail
        go_roundw
        case rel => exact ⟨i + 1, by go_num, by omega, HN.out, by first | rfl | trivial⟩
        case measure => simp [intOf]; omega
      | false =>
        rw [hb] at hc
        rw [hd, LX.run_zero p _ _ hb] at hrun
        have HN : Hid (R = i) := hrun
        clear hrun hd hb hget hlen
        go_wp2_with fail
        refine (hc _).mono ?_
        rintro _ w1 ⟨rfl, rfl⟩
        go_wp2_with fail
        go_ret
        exact ⟨by rw [HN.out]; rfl, by first | rfl | trivial⟩
    · have hltZ : ¬ (i : Int) < (s.size : Int) := by omega
      have hd : s.data.toList.drop i = [] := List.drop_of_length_le (by omega)
      rw [hd] at hrun
      have HN : Hid (R = i) := hrun
      clear hrun hd hget hlen
      go_wp2_with fail
      go_ret
      exact ⟨by rw [HN.out]; rfl, by first | rfl | trivial⟩

set_option maxHeartbeats 1000000 in
theorem runQuote (s : ByteArray) (w : World) (hs : s.size ≤ 140737488355327) (p : UInt8 → Bool) (hp : ∀ b W, Calls Tryz.prog 59 #[.int .u8 (b.toNat : Int)] W fun e w' => e = .returned (.bool (p b)) ∧ w' = W) :
    Calls Tryz.prog 28 #[.string s, .func (.func 59) #[] #[]] w fun e w' => e = .returned (.int .i64 (LX.run p s.data.toList)) ∧ w' = w := by
  have hlen : s.data.toList.length = s.size := by rw [Array.length_toList]; rfl
  have hget : ∀ i (h : i < s.size), s.data.toList[i]'(by omega) = s[i] := fun i h => rfl
  obtain ⟨R, hR⟩ : ∃ R, LX.run p s.data.toList = R := ⟨_, rfl⟩
  rw [hR]
  have HR : Hid _ := hR
  have HP : Hid _ := hp
  clear hR hp
  go_enter Tryz.func28, Tryz.ntmps28
  go_wp2_with fail
  go_loopw [5] (fun iv wr => ∃ i : Nat, iv = .int .i64 i ∧ i ≤ s.size ∧ R = i + LX.run p (s.data.toList.drop i) ∧ wr = w) (fun iv _ => s.size - (intOf iv).toNat)
  case atStart => exact ⟨0, rfl, Nat.zero_le _, by rw [← HR.out]; simp, rfl⟩
  case round =>
    obtain ⟨i, rfl, hi, hrun, rfl⟩ := hrel
    by_cases hlt : i < s.size
    · have hltZ : (i : Int) < (s.size : Int) := by omega
      have hd : s.data.toList.drop i = s[i] :: s.data.toList.drop (i + 1) := by
        rw [List.drop_eq_getElem_cons (by omega), hget i hlt]
      have hc := fun W => HP.out s[i] W
      cases hb : p s[i] with
      | true =>
        rw [hb] at hc
        rw [hd, LX.run_step p _ _ hb] at hrun
        have HN : Hid (R = (i + 1) + LX.run p (s.data.toList.drop (i + 1))) := by unfold Hid; omega
        clear hrun hd hb hget hlen
        go_wp2_with fail
        refine (hc _).mono ?_
        rintro _ w1 ⟨rfl, rfl⟩
        go_wp2_with fail
        go_roundw
        case rel => exact ⟨i + 1, by go_num, by omega, HN.out, by first | rfl | trivial⟩
        case measure => simp [intOf]; omega
      | false =>
        rw [hb] at hc
        rw [hd, LX.run_zero p _ _ hb] at hrun
        have HN : Hid (R = i) := hrun
        clear hrun hd hb hget hlen
        go_wp2_with fail
        refine (hc _).mono ?_
        rintro _ w1 ⟨rfl, rfl⟩
        go_wp2_with fail
        go_ret
        exact ⟨by rw [HN.out]; rfl, by first | rfl | trivial⟩
    · have hltZ : ¬ (i : Int) < (s.size : Int) := by omega
      have hd : s.data.toList.drop i = [] := List.drop_of_length_le (by omega)
      rw [hd] at hrun
      have HN : Hid (R = i) := hrun
      clear hrun hd hget hlen
      go_wp2_with fail
      go_ret
      exact ⟨by rw [HN.out]; rfl, by first | rfl | trivial⟩

set_option maxHeartbeats 1000000 in
theorem runHex (s : ByteArray) (w : World) (hs : s.size ≤ 140737488355327) (p : UInt8 → Bool) (hp : ∀ b W, Calls Tryz.prog 60 #[.int .u8 (b.toNat : Int)] W fun e w' => e = .returned (.bool (p b)) ∧ w' = W) :
    Calls Tryz.prog 28 #[.string s, .func (.func 60) #[] #[]] w fun e w' => e = .returned (.int .i64 (LX.run p s.data.toList)) ∧ w' = w := by
  have hlen : s.data.toList.length = s.size := by rw [Array.length_toList]; rfl
  have hget : ∀ i (h : i < s.size), s.data.toList[i]'(by omega) = s[i] := fun i h => rfl
  obtain ⟨R, hR⟩ : ∃ R, LX.run p s.data.toList = R := ⟨_, rfl⟩
  rw [hR]
  have HR : Hid _ := hR
  have HP : Hid _ := hp
  clear hR hp
  go_enter Tryz.func28, Tryz.ntmps28
  go_wp2_with fail
  go_loopw [5] (fun iv wr => ∃ i : Nat, iv = .int .i64 i ∧ i ≤ s.size ∧ R = i + LX.run p (s.data.toList.drop i) ∧ wr = w) (fun iv _ => s.size - (intOf iv).toNat)
  case atStart => exact ⟨0, rfl, Nat.zero_le _, by rw [← HR.out]; simp, rfl⟩
  case round =>
    obtain ⟨i, rfl, hi, hrun, rfl⟩ := hrel
    by_cases hlt : i < s.size
    · have hltZ : (i : Int) < (s.size : Int) := by omega
      have hd : s.data.toList.drop i = s[i] :: s.data.toList.drop (i + 1) := by
        rw [List.drop_eq_getElem_cons (by omega), hget i hlt]
      have hc := fun W => HP.out s[i] W
      cases hb : p s[i] with
      | true =>
        rw [hb] at hc
        rw [hd, LX.run_step p _ _ hb] at hrun
        have HN : Hid (R = (i + 1) + LX.run p (s.data.toList.drop (i + 1))) := by unfold Hid; omega
        clear hrun hd hb hget hlen
        go_wp2_with fail
        refine (hc _).mono ?_
        rintro _ w1 ⟨rfl, rfl⟩
        go_wp2_with fail
        go_roundw
        case rel => exact ⟨i + 1, by go_num, by omega, HN.out, by first | rfl | trivial⟩
        case measure => simp [intOf]; omega
      | false =>
        rw [hb] at hc
        rw [hd, LX.run_zero p _ _ hb] at hrun
        have HN : Hid (R = i) := hrun
        clear hrun hd hb hget hlen
        go_wp2_with fail
        refine (hc _).mono ?_
        rintro _ w1 ⟨rfl, rfl⟩
        go_wp2_with fail
        go_ret
        exact ⟨by rw [HN.out]; rfl, by first | rfl | trivial⟩
    · have hltZ : ¬ (i : Int) < (s.size : Int) := by omega
      have hd : s.data.toList.drop i = [] := List.drop_of_length_le (by omega)
      rw [hd] at hrun
      have HN : Hid (R = i) := hrun
      clear hrun hd hget hlen
      go_wp2_with fail
      go_ret
      exact ⟨by rw [HN.out]; rfl, by first | rfl | trivial⟩

set_option maxHeartbeats 1000000 in
theorem runWord (s : ByteArray) (w : World) (hs : s.size ≤ 140737488355327) (p : UInt8 → Bool) (hp : ∀ b W, Calls Tryz.prog 62 #[.int .u8 (b.toNat : Int)] W fun e w' => e = .returned (.bool (p b)) ∧ w' = W) :
    Calls Tryz.prog 28 #[.string s, .func (.func 62) #[] #[]] w fun e w' => e = .returned (.int .i64 (LX.run p s.data.toList)) ∧ w' = w := by
  have hlen : s.data.toList.length = s.size := by rw [Array.length_toList]; rfl
  have hget : ∀ i (h : i < s.size), s.data.toList[i]'(by omega) = s[i] := fun i h => rfl
  obtain ⟨R, hR⟩ : ∃ R, LX.run p s.data.toList = R := ⟨_, rfl⟩
  rw [hR]
  have HR : Hid _ := hR
  have HP : Hid _ := hp
  clear hR hp
  go_enter Tryz.func28, Tryz.ntmps28
  go_wp2_with fail
  go_loopw [5] (fun iv wr => ∃ i : Nat, iv = .int .i64 i ∧ i ≤ s.size ∧ R = i + LX.run p (s.data.toList.drop i) ∧ wr = w) (fun iv _ => s.size - (intOf iv).toNat)
  case atStart => exact ⟨0, rfl, Nat.zero_le _, by rw [← HR.out]; simp, rfl⟩
  case round =>
    obtain ⟨i, rfl, hi, hrun, rfl⟩ := hrel
    by_cases hlt : i < s.size
    · have hltZ : (i : Int) < (s.size : Int) := by omega
      have hd : s.data.toList.drop i = s[i] :: s.data.toList.drop (i + 1) := by
        rw [List.drop_eq_getElem_cons (by omega), hget i hlt]
      have hc := fun W => HP.out s[i] W
      cases hb : p s[i] with
      | true =>
        rw [hb] at hc
        rw [hd, LX.run_step p _ _ hb] at hrun
        have HN : Hid (R = (i + 1) + LX.run p (s.data.toList.drop (i + 1))) := by unfold Hid; omega
        clear hrun hd hb hget hlen
        go_wp2_with fail
        refine (hc _).mono ?_
        rintro _ w1 ⟨rfl, rfl⟩
        go_wp2_with fail
        go_roundw
        case rel => exact ⟨i + 1, by go_num, by omega, HN.out, by first | rfl | trivial⟩
        case measure => simp [intOf]; omega
      | false =>
        rw [hb] at hc
        rw [hd, LX.run_zero p _ _ hb] at hrun
        have HN : Hid (R = i) := hrun
        clear hrun hd hb hget hlen
        go_wp2_with fail
        refine (hc _).mono ?_
        rintro _ w1 ⟨rfl, rfl⟩
        go_wp2_with fail
        go_ret
        exact ⟨by rw [HN.out]; rfl, by first | rfl | trivial⟩
    · have hltZ : ¬ (i : Int) < (s.size : Int) := by omega
      have hd : s.data.toList.drop i = [] := List.drop_of_length_le (by omega)
      rw [hd] at hrun
      have HN : Hid (R = i) := hrun
      clear hrun hd hget hlen
      go_wp2_with fail
      go_ret
      exact ⟨by rw [HN.out]; rfl, by first | rfl | trivial⟩

set_option maxHeartbeats 1000000 in
theorem runSmall (s : ByteArray) (w : World) (hs : s.size ≤ 9223372036854775807) (p : UInt8 → Bool) (hp : ∀ b W, Calls Tryz.prog 67 #[.int .u8 (b.toNat : Int)] W fun e w' => e = .returned (.bool (p b)) ∧ w' = W) :
    Calls Tryz.prog 28 #[.string s, .func (.func 67) #[] #[]] w fun e w' => e = .returned (.int .i64 (LX.run p s.data.toList)) ∧ w' = w := by
  have hlen : s.data.toList.length = s.size := by rw [Array.length_toList]; rfl
  have hget : ∀ i (h : i < s.size), s.data.toList[i]'(by omega) = s[i] := fun i h => rfl
  obtain ⟨R, hR⟩ : ∃ R, LX.run p s.data.toList = R := ⟨_, rfl⟩
  rw [hR]
  have HR : Hid _ := hR
  have HP : Hid _ := hp
  clear hR hp
  go_enter Tryz.func28, Tryz.ntmps28
  go_wp2_with fail
  go_loopw [5] (fun iv wr => ∃ i : Nat, iv = .int .i64 i ∧ i ≤ s.size ∧ R = i + LX.run p (s.data.toList.drop i) ∧ wr = w) (fun iv _ => s.size - (intOf iv).toNat)
  case atStart => exact ⟨0, rfl, Nat.zero_le _, by rw [← HR.out]; simp, rfl⟩
  case round =>
    obtain ⟨i, rfl, hi, hrun, rfl⟩ := hrel
    by_cases hlt : i < s.size
    · have hltZ : (i : Int) < (s.size : Int) := by omega
      have hd : s.data.toList.drop i = s[i] :: s.data.toList.drop (i + 1) := by
        rw [List.drop_eq_getElem_cons (by omega), hget i hlt]
      have hc := fun W => HP.out s[i] W
      cases hb : p s[i] with
      | true =>
        rw [hb] at hc
        rw [hd, LX.run_step p _ _ hb] at hrun
        have HN : Hid (R = (i + 1) + LX.run p (s.data.toList.drop (i + 1))) := by unfold Hid; omega
        clear hrun hd hb hget hlen
        go_wp2_with fail
        refine (hc _).mono ?_
        rintro _ w1 ⟨rfl, rfl⟩
        go_wp2_with fail
        go_roundw
        case rel => exact ⟨i + 1, by go_num, by omega, HN.out, by first | rfl | trivial⟩
        case measure => simp [intOf]; omega
      | false =>
        rw [hb] at hc
        rw [hd, LX.run_zero p _ _ hb] at hrun
        have HN : Hid (R = i) := hrun
        clear hrun hd hb hget hlen
        go_wp2_with fail
        refine (hc _).mono ?_
        rintro _ w1 ⟨rfl, rfl⟩
        go_wp2_with fail
        go_ret
        exact ⟨by rw [HN.out]; rfl, by first | rfl | trivial⟩
    · have hltZ : ¬ (i : Int) < (s.size : Int) := by omega
      have hd : s.data.toList.drop i = [] := List.drop_of_length_le (by omega)
      rw [hd] at hrun
      have HN : Hid (R = i) := hrun
      clear hrun hd hget hlen
      go_wp2_with fail
      go_ret
      exact ⟨by rw [HN.out]; rfl, by first | rfl | trivial⟩

set_option maxHeartbeats 1000000 in
theorem runDigit (s : ByteArray) (w : World) (hs : s.size ≤ 140737488355327) (p : UInt8 → Bool) (hp : ∀ b W, Calls Tryz.prog 37 #[.int .u8 (b.toNat : Int)] W fun e w' => e = .returned (.bool (p b)) ∧ w' = W) :
    Calls Tryz.prog 28 #[.string s, .func (.func 37) #[] #[]] w fun e w' => e = .returned (.int .i64 (LX.run p s.data.toList)) ∧ w' = w := by
  have hlen : s.data.toList.length = s.size := by rw [Array.length_toList]; rfl
  have hget : ∀ i (h : i < s.size), s.data.toList[i]'(by omega) = s[i] := fun i h => rfl
  obtain ⟨R, hR⟩ : ∃ R, LX.run p s.data.toList = R := ⟨_, rfl⟩
  rw [hR]
  have HR : Hid _ := hR
  have HP : Hid _ := hp
  clear hR hp
  go_enter Tryz.func28, Tryz.ntmps28
  go_wp2_with fail
  go_loopw [5] (fun iv wr => ∃ i : Nat, iv = .int .i64 i ∧ i ≤ s.size ∧ R = i + LX.run p (s.data.toList.drop i) ∧ wr = w) (fun iv _ => s.size - (intOf iv).toNat)
  case atStart => exact ⟨0, rfl, Nat.zero_le _, by rw [← HR.out]; simp, rfl⟩
  case round =>
    obtain ⟨i, rfl, hi, hrun, rfl⟩ := hrel
    by_cases hlt : i < s.size
    · have hltZ : (i : Int) < (s.size : Int) := by omega
      have hd : s.data.toList.drop i = s[i] :: s.data.toList.drop (i + 1) := by
        rw [List.drop_eq_getElem_cons (by omega), hget i hlt]
      have hc := fun W => HP.out s[i] W
      cases hb : p s[i] with
      | true =>
        rw [hb] at hc
        rw [hd, LX.run_step p _ _ hb] at hrun
        have HN : Hid (R = (i + 1) + LX.run p (s.data.toList.drop (i + 1))) := by unfold Hid; omega
        clear hrun hd hb hget hlen
        go_wp2_with fail
        refine (hc _).mono ?_
        rintro _ w1 ⟨rfl, rfl⟩
        go_wp2_with fail
        go_roundw
        case rel => exact ⟨i + 1, by go_num, by omega, HN.out, by first | rfl | trivial⟩
        case measure => simp [intOf]; omega
      | false =>
        rw [hb] at hc
        rw [hd, LX.run_zero p _ _ hb] at hrun
        have HN : Hid (R = i) := hrun
        clear hrun hd hb hget hlen
        go_wp2_with fail
        refine (hc _).mono ?_
        rintro _ w1 ⟨rfl, rfl⟩
        go_wp2_with fail
        go_ret
        exact ⟨by rw [HN.out]; rfl, by first | rfl | trivial⟩
    · have hltZ : ¬ (i : Int) < (s.size : Int) := by omega
      have hd : s.data.toList.drop i = [] := List.drop_of_length_le (by omega)
      rw [hd] at hrun
      have HN : Hid (R = i) := hrun
      clear hrun hd hget hlen
      go_wp2_with fail
      go_ret
      exact ⟨by rw [HN.out]; rfl, by first | rfl | trivial⟩
end Go.Proofs.YtoagobpkenfbkaaGreatDoor
