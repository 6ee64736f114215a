/-
  What names.Is answers: isDigit, isSmall, run, shownWord, shown and Print of a word, Reserved.
-/
import Derived.Test.YtbcfdhimngoplaaGreatDoorCtW
import Derived.Test.YtbcfdhimngoplaaGreatDoorBase
namespace Go.Proofs.YtbcfdhimngoplaaGreatDoor
open Go.ChangeShapes Go.WideShapes Go.ChangeAt Go.RowKit
set_option linter.unusedVariables false
set_option linter.unusedSimpArgs false
set_option maxRecDepth 100000
set_option maxHeartbeats 1000000
theorem dlenx (s : ByteArray) : s.data.toList.length = s.size := by rw [Array.length_toList]; rfl
theorem dl_eq (s : ByteArray) : (⟨s.data.toList.toArray⟩ : ByteArray) = s := by simp
theorem isDigit_any (b : UInt8) (w : World) : Calls Tryz.prog 165 #[.int .u8 (b.toNat : Int)] w fun e w' => e = .returned (.bool (VS.dig b)) ∧ w' = w := by
 obtain ⟨q, hq⟩ : ∃ q, VS.dig b = q := ⟨_, rfl⟩
 rw [hq]
 have hw : b.toNat < 48 ∨ (48 ≤ b.toNat ∧ b.toNat ≤ 57) ∨ (48 ≤ b.toNat ∧ 57 < b.toNat) := by omega
 rcases hw with h | ⟨h1, h2⟩ | ⟨h1, h2⟩
 ·
  have HE : Hid (q = false) := by unfold Hid; rw [← hq]; exact LX.not_true (fun h' => by have := LX.dig_iff.1 h'; omega)
  have a1 : (b.toNat : Int) < 48 := by omega
  have a7 : decide ((48 : Int) ≤ (b.toNat : Int)) = false := by rw [decide_eq_false_iff_not]; omega
  have a8 : ((48 : Int) ≤ (b.toNat : Int)) = False := by simp; omega
  clear hq
  go_enter Tryz.func165, Tryz.ntmps165
  go_wp2_with fail
  go_ret
  exact ⟨by rw [HE.out]; rfl, by first | rfl | trivial⟩
 ·
  have HE : Hid (q = true) := by unfold Hid; rw [← hq]; exact LX.dig_iff.2 ⟨h1, h2⟩
  have a1 : (48 : Int) ≤ (b.toNat : Int) := by omega
  have a2 : (b.toNat : Int) ≤ 57 := by omega
  clear hq
  go_enter Tryz.func165, Tryz.ntmps165
  go_wp2_with fail
  go_ret
  exact ⟨by rw [HE.out]; rfl, by first | rfl | trivial⟩
 ·
  have HE : Hid (q = false) := by unfold Hid; rw [← hq]; exact LX.not_true (fun h' => by have := LX.dig_iff.1 h'; omega)
  have a1 : (48 : Int) ≤ (b.toNat : Int) := by omega
  have a2 : (57 : Int) < (b.toNat : Int) := by omega
  have a5 : decide ((b.toNat : Int) ≤ 57) = false := by rw [decide_eq_false_iff_not]; omega
  have a6 : ((b.toNat : Int) ≤ 57) = False := by simp; omega
  clear hq
  go_enter Tryz.func165, Tryz.ntmps165
  go_wp2_with fail
  go_ret
  exact ⟨by rw [HE.out]; rfl, by first | rfl | trivial⟩
theorem isSmall_any (b : UInt8) (w : World) : Calls Tryz.prog 164 #[.int .u8 (b.toNat : Int)] w fun e w' => e = .returned (.bool (LX.small b)) ∧ w' = w := by
 obtain ⟨q, hq⟩ : ∃ q, LX.small b = q := ⟨_, rfl⟩
 rw [hq]
 have hw : (97 ≤ b.toNat ∧ b.toNat ≤ 122) ∨ (97 ≤ b.toNat ∧ 122 < b.toNat) ∨ b.toNat = 95 ∨ (b.toNat < 97 ∧ b.toNat ≠ 95) := by omega
 rcases hw with ⟨h1, h2⟩ | ⟨h1, h2⟩ | h1 | ⟨h1, h2⟩
 ·
  have HE : Hid (q = true) := by unfold Hid; rw [← hq]; exact LX.small_iff.2 (by omega)
  have a1 : (97 : Int) ≤ (b.toNat : Int) := by omega
  have a2 : (b.toNat : Int) ≤ 122 := by omega
  clear hq
  go_enter Tryz.func164, Tryz.ntmps164
  go_wp2_with fail
  go_ret
  exact ⟨by rw [HE.out]; rfl, by first | rfl | trivial⟩
 ·
  have HE : Hid (q = false) := by unfold Hid; rw [← hq]; exact LX.not_true (fun h' => by have := LX.small_iff.1 h'; omega)
  have a1 : (97 : Int) ≤ (b.toNat : Int) := by omega
  have a2 : (122 : Int) < (b.toNat : Int) := by omega
  have a5 : decide ((b.toNat : Int) ≤ 122) = false := by rw [decide_eq_false_iff_not]; omega
  have a6 : ((b.toNat : Int) ≤ 122) = False := by simp; omega
  have a3 : ((b.toNat : Int) == 95) = false := by rw [beq_eq_false_iff_ne]; omega
  have a4 : ¬ (b.toNat : Int) = 95 := by omega
  clear hq
  go_enter Tryz.func164, Tryz.ntmps164
  go_wp2_with fail
  go_ret
  exact ⟨by rw [HE.out]; rfl, by first | rfl | trivial⟩
 ·
  have HE : Hid (q = true) := by unfold Hid; rw [← hq]; exact LX.small_iff.2 (by omega)
  have a3 : (b.toNat : Int) = 95 := by omega
  clear hq
  go_enter Tryz.func164, Tryz.ntmps164
  go_wp2_with fail
  go_ret
  exact ⟨by rw [HE.out]; rfl, by first | rfl | trivial⟩
 ·
  have HE : Hid (q = false) := by unfold Hid; rw [← hq]; exact LX.not_true (fun h' => by have := LX.small_iff.1 h'; omega)
  have a1 : (b.toNat : Int) < 97 := by omega
  have a7 : decide ((97 : Int) ≤ (b.toNat : Int)) = false := by rw [decide_eq_false_iff_not]; omega
  have a8 : ((97 : Int) ≤ (b.toNat : Int)) = False := by simp; omega
  have a3 : ((b.toNat : Int) == 95) = false := by rw [beq_eq_false_iff_ne]; omega
  have a4 : ¬ (b.toNat : Int) = 95 := by omega
  clear hq
  go_enter Tryz.func164, Tryz.ntmps164
  go_wp2_with fail
  go_ret
  exact ⟨by rw [HE.out]; rfl, by first | rfl | trivial⟩
theorem smallClo_any (b : UInt8) (w : World) : Calls Tryz.prog 163 #[.int .u8 (b.toNat : Int)] w fun e w' => e = .returned (.bool (LX.small b || VS.dig b)) ∧ w' = w := by
 have h1 := fun W => isSmall_any b W
 have h2 := fun W => isDigit_any b W
 generalize LX.small b = p at *
 generalize VS.dig b = q at *
 cases p
 ·
  go_enter Tryz.func163, Tryz.ntmps163
  go_wp2_with fail
  refine (h1 _).mono ?_
  rintro _ w1 ⟨rfl, rfl⟩
  go_wp2_with fail
  refine (h2 _).mono ?_
  rintro _ w1 ⟨rfl, rfl⟩
  go_wp2_with fail
  go_ret
  exact ⟨rfl, by first | rfl | trivial⟩
 ·
  go_enter Tryz.func163, Tryz.ntmps163
  go_wp2_with fail
  refine (h1 _).mono ?_
  rintro _ w1 ⟨rfl, rfl⟩
  go_wp2_with fail
  go_ret
  exact ⟨rfl, by first | rfl | trivial⟩
theorem runSmall (s : ByteArray) (w : World) (hs : s.size ≤ 9223372036854775807) (p : UInt8 → Bool) (hp : ∀ b W, Calls Tryz.prog 163 #[.int .u8 (b.toNat : Int)] W fun e w' => e = .returned (.bool (p b)) ∧ w' = W) :
  Calls Tryz.prog 162 #[.string s, .func (.func 163) #[] #[]] w fun e w' => e = .returned (.int .i64 (LX.run p s.data.toList)) ∧ w' = w := by
 have hlen : s.data.toList.length = s.size := by rw [Array.length_toList]; rfl
 have hget : ∀ i (h : i < s.size), s.data.toList[i]'(by omega) = s[i] := fun i h => rfl
 obtain ⟨R, hR⟩ : ∃ R, LX.run p s.data.toList = R := ⟨_, rfl⟩
 rw [hR]
 have HR : Hid _ := hR
 have HP : Hid _ := hp
 clear hR hp
 go_enter Tryz.func162, Tryz.ntmps162
 go_wp2_with fail
 go_loopw [5] (fun iv wr => ∃ i : Nat, iv = .int .i64 i ∧ i ≤ s.size ∧ R = i + LX.run p (s.data.toList.drop i) ∧ wr = w) (fun iv _ => s.size - (intOf iv).toNat)
 case atStart => exact ⟨0, rfl, Nat.zero_le _, by rw [← HR.out]; simp, rfl⟩
 case round =>
  obtain ⟨i, rfl, hi, hrun, rfl⟩ := hrel
  by_cases hlt : i < s.size
  ·
   have hltZ : (i : Int) < (s.size : Int) := by omega
   have hd : s.data.toList.drop i = s[i] :: s.data.toList.drop (i + 1) := by
    rw [List.drop_eq_getElem_cons (by omega), hget i hlt]
   have hc := fun W => HP.out s[i] W
   cases hb : p s[i] with
   | true =>
    rw [hb] at hc
    rw [hd, LX.run_step p _ _ hb] at hrun
    have HN : Hid (R = (i + 1) + LX.run p (s.data.toList.drop (i + 1))) := by unfold Hid; omega
    clear hrun hd hb hget hlen
    go_wp2_with fail
    refine (hc _).mono ?_
    rintro _ w1 ⟨rfl, rfl⟩
    go_wp2_with fail
    go_roundw
    case rel => exact ⟨i + 1, by go_num, by omega, HN.out, by first | rfl | trivial⟩
    case measure => simp [intOf]; omega
   | false =>
    rw [hb] at hc
    rw [hd, LX.run_zero p _ _ hb] at hrun
    have HN : Hid (R = i) := hrun
    clear hrun hd hb hget hlen
    go_wp2_with fail
    refine (hc _).mono ?_
    rintro _ w1 ⟨rfl, rfl⟩
    go_wp2_with fail
    go_ret
    exact ⟨by rw [HN.out]; rfl, by first | rfl | trivial⟩
  ·
   have hltZ : ¬ (i : Int) < (s.size : Int) := by omega
   have hd : s.data.toList.drop i = [] := List.drop_of_length_le (by omega)
   rw [hd] at hrun
   have HN : Hid (R = i) := hrun
   clear hrun hd hget hlen
   go_wp2_with fail
   go_ret
   exact ⟨by rw [HN.out]; rfl, by first | rfl | trivial⟩
theorem all_run (p : UInt8 → Bool) : ∀ l : List UInt8, l.all p = true ↔ LX.run p l = l.length
 | [] => by simp [LX.run]
 | b :: r => by
  cases h : p b with
  | true =>
   rw [LX.run_step p b r h, List.all_cons, h, Bool.true_and, all_run p r, List.length_cons]
   omega
  | false =>
   rw [LX.run_zero p b r h, List.all_cons, h, List.length_cons]
   simp
def ws : UInt8 → Bool := fun c => LX.small c || VS.dig c
theorem chkW_first {b : UInt8} {r : List UInt8} (h : LX.small b = false) : LX.chkWord (b :: r) = 1 := by
 show (if LX.small b = true ∧ (b :: r).all ws = true then (if 12 < (b :: r).length then 2 else 0) else 1) = _
 rw [if_neg (fun h' => by rw [h] at h'; exact absurd h'.1 (by decide))]
theorem chkW_else {b : UInt8} {r : List UInt8} (h : LX.run ws (b :: r) ≠ (b :: r).length) : LX.chkWord (b :: r) = 1 := by
 show (if LX.small b = true ∧ (b :: r).all ws = true then (if 12 < (b :: r).length then 2 else 0) else 1) = _
 rw [if_neg (fun h' => h ((all_run ws _).1 h'.2))]
theorem chkW_many {b : UInt8} {r : List UInt8} (h0 : LX.small b = true) (h : LX.run ws (b :: r) = (b :: r).length) (hl : 12 < (b :: r).length) : LX.chkWord (b :: r) = 2 := by
 show (if LX.small b = true ∧ (b :: r).all ws = true then (if 12 < (b :: r).length then 2 else 0) else 1) = _
 rw [if_pos ⟨h0, (all_run ws _).2 h⟩, if_pos hl]
theorem chkW_ok {b : UInt8} {r : List UInt8} (h0 : LX.small b = true) (h : LX.run ws (b :: r) = (b :: r).length) (hl : ¬ 12 < (b :: r).length) : LX.chkWord (b :: r) = 0 := by
 show (if LX.small b = true ∧ (b :: r).all ws = true then (if 12 < (b :: r).length then 2 else 0) else 1) = _
 rw [if_pos ⟨h0, (all_run ws _).2 h⟩, if_neg hl]
def twE (s : ByteArray) (c : Nat) : Value := .tuple #[.string (if c = 0 then s else ⟨#[]⟩), .int .i64 c]
set_option maxRecDepth 100000 in
set_option maxHeartbeats 1000000 in
theorem shownWord_any (s : ByteArray) (w : World) (hs : s.size ≤ 9223372036854775807) :
  Calls Tryz.prog 152 #[.string s] w fun e w' => e = .returned (twE s (LX.chkWord s.data.toList)) ∧ Fr w w' := by
 have hlen := dlenx s
 have c1 := runSmall s w hs ws (fun b W => smallClo_any b W)
 have h1 := LX.run_le ws s.data.toList
 rw [hlen] at h1
 by_cases h0 : s.size = 0
 ·
  have hl0 : s.data.toList = [] := List.length_eq_zero_iff.1 (by omega)
  obtain rfl : s = ⟨#[]⟩ := by rw [← dl_eq s, hl0]
  have HC : Hid (LX.chkWord (⟨#[]⟩ : ByteArray).data.toList = 1) := rfl
  generalize LX.chkWord _ = c at *
  generalize LX.run ws _ = r1 at *
  clear hl0 h0 hlen
  go_enter Tryz.func152, Tryz.ntmps152
  go_wp2_with fail
  refine c1.mono ?_
  rintro _ w1 ⟨rfl, rfl⟩
  go_wp2_with fail
  go_ret2
  exact ⟨by rw [HC.out]; rfl, Fr.refl _⟩
 ·
  have hpos : 0 < s.size := by omega
  have h0Z : (0 : Int) < (s.size : Int) := by omega
  have hd : s.data.toList = s[0] :: s.data.toList.drop 1 := by
   have e : s.data.toList.drop 0 = s[0] :: s.data.toList.drop (0 + 1) := by
    rw [List.drop_eq_getElem_cons (by omega)]
    rfl
   exact e
  have hne : s.data.toList ≠ [] := fun h => by rw [h] at hlen; simp at hlen; omega
  have n1 : (s.toList == []) = false := beq_false_of_ne (by rw [Lib.toList_data]; exact hne)
  have n2 : ¬ s.toList = [] := by rw [Lib.toList_data]; exact hne
  have c2 := isSmall_any s[0] w
  have q1 := @chkW_first s[0] (s.data.toList.drop 1)
  have q2 := @chkW_else s[0] (s.data.toList.drop 1)
  have q3 := @chkW_many s[0] (s.data.toList.drop 1)
  have q4 := @chkW_ok s[0] (s.data.toList.drop 1)
  rw [← hd] at q1 q2 q3 q4
  rw [hlen] at q2 q3 q4
  generalize LX.chkWord s.data.toList = c at *
  generalize LX.run ws s.data.toList = r1 at *
  clear hd hne hlen h0
  cases hb : LX.small s[0] with
  | false =>
   rw [hb] at c2
   have HC : Hid _ := q1 hb
   clear q1 q2 q3 q4 hb
   go_enter Tryz.func152, Tryz.ntmps152
   go_wp2_with fail
   refine c1.mono ?_
   rintro _ w1 ⟨rfl, rfl⟩
   go_wp2_with fail
   refine c2.mono ?_
   rintro _ w2 ⟨rfl, rfl⟩
   go_wp2_with fail
   go_ret2
   exact ⟨by rw [HC.out]; rfl, Fr.refl _⟩
  | true =>
   rw [hb] at c2
   by_cases hr : r1 = s.size
   ·
    subst hr
    by_cases h12 : 12 < s.size
    ·
     have HC : Hid _ := q3 hb rfl h12
     have z1 : (12 : Int) < (s.size : Int) := by omega
     clear q1 q2 q3 q4 hb h12 h1
     go_enter Tryz.func152, Tryz.ntmps152
     go_wp2_with fail
     refine c1.mono ?_
     rintro _ w1 ⟨rfl, rfl⟩
     go_wp2_with fail
     refine c2.mono ?_
     rintro _ w2 ⟨rfl, rfl⟩
     go_wp2_with fail
     go_ret2
     exact ⟨by rw [HC.out]; rfl, Fr.refl _⟩
    ·
     have HC : Hid _ := q4 hb rfl h12
     have z1 : (s.size : Int) ≤ 12 := by omega
     have z2 : (12 < (s.size : Int)) = False := by simp; omega
     clear q1 q2 q3 q4 hb h12 h1
     go_enter Tryz.func152, Tryz.ntmps152
     go_wp2_with fail
     refine c1.mono ?_
     rintro _ w1 ⟨rfl, rfl⟩
     go_wp2_with fail
     refine c2.mono ?_
     rintro _ w2 ⟨rfl, rfl⟩
     go_wp2_with fail
     go_ret2
     exact ⟨by rw [HC.out]; rfl, Fr.refl _⟩
   ·
    have HC : Hid _ := q2 hr
    have z1 : (r1 : Int) < (s.size : Int) := by omega
    clear q1 q2 q3 q4 hb hr
    go_enter Tryz.func152, Tryz.ntmps152
    go_wp2_with fail
    refine c1.mono ?_
    rintro _ w1 ⟨rfl, rfl⟩
    go_wp2_with fail
    refine c2.mono ?_
    rintro _ w2 ⟨rfl, rfl⟩
    go_wp2_with fail
    go_ret2
    exact ⟨by rw [HC.out]; rfl, Fr.refl _⟩
end Go.Proofs.YtbcfdhimngoplaaGreatDoor
