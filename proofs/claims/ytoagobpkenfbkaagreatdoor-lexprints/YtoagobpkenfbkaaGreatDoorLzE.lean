/-
  The document's own isLetter, isDigit, smallOf and isWord.
-/
import Derived.Test.YtoagobpkenfbkaaGreatDoorLzD
import Derived.Test.YtoagobpkenfbkaaGreatDoorLtA
namespace Go.Proofs.YtoagobpkenfbkaaGreatDoor
open Go.ChangeShapes Go.WideShapes Go.ChangeAt Go.RowKit Go.Shelf
set_option linter.unusedVariables false
set_option linter.unusedSimpArgs false
set_option maxRecDepth 100000

def LX.at? (p : UInt8 → Bool) (l : List UInt8) (i : Nat) : Bool := match l[i]? with
  | some c => p c
  | none => false
theorem at_some {p : UInt8 → Bool} {l : List UInt8} {i : Nat} {c : UInt8} (h : l[i]? = some c) : LX.at? p l i = p c := by unfold LX.at?; rw [h]
theorem let_in (l : List UInt8) (i : Nat) : LX.at? LX.letter l i = (LX.inr l i 97 122 || (LX.inr l i 65 90 || LX.inr l i 95 95)) := by
  unfold LX.at? LX.inr
  cases l[i]? with
  | none => rfl
  | some c =>
    simp only
    rw [Bool.eq_iff_iff, LX.letter_iff]
    simp only [Bool.or_eq_true, Bool.and_eq_true, decide_eq_true_eq]
    omega
theorem dig_in (l : List UInt8) (i : Nat) : LX.at? VS.dig l i = LX.inr l i 48 57 := by
  unfold LX.at? LX.inr
  cases l[i]? with
  | none => rfl
  | some c => rfl

set_option maxHeartbeats 1000000 in
theorem rletter_any (S : ByteArray) (k : Nat) (w : World) : Calls Tryz.prog 43 #[.string S, .int .i64 (k : Int)] w fun e w' => e = .returned (.bool (LX.at? LX.letter S.data.toList k)) ∧ w' = w := by
  have c1 := fun W => in_any S (k : Int) 97 122 (by omega) (by decide) (by decide) W
  have c2 := fun W => in_any S (k : Int) 65 90 (by omega) (by decide) (by decide) W
  have c3 := fun W => in_any S (k : Int) 95 95 (by omega) (by decide) (by decide) W
  rw [Int.toNat_natCast] at c1 c2 c3
  rw [let_in]
  simp only [show (97 : Int).toNat = 97 from rfl, show (122 : Int).toNat = 122 from rfl, show (65 : Int).toNat = 65 from rfl, show (90 : Int).toNat = 90 from rfl, show (95 : Int).toNat = 95 from rfl] at c1 c2 c3
  generalize LX.inr S.data.toList k 97 122 = x1 at *
  generalize LX.inr S.data.toList k 65 90 = x2 at *
  generalize LX.inr S.data.toList k 95 95 = x3 at *
  cases x1
  · cases x2
    · go_enter Tryz.func43, Tryz.ntmps43
      go_wp2_with fail
      refine (c1 _).mono ?_
      rintro _ w1 ⟨rfl, rfl⟩
      go_wp2_with fail
      refine (c2 _).mono ?_
      rintro _ w2 ⟨rfl, rfl⟩
      go_wp2_with fail
      refine (c3 _).mono ?_
      rintro _ w3 ⟨rfl, rfl⟩
      go_wp2_with fail
      go_ret
      exact ⟨by simp, rfl⟩
    · go_enter Tryz.func43, Tryz.ntmps43
      go_wp2_with fail
      refine (c1 _).mono ?_
      rintro _ w1 ⟨rfl, rfl⟩
      go_wp2_with fail
      refine (c2 _).mono ?_
      rintro _ w2 ⟨rfl, rfl⟩
      go_wp2_with fail
      go_ret
      exact ⟨by simp, rfl⟩
  · go_enter Tryz.func43, Tryz.ntmps43
    go_wp2_with fail
    refine (c1 _).mono ?_
    rintro _ w1 ⟨rfl, rfl⟩
    go_wp2_with fail
    go_ret
    exact ⟨by simp, rfl⟩
set_option maxHeartbeats 1000000 in
theorem rdigit_any (S : ByteArray) (k : Nat) (w : World) : Calls Tryz.prog 44 #[.string S, .int .i64 (k : Int)] w fun e w' => e = .returned (.bool (LX.at? VS.dig S.data.toList k)) ∧ w' = w := by
  have c1 := fun W => in_any S (k : Int) 48 57 (by omega) (by decide) (by decide) W
  rw [Int.toNat_natCast] at c1
  rw [dig_in]
  simp only [show (48 : Int).toNat = 48 from rfl, show (57 : Int).toNat = 57 from rfl] at c1
  generalize LX.inr S.data.toList k 48 57 = x1 at *
  go_enter Tryz.func44, Tryz.ntmps44
  go_wp2_with fail
  refine (c1 _).mono ?_
  rintro _ w1 ⟨rfl, rfl⟩
  go_wp2_with fail
  go_ret
  exact ⟨rfl, rfl⟩
theorem low_val {b : UInt8} (h : LX.great b = true) : UInt8.ofNat ((b.toNat : Int) + 32).toNat = LX.low b := by
  unfold LX.low
  rw [if_pos h]
  unfold LX.great at h
  simp only [Bool.and_eq_true, decide_eq_true_eq] at h
  apply UInt8.toNat_inj.1
  rw [UInt8.toNat_ofNat', UInt8.toNat_add]
  show ((b.toNat : Int) + 32).toNat % 256 = (b.toNat + 32) % 256
  omega
theorem great_in (S : ByteArray) (k : Nat) (h : k < S.size) : LX.inr S.data.toList k 65 90 = LX.great S[k] := by
  rw [inr_some (byte_at S k h)]
  rfl
theorem take_low (S : ByteArray) (i : Nat) (h : i < S.size) : (S.data.toList.take (i + 1)).map LX.low = (S.data.toList.take i).map LX.low ++ [LX.low S[i]] := by
  rw [List.take_add_one, byte_at S i h]
  simp

set_option maxHeartbeats 2000000 in
theorem smallOf_any (S : ByteArray) (w : World) (hs : S.size ≤ 9223372036854775807) : Calls Tryz.prog 45 #[.string S] w fun e w' => e = .returned (.string ⟨(S.data.toList.map LX.low).toArray⟩) ∧ Fr w w' := by
  have hlen := ba_len S
  go_enter Tryz.func45, Tryz.ntmps45
  go_wp2_with fail
  go_loopw [3, 4] (fun ov iv wr => ∃ (i : Nat) (O : ByteArray), iv = .int .i64 i ∧ ov = .string O ∧ O.data.toList = (S.data.toList.take i).map LX.low ∧ i ≤ S.size ∧ Fr w wr) (fun _ iv _ => S.size - (intOf iv).toNat)
  case atStart => exact ⟨0, ⟨#[]⟩, rfl, rfl, by simp, Nat.zero_le _, Fr.refl _⟩
  case round =>
    obtain ⟨i, O, rfl, rfl, hO, hi, hfr⟩ := hrel
    have hOs : O.size = i := by
      have := congrArg List.length hO
      rw [ba_len, List.length_map, List.length_take] at this
      omega
    by_cases hlt : i < S.size
    · have hltZ : (i : Int) < (S.size : Int) := by omega
      have c1 := fun W => in_any S (i : Int) 65 90 (by omega) (by decide) (by decide) W
      rw [Int.toNat_natCast, show (65 : Int).toNat = 65 from rfl, show (90 : Int).toNat = 90 from rfl, great_in S i hlt] at c1
      have HT : Hid _ := take_low S i hlt
      have HO : Hid _ := hO
      have HOS : Hid _ := hOs
      have hos1 : (O.size : Int) + 1 ≤ 9223372036854775807 := by omega
      have hos2 : O.size + 1 ≤ 9223372036854775807 := by omega
      cases hg : LX.great S[i] with
      | true =>
        rw [hg] at c1
        have hb : (S[i].toNat : Int) + 32 < 256 := by
          unfold LX.great at hg
          simp only [Bool.and_eq_true, decide_eq_true_eq] at hg
          omega
        have c2 := fun W => oneByte_int ((S[i].toNat : Int) + 32) W (by omega) hb
        rw [low_val hg] at c2
        have hs1 : (⟨#[LX.low S[i]]⟩ : ByteArray).size = 1 := rfl
        have HL : Hid ((⟨#[LX.low S[i]]⟩ : ByteArray).data.toList = [LX.low S[i]]) := rfl
        obtain ⟨X, hX⟩ : ∃ X : ByteArray, (⟨#[LX.low S[i]]⟩ : ByteArray) = X := ⟨_, rfl⟩
        rw [hX] at c2 hs1 HL
        clear hg hO hOs hlen hX
        go_wp2_with fail
        refine (c1 _).mono ?_
        rintro _ w1 ⟨rfl, rfl⟩
        go_wp2_with fail
        refine (c2 _).mono ?_
        rintro _ w2 ⟨rfl, f2⟩
        have F2 : Hid (Fr w w2) := hfr.trans f2
        clear f2 c1 c2 hfr
        go_wp2_with fail
        go_roundw
        case rel => exact ⟨i + 1, O ++ X, by go_num, rfl, by rw [dataApp, HO.out, HL.out, HT.out], by omega, F2.out⟩
        case measure => simp [intOf]; omega
      | false =>
        rw [hg] at c1
        have HL : Hid ((S.extract i (i + 1)).data.toList = [LX.low S[i]]) := by
          unfold Hid
          rw [exact1 S i hlt, LX.low_same hg]
        have hs1 : (S.extract i (i + 1)).size = 1 := by rw [ByteArray.size_extract]; omega
        have hz1 : (i : Int) + 1 ≤ (S.size : Int) := by omega
        clear hg hO hOs hlen
        go_wp2_with fail
        refine (c1 _).mono ?_
        rintro _ w1 ⟨rfl, rfl⟩
        clear c1
        go_wp2_with fail
        go_roundw
        case rel => exact ⟨i + 1, O ++ S.extract i (i + 1), by go_num, rfl, by rw [dataApp, HO.out, HL.out, HT.out], by omega, hfr⟩
        case measure => simp [intOf]; omega
    · obtain rfl : i = S.size := by omega
      have HX : Hid (O = ⟨(S.data.toList.map LX.low).toArray⟩) := by
        unfold Hid
        rw [← ba_eta O, hO, List.take_of_length_le (by omega)]
      go_wp2_with fail
      go_ret
      exact ⟨by rw [← HX.out]; rfl, hfr⟩
end Go.Proofs.YtoagobpkenfbkaaGreatDoor
