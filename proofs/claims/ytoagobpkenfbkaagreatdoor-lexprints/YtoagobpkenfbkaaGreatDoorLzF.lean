/-
  The document's own isWord and ReservedWord.
-/
import Derived.Test.YtoagobpkenfbkaaGreatDoorLzE
namespace Go.Proofs.YtoagobpkenfbkaaGreatDoor
open Go.ChangeShapes Go.WideShapes Go.ChangeAt Go.RowKit Go.Shelf
set_option linter.unusedVariables false
set_option linter.unusedSimpArgs false
set_option maxRecDepth 100000

theorem isWd_eq (l : List UInt8) : LX.isWd l = (l.all LX.inWord && (LX.at? LX.letter l 0 && decide (l.map LX.low = l))) := by
  cases l with
  | nil => rfl
  | cons b r =>
    have e0 : LX.at? LX.letter (b :: r) 0 = LX.letter b := rfl
    rw [e0, Bool.eq_iff_iff]
    simp only [LX.isWd, Bool.and_eq_true, List.all_eq_true, decide_eq_true_eq]
    constructor
    · rintro ⟨h1, h2⟩
      have hlow : ∀ c ∈ b :: r, LX.low c = c := fun c hc => by
        apply LX.low_same
        have := h2 c hc
        simp only [Bool.or_eq_true] at this
        unfold LX.great
        rcases this with h | h
        · rw [LX.small_iff] at h
          rw [Bool.and_eq_false_iff]
          simp only [decide_eq_false_iff_not]
          omega
        · unfold VS.dig at h
          simp only [Bool.and_eq_true, decide_eq_true_eq] at h
          rw [Bool.and_eq_false_iff]
          simp only [decide_eq_false_iff_not]
          omega
      refine ⟨fun c hc => ?_, ?_, ?_⟩
      · have := h2 c hc
        unfold LX.inWord LX.letter
        simp only [Bool.or_eq_true] at this ⊢
        rcases this with h | h
        · exact Or.inl (Or.inl h)
        · exact Or.inr h
      · unfold LX.letter
        rw [h1]
        rfl
      · conv => rhs; rw [← List.map_id (b :: r)]
        exact List.map_congr_left (fun c hc => by rw [hlow c hc]; rfl)
    · rintro ⟨h1, h2, h3⟩
      have hlow : ∀ c ∈ b :: r, LX.low c = c := by
        have : (b :: r).map LX.low = (b :: r).map id := by rw [List.map_id]; exact h3
        intro c hc
        exact List.map_inj_left.1 this c hc
      refine ⟨?_, fun c hc => ?_⟩
      · have := LX.low_letter h2
        rw [hlow b (by simp)] at this
        exact this
      · have := LX.low_word (h1 c hc)
        rw [hlow c hc] at this
        exact this
theorem all_take_snoc {S : ByteArray} {p : UInt8 → Bool} {i : Nat} (h : i < S.size) (h1 : (S.data.toList.take i).all p = true) (h2 : p S[i] = true) : (S.data.toList.take (i + 1)).all p = true := by
  rw [List.take_add_one, byte_at S i h]
  simp [h1, h2]
theorem all_badp {S : ByteArray} {p : UInt8 → Bool} {i : Nat} (h : i < S.size) (h2 : p S[i] = false) : S.data.toList.all p = false := by
  have hm : S[i] ∈ S.data.toList := List.mem_of_getElem? (byte_at S i h)
  rw [List.all_eq_false]
  exact ⟨_, hm, by simp [h2]⟩

set_option maxHeartbeats 2000000 in
theorem isWord_any (S : ByteArray) (w : World) (hs : S.size ≤ 9223372036854775807) : Calls Tryz.prog 25 #[.string S] w fun e w' => e = .returned (.bool (LX.isWd S.data.toList)) ∧ Fr w w' := by
  have hlen := ba_len S
  have hW := isWd_eq S.data.toList
  go_enter Tryz.func25, Tryz.ntmps25
  go_wp2_with fail
  go_loopw [3] (fun iv wr => ∃ (i : Nat), iv = .int .i64 i ∧ (S.data.toList.take i).all LX.inWord = true ∧ i ≤ S.size ∧ Fr w wr) (fun iv _ => S.size - (intOf iv).toNat)
  case atStart => exact ⟨0, rfl, by simp, Nat.zero_le _, Fr.refl _⟩
  case round =>
    obtain ⟨i, rfl, hall, hi, hfr⟩ := hrel
    by_cases hlt : i < S.size
    · have hltZ : (i : Int) < (S.size : Int) := by omega
      have c1 := fun W => rletter_any S i W
      have c2 := fun W => rdigit_any S i W
      rw [at_some (byte_at S i hlt)] at c1 c2
      have HA := @all_take_snoc S LX.inWord i hlt hall
      have HB := @all_badp S LX.inWord i hlt
      have hin : LX.inWord S[i] = (LX.letter S[i] || VS.dig S[i]) := rfl
      rw [hin] at HA HB
      cases hl : LX.letter S[i] with
      | true =>
        rw [hl] at c1 HA
        have HN : Hid _ := HA rfl
        clear HA HB hin hl hall hlen hW c2
        go_wp2_with fail
        refine (c1 _).mono ?_
        rintro _ w1 ⟨rfl, rfl⟩
        go_wp2_with fail
        go_roundw
        case rel => exact ⟨i + 1, by go_num, HN.out, by omega, hfr⟩
        case measure => simp [intOf]; omega
      | false =>
        cases hd : VS.dig S[i] with
        | true =>
          rw [hl] at c1
          rw [hd] at c2
          rw [hl, hd] at HA
          have HN : Hid _ := HA rfl
          clear HA HB hin hl hd hall hlen hW
          go_wp2_with fail
          refine (c1 _).mono ?_
          rintro _ w1 ⟨rfl, rfl⟩
          go_wp2_with fail
          refine (c2 _).mono ?_
          rintro _ w2 ⟨rfl, rfl⟩
          go_wp2_with fail
          go_roundw
          case rel => exact ⟨i + 1, by go_num, HN.out, by omega, hfr⟩
          case measure => simp [intOf]; omega
        | false =>
          rw [hl] at c1
          rw [hd] at c2
          rw [hl, hd] at HB
          rw [HB rfl] at hW
          have HN : Hid (LX.isWd S.data.toList = false) := hW
          clear HA HB hin hl hd hall hlen hW
          go_wp2_with fail
          refine (c1 _).mono ?_
          rintro _ w1 ⟨rfl, rfl⟩
          go_wp2_with fail
          refine (c2 _).mono ?_
          rintro _ w2 ⟨rfl, rfl⟩
          go_wp2_with fail
          go_ret
          exact ⟨by rw [HN.out]; rfl, hfr⟩
    · obtain rfl : i = S.size := by omega
      rw [List.take_of_length_le (by omega)] at hall
      rw [hall, Bool.true_and] at hW
      have c1 : ∀ W, Calls Tryz.prog 43 #[.string S, .int .i64 0] W fun e w' => e = .returned (.bool (LX.at? LX.letter S.data.toList 0)) ∧ w' = W := fun W => rletter_any S 0 W
      have c2 := fun W => smallOf_any S W hs
      have hltZ : ¬ (S.size : Int) < (S.size : Int) := by omega
      cases h0 : LX.at? LX.letter S.data.toList 0 with
      | false =>
        rw [h0] at c1 hW
        have HN : Hid (LX.isWd S.data.toList = false) := hW
        clear h0 hW hall hlen c2
        go_wp2_with fail
        refine (c1 _).mono ?_
        rintro _ w1 ⟨rfl, rfl⟩
        go_wp2_with fail
        go_ret
        exact ⟨by rw [HN.out]; rfl, hfr⟩
      | true =>
        rw [h0, Bool.true_and] at hW
        rw [h0] at c1
        by_cases hq : S.data.toList.map LX.low = S.data.toList
        · rw [decide_eq_true hq] at hW
          rw [hq, ba_eta] at c2
          have HN : Hid (LX.isWd S.data.toList = true) := hW
          clear h0 hW hall hlen hq
          go_wp2_with fail
          refine (c1 _).mono ?_
          rintro _ w1 ⟨rfl, rfl⟩
          go_wp2_with fail
          refine (c2 _).mono ?_
          rintro _ w2 ⟨rfl, f2⟩
          have F2 : Hid (Fr w w2) := hfr.trans f2
          clear f2 c1 c2 hfr
          go_wp2_with fail
          go_ret
          exact ⟨by rw [HN.out]; rfl, F2.out⟩
        · rw [decide_eq_false hq] at hW
          have HN : Hid (LX.isWd S.data.toList = false) := hW
          have hne : ¬ (⟨(S.data.toList.map LX.low).toArray⟩ : ByteArray).toList = S.toList := fun c => hq (by
            rw [Lib.toList_data, Lib.toList_data] at c
            exact c)
          have n1 : ((⟨(S.data.toList.map LX.low).toArray⟩ : ByteArray).toList == S.toList) = false := by simpa using hne
          obtain ⟨X, hX⟩ : ∃ X : ByteArray, (⟨(S.data.toList.map LX.low).toArray⟩ : ByteArray) = X := ⟨_, rfl⟩
          rw [hX] at c2 hne n1
          clear h0 hW hall hlen hq hX
          go_wp2_with fail
          refine (c1 _).mono ?_
          rintro _ w1 ⟨rfl, rfl⟩
          go_wp2_with fail
          refine (c2 _).mono ?_
          rintro _ w2 ⟨rfl, f2⟩
          have F2 : Hid (Fr w w2) := hfr.trans f2
          clear f2 c1 c2 hfr
          go_wp2_with fail
          go_ret
          exact ⟨by rw [HN.out]; rfl, F2.out⟩
end Go.Proofs.YtoagobpkenfbkaaGreatDoor
