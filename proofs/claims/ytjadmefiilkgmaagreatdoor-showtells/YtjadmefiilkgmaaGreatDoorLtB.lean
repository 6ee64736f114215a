/-
  What the document's own functions answer that read digits: allDigits, lessDigits, IntOf.
-/
import Derived.Test.YtjadmefiilkgmaaGreatDoorLtA
namespace Go.Proofs.YtjadmefiilkgmaaGreatDoor
open Go.ChangeShapes Go.WideShapes Go.ChangeAt Go.RowKit
set_option linter.unusedVariables false
set_option linter.unusedSimpArgs false
set_option maxRecDepth 100000

theorem dlen (S : ByteArray) : S.data.toList.length = S.size := by rw [Array.length_toList]; rfl
theorem dget (S : ByteArray) (i : Nat) (h : i < S.size) : S.data.toList[i]'(by rw [dlen]; exact h) = S[i] := rfl
theorem all_take {l : List UInt8} {i : Nat} (h : i < l.length) (h1 : (l.take i).all VS.dig = true) (h2 : VS.dig l[i] = true) : (l.take (i + 1)).all VS.dig = true := by
  rw [List.take_succ_eq_append_getElem h, List.all_append, h1]
  simpa using h2
theorem all_false {l : List UInt8} {i : Nat} (h : i < l.length) (h2 : VS.dig l[i] = false) : l.all VS.dig = false := by
  rw [Bool.eq_false_iff]
  intro ha
  rw [List.all_eq_true] at ha
  have := ha _ (List.getElem_mem h)
  rw [h2] at this
  cases this

set_option maxHeartbeats 1000000 in
theorem allDigits_any (S : ByteArray) (w : World) (hs : S.size ≤ 140737488355327) :
    Calls Tryz.prog 74 #[.string S] w fun e w' => e = .returned (.bool (VS.adg S.data.toList)) ∧ w' = w := by
  obtain ⟨B, hB⟩ : ∃ B, VS.adg S.data.toList = B := ⟨_, rfl⟩
  rw [hB]
  have HB : Hid _ := hB
  clear hB
  go_enter Tryz.func74, Tryz.ntmps74
  go_wp2_with fail
  go_loopw [3] (fun iv wr => ∃ i : Nat, iv = .int .i64 i ∧ i ≤ S.size ∧ (S.data.toList.take i).all VS.dig = true ∧ wr = w) (fun iv _ => S.size - (intOf iv).toNat)
  case atStart => exact ⟨0, rfl, Nat.zero_le _, rfl, rfl⟩
  case round =>
    obtain ⟨i, rfl, hi, hall, rfl⟩ := hrel
    by_cases hlt : i < S.size
    · have hltZ : (i : Int) < (S.size : Int) := by omega
      have hl : i < S.data.toList.length := by rw [dlen]; exact hlt
      have hg := dget S i hlt
      by_cases hd : VS.dig S[i] = true
      · have hb := VS.dig_iff.1 hd
        have HA : Hid _ := all_take hl hall (by rw [hg]; exact hd)
        have q1 : ¬ (S[i].toNat : Int) < 48 := by omega
        have q2 : ¬ (57 : Int) < (S[i].toNat : Int) := by omega
        have q3 : (48 : Int) ≤ (S[i].toNat : Int) := by omega
        have q4 : (S[i].toNat : Int) ≤ 57 := by omega
        have q5 : 48 ≤ S[i].toNat := by omega
        have q6 : S[i].toNat ≤ 57 := by omega
        clear hall hd hb hg
        go_wp2_with fail
        go_roundw
        case rel => exact ⟨i + 1, by go_num, by omega, HA.out, by first | rfl | trivial⟩
        case measure => simp [intOf]; omega
      · have hd' : VS.dig S[i] = false := by simpa using hd
        have HE : Hid (B = false) := by
          unfold Hid
          rw [← HB.out]
          unfold VS.adg
          rw [all_false hl (by rw [hg]; exact hd'), Bool.false_and]
        have hn : S[i].toNat < 48 ∨ (48 ≤ S[i].toNat ∧ 57 < S[i].toNat) := by
          have : ¬ (48 ≤ S[i].toNat ∧ S[i].toNat ≤ 57) := fun h => hd (VS.dig_iff.2 h)
          omega
        clear hall hd hd' hg HB
        rcases hn with hn | ⟨hn, hm⟩
        · have q1 : (S[i].toNat : Int) < 48 := by omega
          go_wp2_with fail
          go_ret
          exact ⟨by rw [HE.out]; rfl, by first | rfl | trivial⟩
        · have q1 : (48 : Int) ≤ (S[i].toNat : Int) := by omega
          have q2 : (57 : Int) < (S[i].toNat : Int) := by omega
          go_wp2_with fail
          go_ret
          exact ⟨by rw [HE.out]; rfl, by first | rfl | trivial⟩
    · obtain rfl : i = S.size := by omega
      have e1 : S.data.toList.take S.size = S.data.toList := List.take_of_length_le (by rw [dlen]; exact Nat.le_refl _)
      rw [e1] at hall
      have hltZ : ¬ (S.size : Int) < (S.size : Int) := by omega
      have HE : Hid (B = (decide (S.size = 1) || (decide (1 < S.size) && !decide (S.data.toList.head? = some 48)))) := by
        unfold Hid
        rw [← HB.out]
        unfold VS.adg
        rw [hall, Bool.true_and, dlen]
      clear hall e1 HB
      by_cases h1 : S.size = 1
      · have HT : Hid (B = true) := by unfold Hid; rw [HE.out]; simp [h1]
        have h1' : (S.size : Int) = 1 := by omega
        clear HE
        go_wp2_with fail
        go_ret
        exact ⟨by rw [HT.out]; rfl, by first | rfl | trivial⟩
      · have h1' : ¬ (S.size : Int) = 1 := by omega
        have h1b : ((S.size : Int) == 1) = false := by rw [beq_eq_false_iff_ne]; omega
        by_cases h2 : 1 < S.size
        · have h2' : (1 : Int) < (S.size : Int) := by omega
          have hp : 0 < S.size := by omega
          have hp' : (0 : Int) < (S.size : Int) := by omega
          have hh : S.data.toList.head? = some S[0] := by
            rw [List.head?_eq_getElem?, List.getElem?_eq_getElem (by rw [dlen]; exact hp)]
            rfl
          by_cases h48 : S[0].toNat = 48
          · have HT : Hid (B = false) := by
              unfold Hid
              have e0 : S[0] = 48 := UInt8.toNat_inj.1 h48
              rw [HE.out, hh, e0]
              simp [h1]
            have h48' : (S[0].toNat : Int) = 48 := by omega
            clear HE hh
            go_wp2_with fail
            go_ret
            exact ⟨by rw [HT.out]; rfl, by first | rfl | trivial⟩
          · have HT : Hid (B = true) := by
              unfold Hid
              have e0 : S[0] ≠ 48 := fun e => h48 (by rw [e]; rfl)
              rw [HE.out, hh]
              simp [h2, e0]
            have h48' : ¬ (S[0].toNat : Int) = 48 := by omega
            have h48b : ((S[0].toNat : Int) != 48) = true := by simp; omega
            clear HE hh
            go_wp2_with fail
            go_ret
            exact ⟨by rw [HT.out]; rfl, by first | rfl | trivial⟩
        · have HT : Hid (B = false) := by unfold Hid; rw [HE.out]; simp [h1, h2]
          have h2' : ¬ (1 : Int) < (S.size : Int) := by omega
          have h0 : S.size = 0 := by omega
          have h0' : (S.size : Int) = 0 := by omega
          clear HE
          go_wp2_with fail
          go_ret
          exact ⟨by rw [HT.out]; rfl, by first | rfl | trivial⟩

theorem lessDigits_any (S T : ByteArray) (w : World) (hs : S.size ≤ maxLen) (ht : T.size ≤ maxLen) :
    Calls Tryz.prog 75 #[.string S, .string T] w fun e w' => e = .returned (.bool (VS.lsd S.data.toList T.data.toList)) ∧ Fr w w' := by
  have hc := fun W => textLess_any T S W ht hs
  have HE : Hid (VS.lsd S.data.toList T.data.toList = (decide (S.size < T.size) || (decide (S.size = T.size) && !decide (Lib.compareBytes T.data.toList S.data.toList < 0)))) := by
    unfold Hid VS.lsd
    rw [dlen, dlen]
  generalize VS.lsd S.data.toList T.data.toList = B at *
  generalize decide (Lib.compareBytes T.data.toList S.data.toList < 0) = q at *
  rcases Nat.lt_trichotomy S.size T.size with h | h | h
  · have HT : Hid (B = true) := by unfold Hid; rw [HE.out]; simp [h]
    have h' : (S.size : Int) < (T.size : Int) := by omega
    clear HE hc
    go_enter Tryz.func75, Tryz.ntmps75
    go_wp2_with fail
    go_ret
    exact ⟨by rw [HT.out]; rfl, Fr.refl _⟩
  · have HT : Hid (B = !q) := by unfold Hid; rw [HE.out]; simp [h]
    have h1 : ¬ (S.size : Int) < (T.size : Int) := by omega
    have h2 : (S.size : Int) = (T.size : Int) := by omega
    have h3 : (T.size : Int) ≤ (S.size : Int) := by omega
    have h4 : decide ((S.size : Int) < (T.size : Int)) = false := by rw [decide_eq_false_iff_not]; omega
    have h5 : ((S.size : Int) == (T.size : Int)) = true := by rw [beq_iff_eq]; omega
    clear HE h h2
    go_enter Tryz.func75, Tryz.ntmps75
    go_wp2_with fail
    refine (hc _).mono ?_
    rintro _ w1 ⟨rfl, f1⟩
    have F1 : Hid _ := f1
    clear f1 hc
    go_wp2_with fail
    go_ret
    exact ⟨by rw [HT.out]; rfl, F1.out⟩
  · have HT : Hid (B = false) := by unfold Hid; rw [HE.out]; simp; omega
    have h1 : ¬ (S.size : Int) < (T.size : Int) := by omega
    have h2 : ¬ (S.size : Int) = (T.size : Int) := by omega
    have h3 : (T.size : Int) ≤ (S.size : Int) := by omega
    have h4 : ((S.size : Int) == (T.size : Int)) = false := by rw [beq_eq_false_iff_ne]; omega
    clear HE hc
    go_enter Tryz.func75, Tryz.ntmps75
    go_wp2_with fail
    go_ret
    exact ⟨by rw [HT.out]; rfl, Fr.refl _⟩
end Go.Proofs.YtjadmefiilkgmaaGreatDoor
