/-
  The document's own ReservedWord.
-/
import Derived.Test.YtoagobpkenfbkaaGreatDoorLzF
namespace Go.Proofs.YtoagobpkenfbkaaGreatDoor
open Go.ChangeShapes Go.WideShapes Go.ChangeAt Go.RowKit Go.Shelf
set_option linter.unusedVariables false
set_option linter.unusedSimpArgs false
set_option maxRecDepth 100000

def allB : ByteArray := ⟨#[32, 97, 110, 100, 32, 97, 110, 121, 32, 97, 115, 32, 97, 115, 99, 32, 98, 101, 103, 105, 110, 32, 98, 101, 116, 119, 101, 101, 110, 32, 98, 108, 111, 98, 32, 98, 121, 32, 99, 111, 109, 109, 105, 116, 32, 99, 111, 117, 110, 116, 32, 99, 114, 101, 97, 116, 101, 32, 100, 101, 108, 101, 116, 101, 32, 100, 101, 115, 99, 32, 100, 105, 115, 116, 105, 110, 99, 116, 32, 100, 114, 111, 112, 32, 102, 114, 111, 109, 32, 103, 114, 111, 117, 112, 32, 105, 110, 32, 105, 110, 115, 101, 114, 116, 32, 105, 110, 116, 101, 103, 101, 114, 32, 105, 110, 116, 111, 32, 105, 115, 32, 108, 105, 107, 101, 32, 108, 105, 109, 105, 116, 32, 109, 97, 120, 32, 109, 105, 110, 32, 110, 111, 116, 32, 110, 117, 108, 108, 32, 111, 102, 102, 115, 101, 116, 32, 111, 114, 32, 111, 114, 100, 101, 114, 32, 114, 111, 108, 108, 98, 97, 99, 107, 32, 115, 101, 108, 101, 99, 116, 32, 115, 101, 116, 32, 115, 117, 109, 32, 116, 97, 98, 108, 101, 32, 116, 101, 120, 116, 32, 117, 110, 105, 113, 117, 101, 32, 117, 112, 100, 97, 116, 101, 32, 118, 97, 108, 117, 101, 115, 32, 119, 104, 101, 114, 101, 32]⟩
theorem allB_list : allB.data.toList = LX.rall := by decide +kernel
theorem allB_size : allB.size = 227 := by rw [← ba_len, allB_list]; decide +kernel

set_option maxHeartbeats 2000000 in
theorem resWord_any (S : ByteArray) (w : World) (hs : S.size ≤ 140737488355327) : Calls Tryz.prog 16 #[.string S] w fun e w' => e = .returned (.bool (decide (S.data.toList ∈ LX.rsv))) ∧ Fr w w' := by
  obtain ⟨A, hA⟩ : ∃ A : ByteArray, (⟨#[32, 97, 110, 100, 32, 97, 110, 121, 32, 97, 115, 32, 97, 115, 99, 32, 98, 101, 103, 105, 110, 32, 98, 101, 116, 119, 101, 101, 110, 32, 98, 108, 111, 98, 32, 98, 121, 32, 99, 111, 109, 109, 105, 116, 32, 99, 111, 117, 110, 116, 32, 99, 114, 101, 97, 116, 101, 32, 100, 101, 108, 101, 116, 101, 32, 100, 101, 115, 99, 32, 100, 105, 115, 116, 105, 110, 99, 116, 32, 100, 114, 111, 112, 32, 102, 114, 111, 109, 32, 103, 114, 111, 117, 112, 32, 105, 110, 32, 105, 110, 115, 101, 114, 116, 32, 105, 110, 116, 101, 103, 101, 114, 32, 105, 110, 116, 111, 32, 105, 115, 32, 108, 105, 107, 101, 32, 108, 105, 109, 105, 116, 32, 109, 97, 120, 32, 109, 105, 110, 32, 110, 111, 116, 32, 110, 117, 108, 108, 32, 111, 102, 102, 115, 101, 116, 32, 111, 114, 32, 111, 114, 100, 101, 114, 32, 114, 111, 108, 108, 98, 97, 99, 107, 32, 115, 101, 108, 101, 99, 116, 32, 115, 101, 116, 32, 115, 117, 109, 32, 116, 97, 98, 108, 101, 32, 116, 101, 120, 116, 32, 117, 110, 105, 113, 117, 101, 32, 117, 112, 100, 97, 116, 101, 32, 118, 97, 108, 117, 101, 115, 32, 119, 104, 101, 114, 101, 32]⟩ : ByteArray) = A := ⟨_, rfl⟩
  have hAl : A.data.toList = LX.rall := by rw [← hA]; exact allB_list
  have hAs : A.size = 227 := by rw [← hA]; exact allB_size
  have hR := LX.rsv_found S.data.toList
  have hWd := LX.rsv_wd S.data.toList
  have hF := @LX.rsv_of_found S.data.toList
  have hll := ba_len S
  have hrl : LX.rall.length = 227 := by rw [← hAl, ba_len]; exact hAs
  rw [hll, hrl] at hR
  rw [hll, hrl] at hF
  have cw := fun W => isWord_any S W (by omega)
  have HQ : Hid ((⟨#[32]⟩ ++ S ++ ⟨#[32]⟩ : ByteArray).data.toList = 32 :: (S.data.toList ++ [32])) := by
    unfold Hid
    rw [dataApp, dataApp]
    rfl
  have HA : Hid _ := hAl
  have HR : Hid _ := hR
  have HW : Hid _ := hWd
  have HF : Hid _ := hF
  have HH : Hid _ := hA
  clear hAl hR hWd hF hrl
  go_enter Tryz.func16, Tryz.ntmps16
  go_wp2_with fail
  clear hA
  go_loopw [5] (fun iv wr => ∃ (i : Nat), iv = .int .i64 i ∧ i ≤ 300 ∧ (S.data.toList ∈ LX.rsv → i ≤ LX.at_ S.data.toList) ∧ Fr w wr) (fun iv _ => 300 - (intOf iv).toNat)
  case atStart => exact ⟨0, rfl, by omega, fun _ => Nat.zero_le _, Fr.refl _⟩
  case round =>
    obtain ⟨i, rfl, hi, hin, hfr⟩ := hrel
    by_cases hlt : i + S.size + 2 ≤ 227
    · have hz1 : (i : Int) + (S.size : Int) + 2 ≤ 227 := by omega
      have hz2 : (i : Int) ≤ (i : Int) + (S.size : Int) + 2 := by omega
      have hs1 : 1 + S.size ≤ 9223372036854775807 := by omega
      have hs2 : 1 + S.size + 1 ≤ 9223372036854775807 := by omega
      have hP : (A.extract i (i + S.size + 2)).data.toList = (LX.rall.drop i).take (S.size + 2) := by
        rw [← HA.out]
        rw [ByteArray.data_extract, Array.toList_extract, List.extract_eq_take_drop]
        congr 1
        omega
      have HIN : Hid _ := hin
      by_cases hE : A.extract i (i + S.size + 2) = ⟨#[32]⟩ ++ S ++ ⟨#[32]⟩
      · have hfound : (LX.rall.drop i).take (S.size + 2) = 32 :: (S.data.toList ++ [32]) := by rw [← hP, hE]; exact HQ.out
        cases hwd : LX.isWd S.data.toList with
        | true =>
          have hmem := HF.out hwd i hlt hfound
          have HM : Hid (decide (S.data.toList ∈ LX.rsv) = true) := decide_eq_true hmem
          rw [hwd] at cw
          clear hfound hwd hmem hP hin hll
          go_wp2_with fail
          refine (cw _).mono ?_
          rintro _ w1 ⟨rfl, f1⟩
          have F1 : Hid (Fr w w1) := hfr.trans f1
          clear f1 hfr cw hE
          go_wp2_with fail
          go_ret
          exact ⟨by rw [HM.out]; rfl, F1.out⟩
        | false =>
          rw [hwd] at cw
          have HN : Hid (S.data.toList ∈ LX.rsv → i + 1 ≤ LX.at_ S.data.toList) := fun c => by
            have := HW.out c
            rw [hwd] at this
            cases this
          clear hfound hwd hP hin hll
          go_wp2_with fail
          refine (cw _).mono ?_
          rintro _ w1 ⟨rfl, f1⟩
          have F1 : Hid (Fr w w1) := hfr.trans f1
          clear f1 hfr cw hE
          go_wp2_with fail
          go_roundw
          case rel => exact ⟨i + 1, by go_num, by omega, HN.out, F1.out⟩
          case measure => simp [intOf]; omega
      · have hne : ¬ (A.extract i (i + S.size + 2)).toList = (⟨#[32]⟩ ++ S ++ ⟨#[32]⟩ : ByteArray).toList := fun c => hE (by
          rw [Lib.toList_data, Lib.toList_data] at c
          rw [← ba_eta (A.extract i (i + S.size + 2)), c, ba_eta])
        have n1 : ((A.extract i (i + S.size + 2)).toList == (⟨#[32]⟩ ++ S ++ ⟨#[32]⟩ : ByteArray).toList) = false := by simpa using hne
        have HN : Hid (S.data.toList ∈ LX.rsv → i + 1 ≤ LX.at_ S.data.toList) := fun c => by
          have h1 := HIN.out c
          have h2 := (HR.out c).2
          by_cases h3 : i = LX.at_ S.data.toList
          · exfalso
            rw [← h3, ← hP] at h2
            refine hE ?_
            rw [← ba_eta (A.extract i (i + S.size + 2)), h2, ← HQ.out, ba_eta]
          · omega
        clear hP hin hll hE cw
        go_wp2_with fail
        go_roundw
        case rel => exact ⟨i + 1, by go_num, by omega, HN.out, hfr⟩
        case measure => simp [intOf]; omega
    · have hz1 : ¬ ((i : Int) + (S.size : Int) + 2 ≤ 227) := by omega
      have hz3 : (227 : Int) < (i : Int) + (S.size : Int) + 2 := by omega
      have HM : Hid (decide (S.data.toList ∈ LX.rsv) = false) := decide_eq_false (fun c => by
        have h1 := hin c
        have h2 := (HR.out c).1
        omega)
      clear hin hll cw
      go_wp2_with fail
      go_ret
      exact ⟨by rw [HM.out]; rfl, hfr⟩
end Go.Proofs.YtoagobpkenfbkaaGreatDoor
