/-
  What the document's own counterOf answers.
-/
import Derived.Test.YtjboeabddnnlcaaGreatDoorEvS
namespace Go.Proofs.YtjboeabddnnlcaaGreatDoor
open Go.ChangeShapes Go.WideShapes Go.ChangeAt Go.RowKit
set_option linter.unusedVariables false
set_option linter.unusedSimpArgs false
set_option maxRecDepth 100000
set_option maxHeartbeats 2000000

def pairsL : List Int := [10, 11, 12, 15, 13, 14, 18, 19, 20, 21, 22, 23, 24, 25]
theorem pairs_at : ∀ i, i < 14 → EV.cpt (pairsL.getD i 0) = if i % 2 = 0 then pairsL.getD (i + 1) 0 else pairsL.getD (i - 1) 0 := by decide
theorem pairs_none {op : Int} (h : ∀ i, i < 14 → pairsL.getD i 0 ≠ op) : EV.cpt op = 0 := by
  have h0 : op ≠ 10 := fun e => h 0 (by omega) e.symm
  have h1 : op ≠ 11 := fun e => h 1 (by omega) e.symm
  have h2 : op ≠ 12 := fun e => h 2 (by omega) e.symm
  have h3 : op ≠ 15 := fun e => h 3 (by omega) e.symm
  have h4 : op ≠ 13 := fun e => h 4 (by omega) e.symm
  have h5 : op ≠ 14 := fun e => h 5 (by omega) e.symm
  have h6 : op ≠ 18 := fun e => h 6 (by omega) e.symm
  have h7 : op ≠ 19 := fun e => h 7 (by omega) e.symm
  have h8 : op ≠ 20 := fun e => h 8 (by omega) e.symm
  have h9 : op ≠ 21 := fun e => h 9 (by omega) e.symm
  have h10 : op ≠ 22 := fun e => h 10 (by omega) e.symm
  have h11 : op ≠ 23 := fun e => h 11 (by omega) e.symm
  have h12 : op ≠ 24 := fun e => h 12 (by omega) e.symm
  have h13 : op ≠ 25 := fun e => h 13 (by omega) e.symm
  unfold EV.cpt
  rw [if_neg h0, if_neg h1, if_neg h2, if_neg h3, if_neg h5, if_neg h4, if_neg h6, if_neg h7, if_neg h8, if_neg h9, if_neg h10, if_neg h11, if_neg h12, if_neg h13]
theorem counterOf_any (op : Int) (w : World) : Calls Tryz.prog 96 #[.int .i64 op] w fun e w' => e = .returned (.int .i64 (EV.cpt op)) ∧ Fr w w' := by
  have HB : Hid (∀ i, i < 14 → (w.alloc (.cells #[.int .i64 10, .int .i64 11, .int .i64 12, .int .i64 15, .int .i64 13, .int .i64 14, .int .i64 18, .int .i64 19, .int .i64 20, .int .i64 21, .int .i64 22, .int .i64 23, .int .i64 24, .int .i64 25] 3)).cell? ⟨w.heap.size, i, none⟩ = some (.int .i64 (pairsL.getD i 0))) := by
    intro i hi
    refine (Blk.new w _ _).cell i ?_
    match i, hi with
    | 0, _ => rfl
    | 1, _ => rfl
    | 2, _ => rfl
    | 3, _ => rfl
    | 4, _ => rfl
    | 5, _ => rfl
    | 6, _ => rfl
    | 7, _ => rfl
    | 8, _ => rfl
    | 9, _ => rfl
    | 10, _ => rfl
    | 11, _ => rfl
    | 12, _ => rfl
    | 13, _ => rfl
  have F1 := hideP ((Fr.refl w).alloc (.cells #[.int .i64 10, .int .i64 11, .int .i64 12, .int .i64 15, .int .i64 13, .int .i64 14, .int .i64 18, .int .i64 19, .int .i64 20, .int .i64 21, .int .i64 22, .int .i64 23, .int .i64 24, .int .i64 25] 3))
  have HPa := hideP (fun i hi => pairs_at i hi)
  have HPn := hideP (fun h => pairs_none (op := op) h)
  obtain ⟨cp, hcp0⟩ : ∃ cp, EV.cpt op = cp := ⟨_, rfl⟩
  have HCp := hideP hcp0
  rw [hcp0]
  clear hcp0
  go_enter Tryz.func96, Tryz.ntmps96
  go_wp2_with fail
  generalize w.alloc (.cells #[.int .i64 10, .int .i64 11, .int .i64 12, .int .i64 15, .int .i64 13, .int .i64 14, .int .i64 18, .int .i64 19, .int .i64 20, .int .i64 21, .int .i64 22, .int .i64 23, .int .i64 24, .int .i64 25] 3) = W at *
  go_loopw [4] (fun iv wr => ∃ i : Nat, iv = .int .i64 i ∧ i ≤ 14 ∧ (∀ j, j < i → pairsL.getD j 0 ≠ op) ∧ wr = W) (fun iv _ => 14 - (intOf iv).toNat)
  case atStart => exact ⟨0, rfl, by omega, fun j hj => by omega, rfl⟩
  case round =>
    obtain ⟨i, rfl, hi, hno, rfl⟩ := hrel
    have HNo := hideP hno
    clear hno
    by_cases hlt : i < 14
    · have hlt' : (i : Int) < 14 := by omega
      have c0 := HB.out i hlt
      by_cases heq : pairsL.getD i 0 = op
      · have hcp := HPa.out i hlt
        rw [heq, HCp.out] at hcp
        have HE := hideP heq
        rw [heq] at c0
        clear heq
        by_cases hpar : i % 2 = 0
        · rw [if_pos hpar] at hcp
          have hp1 : Int.tmod (i : Int) 2 = 0 := by rw [Int.tmod_eq_emod_of_nonneg (by omega)]; omega
          have hp2 : (Int.tmod (i : Int) 2 == 0) = true := by rw [hp1]; rfl
          have hi1 : i + 1 < 14 := by omega
          have hi2 : (i : Int) + 1 < 14 := by omega
          have c1 := HB.out (i + 1) hi1
          rw [← hcp] at c1
          clear hcp
          go_wp2_with fail
          go_ret
          exact ⟨rfl, F1.out⟩
        · rw [if_neg hpar] at hcp
          obtain ⟨k, rfl⟩ : ∃ k, i = k + 1 := ⟨i - 1, by omega⟩
          have hp1 : ¬ Int.tmod ((k : Int) + 1) 2 = 0 := by rw [Int.tmod_eq_emod_of_nonneg (by omega)]; omega
          have hp2 : (Int.tmod ((k : Int) + 1) 2 == 0) = false := by rw [beq_eq_false_iff_ne]; exact hp1
          have c1 := HB.out k (by omega)
          rw [show k + 1 - 1 = k by omega] at hcp
          rw [← hcp] at c1
          have hi2 : (k : Int) + 1 < 14 := by omega
          clear hcp
          go_wp2_with fail
          go_ret
          exact ⟨rfl, F1.out⟩
      · have heq2 : (pairsL.getD i 0 == op) = false := by rw [beq_eq_false_iff_ne]; exact heq
        have HNe : Hid (∀ j, j < i + 1 → pairsL.getD j 0 ≠ op) := by
          intro j hj
          by_cases h1 : j < i
          · exact HNo.out j h1
          · obtain rfl : j = i := by omega
            exact heq
        generalize pairsL.getD i 0 = pv at *
        go_wp2_with fail
        go_roundw
        case rel => exact ⟨i + 1, by go_num, by omega, HNe.out, by first | rfl | trivial⟩
        case measure => simp [intOf]; omega
    · obtain rfl : i = 14 := by omega
      have HZ : Hid (cp = 0) := by
        unfold Hid
        rw [← HCp.out]
        exact HPn.out HNo.out
      go_wp2_with fail
      go_ret
      exact ⟨ret_int (by rw [HZ.out]), F1.out⟩
end Go.Proofs.YtjboeabddnnlcaaGreatDoor
