/-
  What counterpart of package eval answers.
-/
import Derived.Test.YtjljohmflhmkmaaGreatDoorEvF
namespace Go.Proofs.YtjljohmflhmkmaaGreatDoor
open Go.ChangeShapes Go.WideShapes Go.ChangeAt Go.RowKit
set_option linter.unusedVariables false
set_option linter.unusedSimpArgs false
set_option maxRecDepth 100000
set_option maxHeartbeats 4000000

/-- the question that answers the other way round; 0, if there is none -/
def EV.cpt (op : Int) : Int := if op = 10 then 11 else if op = 11 then 10 else if op = 12 then 15 else if op = 15 then 12 else if op = 14 then 13 else if op = 13 then 14 else if op = 18 then 19 else if op = 19 then 18 else if op = 20 then 21 else if op = 21 then 20 else if op = 22 then 23 else if op = 23 then 22 else if op = 24 then 25 else if op = 25 then 24 else 0
theorem counterpart_any (op : Int) (w : World) (hTn : Tn w) :
    Calls Tryz.prog 70 #[.int .i64 op] w fun e w' => e = .returned (.tuple #[.int .i64 (EV.cpt op), .bool (decide (EV.cpt op ≠ 0))]) ∧ Fr w w' := by
  have g0 : w.cell? ⟨0, 0, none⟩ = some (.int .i64 10) := hTn 0 (by decide)
  have g1 : w.cell? ⟨0, 1, none⟩ = some (.int .i64 11) := hTn 1 (by decide)
  have g2 : w.cell? ⟨0, 2, none⟩ = some (.int .i64 12) := hTn 2 (by decide)
  have g3 : w.cell? ⟨0, 3, none⟩ = some (.int .i64 15) := hTn 3 (by decide)
  have g4 : w.cell? ⟨0, 4, none⟩ = some (.int .i64 14) := hTn 4 (by decide)
  have g5 : w.cell? ⟨0, 5, none⟩ = some (.int .i64 13) := hTn 5 (by decide)
  have g6 : w.cell? ⟨0, 6, none⟩ = some (.int .i64 18) := hTn 6 (by decide)
  have g7 : w.cell? ⟨0, 7, none⟩ = some (.int .i64 19) := hTn 7 (by decide)
  have g8 : w.cell? ⟨0, 8, none⟩ = some (.int .i64 20) := hTn 8 (by decide)
  have g9 : w.cell? ⟨0, 9, none⟩ = some (.int .i64 21) := hTn 9 (by decide)
  have g10 : w.cell? ⟨0, 10, none⟩ = some (.int .i64 22) := hTn 10 (by decide)
  have g11 : w.cell? ⟨0, 11, none⟩ = some (.int .i64 23) := hTn 11 (by decide)
  have g12 : w.cell? ⟨0, 12, none⟩ = some (.int .i64 24) := hTn 12 (by decide)
  have g13 : w.cell? ⟨0, 13, none⟩ = some (.int .i64 25) := hTn 13 (by decide)
  clear hTn
  go_enter Tryz.func70, Tryz.ntmps70
  go_wp2_with fail
  clear g0 g1 g2 g3 g4 g5 g6 g7 g8 g9 g10 g11 g12 g13
  go_loopw [5, 7, 10, 11, 17] (fun _ iv _ _ _ wr => ∃ i : Nat, iv = .int .i64 i ∧ i ≤ 7 ∧ (∀ j, j < 2 * i → op ≠ turnsL.getD j 0) ∧ Fr w wr) (fun _ iv _ _ _ _ => 7 - (intOf iv).toNat)
  case atStart => exact ⟨0, rfl, by omega, fun j hj => by omega, Fr.refl _⟩
  case round =>
    obtain ⟨i, rfl, hi, hno, hfr⟩ := hrel
    have HF := hideP hfr
    have HNo := hideP hno
    clear hfr hno
    match i, hi with
    | 0, _ =>
      have ik := trn_at0
      by_cases hp : op = 10
      · subst hp
        go_wp2_with fail
        go_ret2
        exact ⟨rfl, by first | exact HF.out.alloc _ | exact HF.out⟩
      have q1 : (op == 10) = false := by simpa using hp
      by_cases hq : op = 11
      · subst hq
        clear q1 hp
        go_wp2_with fail
        go_ret2
        exact ⟨rfl, by first | exact HF.out.alloc _ | exact HF.out⟩
      have q2 : (op == 11) = false := by simpa using hq
      have HP := hideP hp
      have HQ := hideP hq
      clear hp hq
      go_wp2_with fail
      go_roundw
      case rel =>
        refine ⟨1, by first | rfl | go_num, by omega, fun j hj => ?_, by first | exact HF.out.alloc _ | exact HF.out⟩
        by_cases h1 : j < 2 * 0
        · exact HNo.out j h1
        · obtain rfl | rfl : j = 0 ∨ j = 1 := by omega
          · exact HP.out
          · exact HQ.out
      case measure => simp [intOf]
    | 1, _ =>
      have ik := trn_at1
      by_cases hp : op = 12
      · subst hp
        go_wp2_with fail
        go_ret2
        exact ⟨rfl, by first | exact HF.out.alloc _ | exact HF.out⟩
      have q1 : (op == 12) = false := by simpa using hp
      by_cases hq : op = 15
      · subst hq
        clear q1 hp
        go_wp2_with fail
        go_ret2
        exact ⟨rfl, by first | exact HF.out.alloc _ | exact HF.out⟩
      have q2 : (op == 15) = false := by simpa using hq
      have HP := hideP hp
      have HQ := hideP hq
      clear hp hq
      go_wp2_with fail
      go_roundw
      case rel =>
        refine ⟨2, by first | rfl | go_num, by omega, fun j hj => ?_, by first | exact HF.out.alloc _ | exact HF.out⟩
        by_cases h1 : j < 2 * 1
        · exact HNo.out j h1
        · obtain rfl | rfl : j = 2 ∨ j = 3 := by omega
          · exact HP.out
          · exact HQ.out
      case measure => simp [intOf]
    | 2, _ =>
      have ik := trn_at2
      by_cases hp : op = 14
      · subst hp
        go_wp2_with fail
        go_ret2
        exact ⟨rfl, by first | exact HF.out.alloc _ | exact HF.out⟩
      have q1 : (op == 14) = false := by simpa using hp
      by_cases hq : op = 13
      · subst hq
        clear q1 hp
        go_wp2_with fail
        go_ret2
        exact ⟨rfl, by first | exact HF.out.alloc _ | exact HF.out⟩
      have q2 : (op == 13) = false := by simpa using hq
      have HP := hideP hp
      have HQ := hideP hq
      clear hp hq
      go_wp2_with fail
      go_roundw
      case rel =>
        refine ⟨3, by first | rfl | go_num, by omega, fun j hj => ?_, by first | exact HF.out.alloc _ | exact HF.out⟩
        by_cases h1 : j < 2 * 2
        · exact HNo.out j h1
        · obtain rfl | rfl : j = 4 ∨ j = 5 := by omega
          · exact HP.out
          · exact HQ.out
      case measure => simp [intOf]
    | 3, _ =>
      have ik := trn_at3
      by_cases hp : op = 18
      · subst hp
        go_wp2_with fail
        go_ret2
        exact ⟨rfl, by first | exact HF.out.alloc _ | exact HF.out⟩
      have q1 : (op == 18) = false := by simpa using hp
      by_cases hq : op = 19
      · subst hq
        clear q1 hp
        go_wp2_with fail
        go_ret2
        exact ⟨rfl, by first | exact HF.out.alloc _ | exact HF.out⟩
      have q2 : (op == 19) = false := by simpa using hq
      have HP := hideP hp
      have HQ := hideP hq
      clear hp hq
      go_wp2_with fail
      go_roundw
      case rel =>
        refine ⟨4, by first | rfl | go_num, by omega, fun j hj => ?_, by first | exact HF.out.alloc _ | exact HF.out⟩
        by_cases h1 : j < 2 * 3
        · exact HNo.out j h1
        · obtain rfl | rfl : j = 6 ∨ j = 7 := by omega
          · exact HP.out
          · exact HQ.out
      case measure => simp [intOf]
    | 4, _ =>
      have ik := trn_at4
      by_cases hp : op = 20
      · subst hp
        go_wp2_with fail
        go_ret2
        exact ⟨rfl, by first | exact HF.out.alloc _ | exact HF.out⟩
      have q1 : (op == 20) = false := by simpa using hp
      by_cases hq : op = 21
      · subst hq
        clear q1 hp
        go_wp2_with fail
        go_ret2
        exact ⟨rfl, by first | exact HF.out.alloc _ | exact HF.out⟩
      have q2 : (op == 21) = false := by simpa using hq
      have HP := hideP hp
      have HQ := hideP hq
      clear hp hq
      go_wp2_with fail
      go_roundw
      case rel =>
        refine ⟨5, by first | rfl | go_num, by omega, fun j hj => ?_, by first | exact HF.out.alloc _ | exact HF.out⟩
        by_cases h1 : j < 2 * 4
        · exact HNo.out j h1
        · obtain rfl | rfl : j = 8 ∨ j = 9 := by omega
          · exact HP.out
          · exact HQ.out
      case measure => simp [intOf]
    | 5, _ =>
      have ik := trn_at5
      by_cases hp : op = 22
      · subst hp
        go_wp2_with fail
        go_ret2
        exact ⟨rfl, by first | exact HF.out.alloc _ | exact HF.out⟩
      have q1 : (op == 22) = false := by simpa using hp
      by_cases hq : op = 23
      · subst hq
        clear q1 hp
        go_wp2_with fail
        go_ret2
        exact ⟨rfl, by first | exact HF.out.alloc _ | exact HF.out⟩
      have q2 : (op == 23) = false := by simpa using hq
      have HP := hideP hp
      have HQ := hideP hq
      clear hp hq
      go_wp2_with fail
      go_roundw
      case rel =>
        refine ⟨6, by first | rfl | go_num, by omega, fun j hj => ?_, by first | exact HF.out.alloc _ | exact HF.out⟩
        by_cases h1 : j < 2 * 5
        · exact HNo.out j h1
        · obtain rfl | rfl : j = 10 ∨ j = 11 := by omega
          · exact HP.out
          · exact HQ.out
      case measure => simp [intOf]
    | 6, _ =>
      have ik := trn_at6
      by_cases hp : op = 24
      · subst hp
        go_wp2_with fail
        go_ret2
        exact ⟨rfl, by first | exact HF.out.alloc _ | exact HF.out⟩
      have q1 : (op == 24) = false := by simpa using hp
      by_cases hq : op = 25
      · subst hq
        clear q1 hp
        go_wp2_with fail
        go_ret2
        exact ⟨rfl, by first | exact HF.out.alloc _ | exact HF.out⟩
      have q2 : (op == 25) = false := by simpa using hq
      have HP := hideP hp
      have HQ := hideP hq
      clear hp hq
      go_wp2_with fail
      go_roundw
      case rel =>
        refine ⟨7, by first | rfl | go_num, by omega, fun j hj => ?_, by first | exact HF.out.alloc _ | exact HF.out⟩
        by_cases h1 : j < 2 * 6
        · exact HNo.out j h1
        · obtain rfl | rfl : j = 12 ∨ j = 13 := by omega
          · exact HP.out
          · exact HQ.out
      case measure => simp [intOf]
    | 7, _ =>
      have hz : EV.cpt op = 0 := by
        have h0 : op ≠ 10 := HNo.out 0 (by decide)
        have h1 : op ≠ 11 := HNo.out 1 (by decide)
        have h2 : op ≠ 12 := HNo.out 2 (by decide)
        have h3 : op ≠ 15 := HNo.out 3 (by decide)
        have h4 : op ≠ 14 := HNo.out 4 (by decide)
        have h5 : op ≠ 13 := HNo.out 5 (by decide)
        have h6 : op ≠ 18 := HNo.out 6 (by decide)
        have h7 : op ≠ 19 := HNo.out 7 (by decide)
        have h8 : op ≠ 20 := HNo.out 8 (by decide)
        have h9 : op ≠ 21 := HNo.out 9 (by decide)
        have h10 : op ≠ 22 := HNo.out 10 (by decide)
        have h11 : op ≠ 23 := HNo.out 11 (by decide)
        have h12 : op ≠ 24 := HNo.out 12 (by decide)
        have h13 : op ≠ 25 := HNo.out 13 (by decide)
        unfold EV.cpt
        rw [if_neg h0, if_neg h1, if_neg h2, if_neg h3, if_neg h4, if_neg h5, if_neg h6, if_neg h7, if_neg h8, if_neg h9, if_neg h10, if_neg h11, if_neg h12, if_neg h13]
      have HZ := hideP hz
      clear hz
      go_wp2_with fail
      go_ret2
      exact ⟨by rw [HZ.out]; rfl, HF.out⟩
end Go.Proofs.YtjljohmflhmkmaaGreatDoor
