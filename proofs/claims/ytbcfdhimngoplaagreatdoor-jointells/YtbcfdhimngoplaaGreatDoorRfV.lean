/-
  What the document's own CheckValue answers.
-/
import Derived.Test.YtbcfdhimngoplaaGreatDoorGpB
namespace Go.Proofs.YtbcfdhimngoplaaGreatDoor
open Go.ChangeShapes Go.WideShapes Go.ChangeAt Go.RowKit
set_option linter.unusedVariables false
set_option linter.unusedSimpArgs false
set_option maxRecDepth 100000 in
set_option maxHeartbeats 1000000 in
theorem rcheck_any (k n : Int) (s : ByteArray) (w : World) :
  Calls Tryz.prog 89 #[.agg #[.int .i64 k, .int .i64 n, .string s]] w fun e w' => e = .returned (.int .i64 (VM.chk ⟨k, n, s⟩)) ∧ Fr w w' := by
 have hk : k < 0 ∨ k = 0 ∨ k = 1 ∨ k = 2 ∨ k = 3 ∨ 3 < k := by omega
 by_cases hz : s.size = 0
 ·
  obtain rfl : s = ⟨#[]⟩ := by
   have := (toList_nil s).2 hz
   rw [ByteArray.toList_eq] at this
   cases s
   simp_all
  clear hz
  rcases hk with hk | rfl | rfl | rfl | rfl | hk
  all_goals
   go_enter Tryz.func89, Tryz.ntmps89
   go_wp2
   all_goals
    go_ret
    refine ⟨ret_int ?_, (Fr.refl _).alloc _⟩
    try simp only [Bool.or_eq_true, Bool.and_eq_true, beq_iff_eq, bne_iff_ne, decide_eq_true_eq, Bool.not_eq_true', Bool.or_eq_false_iff, beq_eq_false_iff_ne] at *
    unfold VM.chk
    simp only [show (⟨#[]⟩ : ByteArray).size = 0 from rfl]
    repeat' split
    all_goals first | rfl | omega | (exfalso; simp_all)
 ·
  have h1 : (s.toList == []) = false := by simp only [beq_eq_false_iff_ne, ne_eq, toList_nil]; exact hz
  have h2 : (s.toList != []) = true := by simp only [bne_iff_ne, ne_eq, toList_nil]; exact hz
  have h3 : ¬ s.toList = [] := by rw [toList_nil]; exact hz
  rcases hk with hk | rfl | rfl | rfl | rfl | hk
  all_goals
   go_enter Tryz.func89, Tryz.ntmps89
   go_wp2
   all_goals
    clear h1 h2 h3
    go_ret
    refine ⟨ret_int ?_, (Fr.refl _).alloc _⟩
    try simp only [Bool.or_eq_true, Bool.and_eq_true, beq_iff_eq, bne_iff_ne, decide_eq_true_eq, Bool.not_eq_true', Bool.or_eq_false_iff, beq_eq_false_iff_ne, toList_nil] at *
    unfold VM.chk
    simp only
    repeat' split
    all_goals first | rfl | omega | (exfalso; simp_all)
end Go.Proofs.YtbcfdhimngoplaaGreatDoor
