/-
  The examples that the statements on truth values hold first are met.
-/
import Derived.Test.YtppbmkkkjjkiiaaAsksBt
namespace Go.Proofs.Ytppbmkkkjjkiiaa
open Go.ChangeShapes Go.WideShapes Go.ChangeAt Go.RowKit
set_option linter.unusedVariables false
set_option linter.unusedSimpArgs false

set_option maxRecDepth 100000 in
set_option maxHeartbeats 1000000 in
theorem vInt_any (n : Int) (w : World) : Calls Try.prog 31 #[.int .i64 n] w fun e w' => e = .returned (.agg #[.int .i64 1, .int .i64 n, .string ⟨#[]⟩]) ∧ Fr w w' := by
  go_enter Try.func31, Try.ntmps31
  go_wp2
  refine bodyPost_ret (v := .agg #[.int .i64 1, .int .i64 n, .string ⟨#[]⟩]) (by simp [results, Try.results31, go_sem]) rfl ?_
  exact ⟨rfl, (Fr.refl _).alloc _⟩

theorem lit2 (W : World) (n : Int) : IsRow (W.alloc (.cells #[.int .i64 0, .int .i64 0, .string ⟨#[]⟩, .int .i64 1, .int .i64 n, .string ⟨#[]⟩] 32)) (.slice (some ⟨W.heap.size, 0, none⟩) 2 2) [⟨0, 0, ⟨#[]⟩⟩, ⟨1, n, ⟨#[]⟩⟩] := by
  refine ⟨_, 2, rfl, Or.inr ⟨W.heap.size, 0, rfl, by simp, ?_⟩⟩
  intro i hi
  match i, hi with
  | 0, _ => simp [go_sem]
  | 1, _ => simp [go_sem]

theorem ex1 : LG.in2 ⟨1, 3, ⟨#[]⟩⟩ [⟨0, 0, ⟨#[]⟩⟩, ⟨1, 3, ⟨#[]⟩⟩] = 2 := by decide
theorem ex2 : LG.inErr ⟨1, 3, ⟨#[]⟩⟩ [⟨0, 0, ⟨#[]⟩⟩, ⟨1, 3, ⟨#[]⟩⟩] = 0 := by decide
theorem ex3 : LG.in2 ⟨1, 3, ⟨#[]⟩⟩ [⟨0, 0, ⟨#[]⟩⟩, ⟨1, 4, ⟨#[]⟩⟩] = 1 := by decide
theorem ex4 : LG.inErr ⟨1, 3, ⟨#[]⟩⟩ [⟨0, 0, ⟨#[]⟩⟩, ⟨1, 4, ⟨#[]⟩⟩] = 0 := by decide
theorem ex5 : LG.bt2 ⟨1, 3, ⟨#[]⟩⟩ ⟨1, 1, ⟨#[]⟩⟩ ⟨1, 3, ⟨#[]⟩⟩ = 2 := by decide
theorem ex6 : VM.chkAll [⟨1, 3, ⟨#[]⟩⟩, ⟨1, 1, ⟨#[]⟩⟩, ⟨1, 3, ⟨#[]⟩⟩] = 0 := by decide

theorem begin1 (w : World) : Calls Try.prog 23 #[.agg #[.int .i64 1, .int .i64 3, .string ⟨#[]⟩], .slice (some ⟨w.heap.size, 0, none⟩) 2 2] (w.alloc (.cells #[.int .i64 0, .int .i64 0, .string ⟨#[]⟩, .int .i64 1, .int .i64 3, .string ⟨#[]⟩] 32)) fun e w' => e = .returned (.tuple #[.int .i64 2, .int .i64 0]) ∧ Fr w w' := by
  refine (In_any ⟨1, 3, ⟨#[]⟩⟩ _ _ _ (lit2 w 3) (by simp)).mono ?_
  rw [ex1, ex2]
  rintro e w' ⟨rfl, hf⟩
  exact ⟨rfl, ((Fr.refl w).alloc _).trans hf⟩
theorem begin2 (w : World) : Calls Try.prog 23 #[.agg #[.int .i64 1, .int .i64 3, .string ⟨#[]⟩], .slice (some ⟨w.heap.size, 0, none⟩) 2 2] (w.alloc (.cells #[.int .i64 0, .int .i64 0, .string ⟨#[]⟩, .int .i64 1, .int .i64 4, .string ⟨#[]⟩] 32)) fun e w' => e = .returned (.tuple #[.int .i64 1, .int .i64 0]) ∧ Fr w w' := by
  refine (In_any ⟨1, 3, ⟨#[]⟩⟩ _ _ _ (lit2 w 4) (by simp)).mono ?_
  rw [ex3, ex4]
  rintro e w' ⟨rfl, hf⟩
  exact ⟨rfl, ((Fr.refl w).alloc _).trans hf⟩
theorem begin3 (w : World) : Calls Try.prog 24 #[.agg #[.int .i64 1, .int .i64 3, .string ⟨#[]⟩], .agg #[.int .i64 1, .int .i64 1, .string ⟨#[]⟩], .agg #[.int .i64 1, .int .i64 3, .string ⟨#[]⟩]] w fun e w' => e = .returned (.tuple #[.int .i64 2, .int .i64 0]) ∧ Fr w w' := by
  refine (Between_any ⟨1, 3, ⟨#[]⟩⟩ ⟨1, 1, ⟨#[]⟩⟩ ⟨1, 3, ⟨#[]⟩⟩ w).mono ?_
  rw [ex5, ex6]
  rintro e w' ⟨rfl, hf⟩
  exact ⟨rfl, hf⟩

set_option maxRecDepth 100000 in
set_option maxHeartbeats 1000000 in
theorem logicBegun_any (w : World) : Calls Try.prog 10 #[] w fun e w' => e = .returned (.bool true) ∧ Fr w w' := by
  have a1 := fun W => and_any 7 0 W
  have a2 := fun W => or_any 7 0 W
  have a3 := fun W => not_any 0 W
  rw [show LG.and 7 0 = 0 by decide] at a1
  rw [show LG.or 7 0 = 1 by decide] at a2
  rw [show LG.not 0 = 2 by decide] at a3
  go_enter Try.func10, Try.ntmps10
  go_wp2_with (go_at_call 31; refine (vInt_any _ _).mono ?_)
  rintro _ w1 ⟨rfl, hf1⟩
  go_wp2_with (go_at_call 31; refine (vInt_any _ _).mono ?_)
  rintro _ w2 ⟨rfl, hf2⟩
  have HF2 : Hid (Fr w w2) := Fr.trans hf1 hf2
  clear hf1 hf2
  go_wp2_with (go_at_call 23; refine (begin1 _).mono ?_)
  rintro _ w3 ⟨rfl, hf3⟩
  go_wp2_with (go_at_call 31; refine (vInt_any _ _).mono ?_)
  rintro _ w4 ⟨rfl, hf4⟩
  go_wp2_with (go_at_call 31; refine (vInt_any _ _).mono ?_)
  rintro _ w5 ⟨rfl, hf5⟩
  have HF5 : Hid (Fr w w5) := Fr.trans HF2.out (Fr.trans hf3 (Fr.trans hf4 hf5))
  clear hf3 hf4 hf5 HF2
  go_wp2_with (go_at_call 23; refine (begin2 _).mono ?_)
  rintro _ w6 ⟨rfl, hf6⟩
  go_wp2_with (go_at_call 31; refine (vInt_any _ _).mono ?_)
  rintro _ w7 ⟨rfl, hf7⟩
  go_wp2_with (go_at_call 31; refine (vInt_any _ _).mono ?_)
  rintro _ w8 ⟨rfl, hf8⟩
  go_wp2_with (go_at_call 31; refine (vInt_any _ _).mono ?_)
  rintro _ w9 ⟨rfl, hf9⟩
  have HF9 : Hid (Fr w w9) := Fr.trans HF5.out (Fr.trans hf6 (Fr.trans hf7 (Fr.trans hf8 hf9)))
  clear hf6 hf7 hf8 hf9 HF5
  go_wp2_with (go_at_call 24; refine (begin3 _).mono ?_)
  rintro _ wa ⟨rfl, hfa⟩
  have HFA : Hid (Fr w wa) := Fr.trans HF9.out hfa
  clear HF9 hfa
  go_wp2_with (go_at_call 11; refine (a1 _).mono ?_)
  rintro _ wb ⟨rfl, rfl⟩
  go_wp2_with (go_at_call 13; refine (a2 _).mono ?_)
  rintro _ wb ⟨rfl, rfl⟩
  go_wp2_with (go_at_call 15; refine (a3 _).mono ?_)
  rintro _ wb ⟨rfl, rfl⟩
  go_wp2_with fail
  go_ret
  exact ⟨rfl, HFA.out⟩
end Go.Proofs.Ytppbmkkkjjkiiaa
