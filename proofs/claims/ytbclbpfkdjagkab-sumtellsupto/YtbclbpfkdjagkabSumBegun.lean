/-
  The examples which the statements on sums hold first are met; and a text of one byte.
-/
import Derived.Test.YtbclbpfkdjagkabSumLess
namespace Go.Proofs.Ytbclbpfkdjagkab
open Go.ChangeShapes Go.WideShapes Go.ChangeAt Go.RowKit
set_option linter.unusedVariables false

theorem of_named (s : ByteArray) (v : Nat) (w : World) (hs : s.size ≤ maxLen) (hv : SM.more 0 s.data.toList = v) :
    Calls Try.prog 17 #[.string s] w fun e w' => e = .returned (.int .u32 (v : Int)) ∧ w' = w := by
  subst hv; exact of_any s w hs
theorem more_named (c : Nat) (s : ByteArray) (v : Nat) (w : World) (hc : c < 4294967296) (hs : s.size ≤ maxLen) (hv : SM.more c s.data.toList = v) :
    Calls Try.prog 15 #[.int .u32 (c : Int), .string s] w fun e w' => e = .returned (.int .u32 (v : Int)) ∧ w' = w := by
  subst hv; exact more_any c s w hc hs
theorem less_named (c : Nat) (b : UInt8) (v : Nat) (w : World) (hc : c < 4294967296) (hv : SM.less c b = v) :
    Calls Try.prog 22 #[.int .u32 (c : Int), .int .u8 (b.toNat : Int)] w fun e w' => e = .returned (.int .u32 (v : Int)) ∧ w' = w := by
  subst hv; exact less_any c b w hc

theorem more_lit (ci : Int) (c : Nat) (s : ByteArray) (v : Nat) (w : World) (hci : ci = (c : Int)) (hc : c < 4294967296) (hs : s.size ≤ maxLen) (hv : SM.more c s.data.toList = v) :
    Calls Try.prog 15 #[.int .u32 ci, .string s] w fun e w' => e = .returned (.int .u32 (v : Int)) ∧ w' = w := by
  subst hci; exact more_named c s v w hc hs hv
theorem less_lit (ci : Int) (c : Nat) (bi : Int) (b : UInt8) (v : Nat) (w : World) (hci : ci = (c : Int)) (hbi : bi = (b.toNat : Int)) (hc : c < 4294967296) (hv : SM.less c b = v) :
    Calls Try.prog 22 #[.int .u32 ci, .int .u8 bi] w fun e w' => e = .returned (.int .u32 (v : Int)) ∧ w' = w := by
  subst hci; subst hbi; exact less_named c b v w hc hv

theorem ex9 : SM.more 0 (⟨#[49, 50, 51, 52, 53, 54, 55, 56, 57]⟩ : ByteArray).data.toList = 3808858755 := by decide +kernel
theorem ex0 : SM.more 0 (⟨#[]⟩ : ByteArray).data.toList = 0 := by decide +kernel
theorem ex4 : SM.more 0 (⟨#[49, 50, 51, 52]⟩ : ByteArray).data.toList = 4131058926 := by decide +kernel
theorem ex5 : SM.more 4131058926 (⟨#[53, 54, 55, 56, 57]⟩ : ByteArray).data.toList = 3808858755 := by decide +kernel
theorem exl : SM.less 3808858755 57 = 1619493018 := by decide +kernel
theorem ex8 : SM.more 0 (⟨#[49, 50, 51, 52, 53, 54, 55, 56]⟩ : ByteArray).data.toList = 1619493018 := by decide +kernel

set_option maxRecDepth 100000 in
set_option maxHeartbeats 1000000 in
theorem sumBegun_any (w : World) :
    Calls Try.prog 14 #[] w fun e w' => e = .returned (.bool true) ∧ w' = w := by
  go_enter Try.func14, Try.ntmps14
  go_wp2_with fail
  refine (of_named _ 3808858755 _ (by decide) ex9).mono ?_
  rintro e w' ⟨rfl, rfl⟩
  go_wp2_with fail
  refine (of_named _ 0 _ (by decide) ex0).mono ?_
  rintro e w' ⟨rfl, rfl⟩
  go_wp2_with fail
  refine (of_named _ 4131058926 _ (by decide) ex4).mono ?_
  rintro e w' ⟨rfl, rfl⟩
  go_wp2_with fail
  refine (more_lit 4131058926 4131058926 _ 3808858755 _ (by omega) (by omega) (by decide) ex5).mono ?_
  rintro e w' ⟨rfl, rfl⟩
  go_wp2_with fail
  refine (less_lit 3808858755 3808858755 57 57 1619493018 _ (by omega) (by rfl) (by omega) exl).mono ?_
  rintro e w' ⟨rfl, rfl⟩
  go_wp2_with fail
  refine (of_named _ 1619493018 _ (by decide) ex8).mono ?_
  rintro e w' ⟨rfl, rfl⟩
  go_wp2_with fail
  go_ret
  exact ⟨rfl, rfl⟩
end Go.Proofs.Ytbclbpfkdjagkab
