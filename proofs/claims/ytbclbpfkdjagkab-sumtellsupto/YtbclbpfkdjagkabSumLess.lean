/-
  What Less of package sum answers, for every argument.
-/
import Derived.Test.YtbclbpfkdjagkabSumWalks
namespace Go.Proofs.Ytbclbpfkdjagkab
open Go.ChangeShapes Go.WideShapes Go.ChangeAt Go.RowKit
set_option linter.unusedVariables false

theorem wez_named (r z : Nat) (w : World) (hr : r < 4294967296) (hz : z = SM.wez r) :
    Calls Try.prog 26 #[.int .u32 (r : Int)] w fun e w' => e = .returned (.int .u32 (z : Int)) ∧ w' = w := by
  subst hz
  exact wez_any r w hr

set_option maxRecDepth 100000 in
set_option maxHeartbeats 400000 in
theorem less_core (c y z x v : Nat) (b : UInt8) (w : World) (hy : y < 4294967296) (hz : Hid (z = SM.wez y))
    (h1 : bits .xor .u32 IntKind.u32.max (c : Int) = (y : Int)) (h2 : bits .xor .u32 (z : Int) ((b.toNat : Int) % 4294967296) = (x : Int)) (h3 : bits .xor .u32 IntKind.u32.max (x : Int) = (v : Int)) :
    Calls Try.prog 22 #[.int .u32 (c : Int), .int .u8 (b.toNat : Int)] w fun e w' => e = .returned (.int .u32 (v : Int)) ∧ w' = w := by
  go_enter Try.func22, Try.ntmps22
  go_wp2_with fail
  clear h
  refine (wez_named _ _ _ hy hz.out).mono ?_
  rintro e w' ⟨rfl, rfl⟩
  go_wp2_with fail
  go_ret
  exact ⟨rfl, rfl⟩

theorem less_any (c : Nat) (b : UInt8) (w : World) (hc : c < 4294967296) :
    Calls Try.prog 22 #[.int .u32 (c : Int), .int .u8 (b.toNat : Int)] w fun e w' => e = .returned (.int .u32 ((SM.less c b : Nat) : Int)) ∧ w' = w := by
  have HN := SM.nt_lt hc
  have HW := SM.wez_lt HN
  rw [SM.less]
  exact less_core c (SM.nt c) (SM.wez (SM.nt c)) (SM.wez (SM.nt c) ^^^ b.toNat) _ b w HN rfl (turned32 c hc) (xor8 _ b HW) (turned32 _ (SM.xor_lt HW (SM.byte_lt b)))
end Go.Proofs.Ytbclbpfkdjagkab
