/-
  What Zig and Zag of package num answer, for every argument: Zig is 2n from 0 on and -2n - 1 below it, Zag goes back.
-/
import Derived.Test.YtefojbfihnnpdaaDoorBase
namespace Go.Proofs.YtefojbfihnnpdaaDoor
open Go.ChangeShapes Go.WideShapes Go.ChangeAt Go.RowKit

theorem xor_ones64 (b : Nat) (hb : b < 2 ^ 64) : (2 ^ 64 - 1) ^^^ b = 2 ^ 64 - 1 - b := by
  apply Nat.eq_of_testBit_eq
  intro i
  rw [Nat.testBit_xor, Nat.testBit_two_pow_sub_one, show 2 ^ 64 - 1 - b = 2 ^ 64 - (b + 1) by omega, Nat.testBit_two_pow_sub_succ hb]
  by_cases hi : i < 64
  · simp [hi]
  · have : b.testBit i = false := Nat.testBit_lt_two_pow (Nat.lt_of_lt_of_le hb (Nat.pow_le_pow_right (by decide) (by omega)))
    simp [hi, this]

/-- all bits of an int64 turned -/
theorem i64_turned (x : Int) (h0 : -9223372036854775808 ≤ x) (h1 : x ≤ 9223372036854775807) : bits .xor .i64 (-1) x = -x - 1 := by
  show IntKind.i64.wrap ((BitVec.ofInt 64 (-1) ^^^ BitVec.ofInt 64 x).toNat : Int) = _
  have e1 : (BitVec.ofInt 64 (-1)).toNat = 2 ^ 64 - 1 := by decide
  have e2 : (BitVec.ofInt 64 x).toNat = (x % 18446744073709551616).toNat := by
    rw [BitVec.toNat_ofInt]; rfl
  rw [BitVec.toNat_xor, e1, e2, xor_ones64 _ (by omega), IntKind.wrap_i64]
  omega

def zigN (n : Int) : Int := if 0 ≤ n then 2 * n else -2 * n - 1
def zagN (u : Int) : Int := if u % 2 = 0 then u / 2 else -(u / 2) - 1

set_option maxHeartbeats 400000 in
theorem zig_any (n : Int) (w : World) (hl : -9223372036854775808 ≤ n) (hu : n ≤ 9223372036854775807) :
    Calls Tryd.prog 67 #[.int .i64 n] w fun e w' => e = .returned (.int .u64 (zigN n)) ∧ w' = w := by
  by_cases h : n < 0
  · have hx : Hid (bits .xor .i64 (-1) n = -n - 1) := i64_turned n hl hu
    have hz : Hid (zigN n = -2 * n - 1) := by unfold zigN; exact if_neg (by omega)
    go_enter Tryd.func67, Tryd.ntmps67
    go_wp2
    go_ret
    refine ⟨ret_int ?_, rfl⟩
    rw [hz.out, hx.out]
    simp only [IntKind.wrap_u64]
    omega
  · have hz : Hid (zigN n = 2 * n) := by unfold zigN; exact if_pos (by omega)
    have h' : 0 ≤ n := by omega
    go_enter Tryd.func67, Tryd.ntmps67
    go_wp2
    go_ret
    refine ⟨ret_int ?_, rfl⟩
    rw [hz.out]
    try (simp only [IntKind.wrap_u64]; omega)

theorem zig_range {n : Int} (hl : -9223372036854775808 ≤ n) (hu : n ≤ 9223372036854775807) : 0 ≤ zigN n ∧ zigN n ≤ 18446744073709551615 := by
  unfold zigN; split <;> omega
theorem zag_range {u : Int} (hl : 0 ≤ u) (hu : u ≤ 18446744073709551615) : -9223372036854775808 ≤ zagN u ∧ zagN u ≤ 9223372036854775807 := by
  unfold zagN; split <;> omega
theorem zag_zig (n : Int) : zagN (zigN n) = n := by unfold zagN zigN; split <;> split <;> omega
theorem zig_zag {u : Int} (hl : 0 ≤ u) : zigN (zagN u) = u := by unfold zagN zigN; split <;> split <;> omega
end Go.Proofs.YtefojbfihnnpdaaDoor
