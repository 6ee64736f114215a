/-
  Whole numbers that may run over, as plain functions; what the tests of the code tell of them.
-/
import Derived.Test.YtbljoohikhjdjaaBaseI
namespace Go.Proofs.Ytbljoohikhjdjaa
set_option linter.unusedVariables false
open Go.ChangeShapes Go.WideShapes Go.ChangeAt Go.RowKit
namespace WH

/-- a whole number of 64 bits -/
def Ok (x : Int) : Prop := -9223372036854775808 ≤ x ∧ x ≤ 9223372036854775807
/-- what is answered of a number: itself, or nought where it runs over -/
def val (x : Int) : Int := if -9223372036854775808 ≤ x ∧ x ≤ 9223372036854775807 then x else 0
/-- the error: none, or 8 where it runs over -/
def err (x : Int) : Int := if -9223372036854775808 ≤ x ∧ x ≤ 9223372036854775807 then 0 else 8

theorem val_ok {x : Int} (h : Ok x) : val x = x := if_pos h
theorem err_ok {x : Int} (h : Ok x) : err x = 0 := if_pos h
theorem val_over {x : Int} (h : ¬ Ok x) : val x = 0 := if_neg h
theorem err_over {x : Int} (h : ¬ Ok x) : err x = 8 := if_neg h
theorem ok_em (x : Int) : Ok x ∨ ¬ Ok x := Classical.em _
theorem val_Ok (x : Int) : Ok (val x) := by
  unfold val
  split
  · assumption
  · exact ⟨by decide, by decide⟩
theorem wrap_ok {x : Int} (h : Ok x) : wrap64 x = x := by
  obtain ⟨h0, h1⟩ := h
  rw [wrap64]
  omega
theorem wrap_in (x : Int) : Ok (wrap64 x) := by
  constructor <;> rw [wrap64] <;> omega

theorem msb_of {x : Int} (h : Ok x) : (BitVec.ofInt 64 x).msb = decide (x < 0) := by
  obtain ⟨h0, h1⟩ := h
  rw [BitVec.msb_eq_decide, BitVec.toNat_ofInt]
  have e : (2 : Nat) ^ (64 - 1) = 9223372036854775808 := by decide
  have e2 : ((2 : Nat) ^ 64 : Nat) = 18446744073709551616 := by decide
  rw [e, e2, decide_eq_decide]
  omega
theorem back_neg (v : BitVec 64) : IntKind.i64.wrap (v.toNat : Int) < 0 ↔ v.msb = true := by
  rw [BitVec.msb_eq_decide, IntKind.wrap_i64, decide_eq_true_iff]
  have e : (2 : Nat) ^ (64 - 1) = 9223372036854775808 := by decide
  have h := v.isLt
  rw [e]
  omega
theorem xor_neg {x y : Int} (hx : Ok x) (hy : Ok y) : bits .xor .i64 x y < 0 ↔ ((x < 0 ∧ 0 ≤ y) ∨ (0 ≤ x ∧ y < 0)) := by
  show IntKind.i64.wrap ((BitVec.ofInt 64 x ^^^ BitVec.ofInt 64 y).toNat : Int) < 0 ↔ _
  rw [back_neg, BitVec.msb_xor, msb_of hx, msb_of hy]
  by_cases h1 : x < 0 <;> by_cases h2 : y < 0 <;> simp [h1, h2] <;> omega
theorem and_neg {x y : Int} (hx : Ok x) (hy : Ok y) : bits .and .i64 x y < 0 ↔ (x < 0 ∧ y < 0) := by
  show IntKind.i64.wrap ((BitVec.ofInt 64 x &&& BitVec.ofInt 64 y).toNat : Int) < 0 ↔ _
  rw [back_neg, BitVec.msb_and, msb_of hx, msb_of hy]
  simp
theorem bits_Ok (op : BinOp) (x y : Int) : Ok (bits op .i64 x y) := by
  show Ok (IntKind.i64.wrap _)
  rw [IntKind.wrap_i64]
  constructor <;> omega

theorem add_test {a b : Int} (ha : Ok a) (hb : Ok b) :
    bits .and .i64 (bits .xor .i64 a (wrap64 (a + b))) (bits .xor .i64 b (wrap64 (a + b))) < 0 ↔ ¬ Ok (a + b) := by
  rw [and_neg (bits_Ok _ _ _) (bits_Ok _ _ _), xor_neg ha (wrap_in _), xor_neg hb (wrap_in _)]
  obtain ⟨a0, a1⟩ := ha
  obtain ⟨b0, b1⟩ := hb
  unfold Ok
  rw [wrap64]
  omega
theorem sub_test {a b : Int} (ha : Ok a) (hb : Ok b) :
    bits .and .i64 (bits .xor .i64 a b) (bits .xor .i64 a (wrap64 (a - b))) < 0 ↔ ¬ Ok (a - b) := by
  rw [and_neg (bits_Ok _ _ _) (bits_Ok _ _ _), xor_neg ha hb, xor_neg ha (wrap_in _)]
  obtain ⟨a0, a1⟩ := ha
  obtain ⟨b0, b1⟩ := hb
  unfold Ok
  rw [wrap64]
  omega

/-- division cut towards nought: what is left is nearer to it than the divisor -/
theorem tmod_near (a b : Int) (hb : b ≠ 0) : b * a.tdiv b + a.tmod b = a ∧ (0 ≤ a → 0 ≤ a.tmod b) ∧ (a ≤ 0 → a.tmod b ≤ 0) ∧ (0 < b → -b < a.tmod b ∧ a.tmod b < b) ∧ (b < 0 → b < a.tmod b ∧ a.tmod b < -b) := by
  refine ⟨Int.mul_tdiv_add_tmod a b, fun h => Int.tmod_nonneg b h, ?_, ?_, ?_⟩
  · intro h
    have := Int.tmod_nonneg b (show 0 ≤ -a by omega)
    rw [Int.neg_tmod] at this
    omega
  · intro h
    have h1 := Int.tmod_lt_of_pos a h
    have h2 := Int.tmod_lt_of_pos (-a) h
    rw [Int.neg_tmod] at h2
    omega
  · intro h
    have h1 := Int.tmod_lt_of_pos a (show 0 < -b by omega)
    have h2 := Int.tmod_lt_of_pos (-a) (show 0 < -b by omega)
    rw [Int.tmod_neg] at h1 h2
    rw [Int.neg_tmod] at h2
    omega

theorem tdiv_Ok {a b : Int} (ha : Ok a) (hb : b ≠ 0) (h1 : b ≠ -1) : Ok (a.tdiv b) := by
  obtain ⟨a0, a1⟩ := ha
  have key : (a.tdiv b).natAbs ≤ a.natAbs := by
    rw [Int.natAbs_tdiv]
    exact Nat.div_le_self _ _
  have half : (a.tdiv b).natAbs = a.natAbs / b.natAbs := Int.natAbs_tdiv ..
  by_cases e : b.natAbs = 1
  · have : b = 1 := by omega
    subst this
    rw [Int.tdiv_one]
    exact ⟨a0, a1⟩
  · have h2 : 2 ≤ b.natAbs := by omega
    have : a.natAbs / b.natAbs ≤ a.natAbs / 2 := Nat.div_le_div_left h2 (by decide)
    unfold Ok
    omega

theorem mul_test {a b : Int} (ha : Ok a) (hb : Ok b) (h0 : b ≠ 0) (h1 : b ≠ -1) :
    wrap64 ((wrap64 (a * b)).tdiv b) = a ↔ Ok (a * b) := by
  rw [wrap_ok (tdiv_Ok (wrap_in _) h0 h1)]
  constructor
  · intro h
    obtain ⟨e, _, _, p1, p2⟩ := tmod_near (wrap64 (a * b)) b h0
    rw [h] at e
    have hw := wrap_in (a * b)
    have hm : (wrap64 (a * b)).tmod b = wrap64 (a * b) - a * b := by
      rw [Int.mul_comm a b]
      rw [Int.mul_comm a b] at e
      omega
    generalize (wrap64 (a * b)).tmod b = r at *
    have e2 : wrap64 (a * b) = (a * b + 9223372036854775808) % 18446744073709551616 - 9223372036854775808 := by rw [wrap64]
    generalize wrap64 (a * b) = W at *
    generalize a * b = p at *
    obtain ⟨b0, b1⟩ := hb
    obtain ⟨w0, w1⟩ := hw
    have : W = p := by
      rcases Int.lt_or_gt_of_ne h0 with hn | hp
      · have := p2 hn; omega
      · have := p1 hp; omega
    rw [← this]
    exact ⟨w0, w1⟩
  · intro h
    rw [wrap_ok h]
    exact Int.mul_tdiv_cancel a h0
end WH
end Go.Proofs.Ytbljoohikhjdjaa
