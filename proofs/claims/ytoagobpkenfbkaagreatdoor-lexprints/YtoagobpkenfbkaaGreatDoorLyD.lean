/-
  How long a token is that is told; the tokens' texts with a blank between them.
-/
import Derived.Test.YtoagobpkenfbkaaGreatDoorLyC
namespace Go.Proofs.YtoagobpkenfbkaaGreatDoor
open Go.ChangeShapes Go.WideShapes Go.ChangeAt Go.RowKit Go.Shelf
set_option linter.unusedVariables false
set_option linter.unusedSimpArgs false

theorem itoa_len (n : Int) (h0 : -9223372036854775808 ≤ n) (h1 : n ≤ 9223372036854775807) : (Lib.itoa n).length ≤ 21 := by
  have key : ∀ (k u : Nat), u < 10 ^ (k + 1) → Lib.nDigits u ≤ k + 1 := by
    intro k
    induction k with
    | zero => intro u h; rw [Lib.nDigits_small (by simpa using h)]; omega
    | succ k ih =>
      intro u h
      by_cases h10 : u < 10
      · rw [Lib.nDigits_small h10]; omega
      · rw [Lib.nDigits_big h10]
        have := ih (u / 10) (by rw [Nat.pow_succ] at h; omega)
        omega
  unfold Lib.itoa
  split
  · rw [List.length_cons, Lib.decDigits_length]
    have := key 19 n.natAbs (by show n.natAbs < 100000000000000000000; omega)
    omega
  · rw [Lib.decDigits_length]
    have := key 19 n.toNat (by show n.toNat < 100000000000000000000; omega)
    omega
theorem shn_len (x : VM.Vl) (h : -9223372036854775808 ≤ x.n ∧ x.n ≤ 9223372036854775807) : (shn x).length ≤ 100 := by
  unfold shn
  split
  · rename_i hc
    obtain ⟨_, _, _, hs⟩ := chk_zero hc
    have hl : x.s.data.toList.length ≤ 16 := by rw [dl_size]; exact hs
    unfold VS.shw
    split
    · have := itoa_len x.n h.1 h.2; omega
    · split
      · have := flat_len VS.dbl dbl_len _ hl
        simp only [List.length_append, List.length_cons, List.length_nil]
        omega
      · split
        · have := flat_len VS.hx hx_len _ hl
          simp only [List.length_append, List.length_cons, List.length_nil]
          omega
        · decide
  · simp

/-- the first error among tokens -/
def fe : List LX.Tk → Nat
  | [] => 0
  | t :: r => if LX.chk t = 0 then fe r else LX.chk t
theorem fe_ok {t : LX.Tk} {r : List LX.Tk} (h : LX.chk t = 0) : fe (t :: r) = fe r := if_pos h
theorem fe_bad {t : LX.Tk} {r : List LX.Tk} (h : LX.chk t ≠ 0) : fe (t :: r) = LX.chk t := if_neg h
theorem pt_join : ∀ ts : List LX.Tk, LX.pt ts = Lib.join (ts.map LX.shw) [32]
  | [] => rfl
  | [t] => by simp [LX.pt, Lib.join, List.intercalate]
  | t :: u :: ts => by
    have ih := pt_join (u :: ts)
    simp only [LX.pt]
    rw [ih]
    simp [Lib.join, List.intercalate]
end Go.Proofs.YtoagobpkenfbkaaGreatDoor
