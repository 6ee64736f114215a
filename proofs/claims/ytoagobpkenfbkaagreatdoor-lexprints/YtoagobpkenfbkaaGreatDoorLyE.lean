/-
  Reserved at the two words of lexBegun; lengths of what is told; the first error among tokens.
-/
import Derived.Test.YtoagobpkenfbkaaGreatDoorLyB
namespace Go.Proofs.YtoagobpkenfbkaaGreatDoor
open Go.ChangeShapes Go.WideShapes Go.ChangeAt Go.RowKit Go.Shelf
set_option linter.unusedVariables false
set_option linter.unusedSimpArgs false

set_option maxRecDepth 100000 in
set_option maxHeartbeats 2000000 in
theorem reserved_by (w : World) : Calls Tryz.prog 15 #[.string ⟨#[98, 121]⟩] w fun e w' => e = .returned (.bool true) ∧ w' = w := by
  go_enter Tryz.func15, Tryz.ntmps15
  go_wp2_with fail
  go_ret
  exact ⟨rfl, rfl⟩
set_option maxRecDepth 100000 in
set_option maxHeartbeats 2000000 in
theorem reserved_name (w : World) : Calls Tryz.prog 15 #[.string ⟨#[110, 97, 109, 101]⟩] w fun e w' => e = .returned (.bool false) ∧ w' = w := by
  go_enter Tryz.func15, Tryz.ntmps15
  go_wp2_with fail
  go_ret
  exact ⟨rfl, rfl⟩
end Go.Proofs.YtoagobpkenfbkaaGreatDoor
namespace Go.Proofs.YtoagobpkenfbkaaGreatDoor
open Go.ChangeShapes Go.WideShapes Go.ChangeAt Go.RowKit Go.Shelf
set_option linter.unusedVariables false
set_option linter.unusedSimpArgs false

theorem itoa_len (n : Int) (h0 : -9223372036854775808 ≤ n) (h1 : n ≤ 9223372036854775807) : (Lib.itoa n).length ≤ 21 := by
  have key : ∀ (k u : Nat), u < 10 ^ (k + 1) → Lib.nDigits u ≤ k + 1 := by
    intro k
    induction k with
    | zero => intro u h; rw [Lib.nDigits_small (by simpa using h)]; omega
    | succ k ih =>
      intro u h
      by_cases h10 : u < 10
      · rw [Lib.nDigits_small h10]; omega
      · rw [Lib.nDigits_big h10]
        have := ih (u / 10) (by rw [Nat.pow_succ] at h; omega)
        omega
  unfold Lib.itoa
  split
  · rw [List.length_cons, Lib.decDigits_length]
    have := key 19 n.natAbs (by show n.natAbs < 100000000000000000000; omega)
    omega
  · rw [Lib.decDigits_length]
    have := key 19 n.toNat (by show n.toNat < 100000000000000000000; omega)
    omega
theorem shn_len (x : VM.Vl) (h : -9223372036854775808 ≤ x.n ∧ x.n ≤ 9223372036854775807) : (shn x).length ≤ 100 := by
  unfold shn
  split
  · rename_i hc
    obtain ⟨_, _, _, hs⟩ := chk_zero hc
    have hl : x.s.data.toList.length ≤ 16 := by rw [dl_size]; exact hs
    unfold VS.shw
    split
    · have := itoa_len x.n h.1 h.2; omega
    · split
      · have := flat_len VS.dbl dbl_len _ hl
        simp only [List.length_append, List.length_cons, List.length_nil]
        omega
      · split
        · have := flat_len VS.hx hx_len _ hl
          simp only [List.length_append, List.length_cons, List.length_nil]
          omega
        · decide
  · simp

/-- the first error among tokens -/
def fe : List LX.Tk → Nat
  | [] => 0
  | t :: r => if LX.chk t = 0 then fe r else LX.chk t
theorem fe_ok {t : LX.Tk} {r : List LX.Tk} (h : LX.chk t = 0) : fe (t :: r) = fe r := if_pos h
theorem fe_bad {t : LX.Tk} {r : List LX.Tk} (h : LX.chk t ≠ 0) : fe (t :: r) = LX.chk t := if_neg h
theorem pt_join : ∀ ts : List LX.Tk, LX.pt ts = Lib.join (ts.map LX.shw) [32]
  | [] => rfl
  | [t] => by simp [LX.pt, Lib.join, List.intercalate]
  | t :: u :: ts => by
    have ih := pt_join (u :: ts)
    simp only [LX.pt]
    rw [ih]
    simp [Lib.join, List.intercalate]
end Go.Proofs.YtoagobpkenfbkaaGreatDoor
namespace Go.Proofs.YtoagobpkenfbkaaGreatDoor
open Go.ChangeShapes Go.WideShapes Go.ChangeAt Go.RowKit Go.Shelf
set_option linter.unusedVariables false
set_option linter.unusedSimpArgs false

theorem mem_signs_len {l : List UInt8} (h : l ∈ LX.signs) : l.length ≤ 2 := by
  simp only [LX.signs, List.mem_cons, List.not_mem_nil, or_false] at h
  rcases h with rfl | rfl | rfl | rfl | rfl | rfl | rfl | rfl | rfl | rfl | rfl | rfl | rfl | rfl | rfl <;> decide
theorem shw_len {t : LX.Tk} (hn : -9223372036854775808 ≤ t.n ∧ t.n ≤ 9223372036854775807) (hc : LX.chk t = 0) : (LX.shw t).length ≤ 100 := by
  obtain ⟨k, n, l⟩ := t
  unfold LX.chk at hc
  simp only at hc hn
  split at hc
  · cases hc
  split at hc
  · cases hc
  split at hc
  · rename_i hk
    subst hk
    show l.length ≤ 100
    unfold LX.chkWord at hc
    split at hc
    · cases hc
    · split at hc
      · split at hc
        · cases hc
        · omega
      · cases hc
  split at hc
  · rename_i hk
    subst hk
    have e : LX.shw ⟨2, n, l⟩ = VS.shw 1 n [] := rfl
    rw [e]
    unfold VS.shw
    rw [if_pos rfl]
    have := itoa_len n hn.1 hn.2
    omega
  split at hc
  · rename_i hk
    subst hk
    split at hc
    · rename_i hm
      have := mem_signs_len hm
      show l.length ≤ 100
      omega
    · cases hc
  split at hc
  · cases hc
  · rename_i h1 _ h2 h3 h4 h5
    have hl : l.length ≤ 16 := by omega
    have hk : k = 3 ∨ k = 4 := by omega
    rcases hk with rfl | rfl
    · have e : LX.shw ⟨3, n, l⟩ = VS.shw 2 0 l := rfl
      rw [e]
      have := flat_len VS.dbl dbl_len _ hl
      unfold VS.shw
      rw [if_neg (by decide), if_pos rfl]
      simp only [List.length_append, List.length_cons, List.length_nil]
      omega
    · have e : LX.shw ⟨4, n, l⟩ = VS.shw 3 0 l := rfl
      rw [e]
      have := flat_len VS.hx hx_len _ hl
      unfold VS.shw
      rw [if_neg (by decide), if_neg (by decide), if_pos rfl]
      simp only [List.length_append, List.length_cons, List.length_nil]
      omega
theorem pt_len : ∀ ts : List LX.Tk, (∀ t ∈ ts, (LX.shw t).length ≤ 100) → (LX.pt ts).length ≤ 101 * ts.length
  | [], _ => by simp [LX.pt]
  | [t], h => by
    have := h t (by simp)
    simp only [LX.pt, List.length_cons, List.length_nil]
    omega
  | t :: u :: ts, h => by
    have h1 := h t (by simp)
    have ih := pt_len (u :: ts) (fun x hx => h x (by simp at hx ⊢; exact Or.inr hx))
    simp only [LX.pt, List.length_append, List.length_cons] at ih ⊢
    omega
end Go.Proofs.YtoagobpkenfbkaaGreatDoor
