/-
  Print.
-/
import Derived.Test.YtoagobpkenfbkaaGreatDoorLyD
namespace Go.Proofs.YtoagobpkenfbkaaGreatDoor
open Go.ChangeShapes Go.WideShapes Go.ChangeAt Go.RowKit Go.Shelf
set_option linter.unusedVariables false
set_option linter.unusedSimpArgs false

theorem mem_signs_len {l : List UInt8} (h : l ∈ LX.signs) : l.length ≤ 2 := by
  simp only [LX.signs, List.mem_cons, List.not_mem_nil, or_false] at h
  rcases h with rfl | rfl | rfl | rfl | rfl | rfl | rfl | rfl | rfl | rfl | rfl | rfl | rfl | rfl | rfl <;> decide
theorem shw_len {t : LX.Tk} (hn : -9223372036854775808 ≤ t.n ∧ t.n ≤ 9223372036854775807) (hc : LX.chk t = 0) : (LX.shw t).length ≤ 100 := by
  obtain ⟨k, n, l⟩ := t
  unfold LX.chk at hc
  simp only at hc hn
  split at hc
  · cases hc
  split at hc
  · cases hc
  split at hc
  · rename_i hk
    subst hk
    show l.length ≤ 100
    unfold LX.chkWord at hc
    split at hc
    · cases hc
    · split at hc
      · split at hc
        · cases hc
        · omega
      · cases hc
  split at hc
  · rename_i hk
    subst hk
    have e : LX.shw ⟨2, n, l⟩ = VS.shw 1 n [] := rfl
    rw [e]
    unfold VS.shw
    rw [if_pos rfl]
    have := itoa_len n hn.1 hn.2
    omega
  split at hc
  · rename_i hk
    subst hk
    split at hc
    · rename_i hm
      have := mem_signs_len hm
      show l.length ≤ 100
      omega
    · cases hc
  split at hc
  · cases hc
  · rename_i h1 _ h2 h3 h4 h5
    have hl : l.length ≤ 16 := by omega
    have hk : k = 3 ∨ k = 4 := by omega
    rcases hk with rfl | rfl
    · have e : LX.shw ⟨3, n, l⟩ = VS.shw 2 0 l := rfl
      rw [e]
      have := flat_len VS.dbl dbl_len _ hl
      unfold VS.shw
      rw [if_neg (by decide), if_pos rfl]
      simp only [List.length_append, List.length_cons, List.length_nil]
      omega
    · have e : LX.shw ⟨4, n, l⟩ = VS.shw 3 0 l := rfl
      rw [e]
      have := flat_len VS.hx hx_len _ hl
      unfold VS.shw
      rw [if_neg (by decide), if_neg (by decide), if_pos rfl]
      simp only [List.length_append, List.length_cons, List.length_nil]
      omega
theorem pt_len : ∀ ts : List LX.Tk, (∀ t ∈ ts, (LX.shw t).length ≤ 100) → (LX.pt ts).length ≤ 101 * ts.length
  | [], _ => by simp [LX.pt]
  | [t], h => by
    have := h t (by simp)
    simp only [LX.pt, List.length_cons, List.length_nil]
    omega
  | t :: u :: ts, h => by
    have h1 := h t (by simp)
    have ih := pt_len (u :: ts) (fun x hx => h x (by simp at hx ⊢; exact Or.inr hx))
    simp only [LX.pt, List.length_append, List.length_cons] at ih ⊢
    omega
end Go.Proofs.YtoagobpkenfbkaaGreatDoor
