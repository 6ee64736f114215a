/-
  What a pattern stands for begins by its plain parts.
-/
import Derived.Test.YtgjgmaadogkjfaaDoorLkMath2
namespace Go.Proofs.YtgjgmaadogkjfaaDoor
namespace LK

theorem mt_first : ∀ (P : List Part) (T : List Bs), mt P T = true → (∃ r, T.flatten = pre P ++ r) ∧ (whole P = true → T.flatten = pre P)
  | [], T, h => by
    have : T = [] := by simpa [mt] using h
    subst this
    exact ⟨⟨[], rfl⟩, fun _ => rfl⟩
  | p :: ps, T, h => by
    by_cases hp : p.1 = 97
    · cases T with
      | nil => rw [mt_one_nil (by omega)] at h; cases h
      | cons x T =>
        rw [mt_one (by omega), Bool.and_eq_true] at h
        have hx : p.2 = x := by
          have := h.1
          unfold one at this
          simpa [hp] using this
        obtain ⟨⟨r, h1⟩, h2⟩ := mt_first ps T h.2
        have e : pre (p :: ps) = p.2 ++ pre ps := by simp [pre, hp]
        have ew : whole (p :: ps) = whole ps := by simp [whole, hp]
        rw [e, ew, List.flatten_cons, hx]
        exact ⟨⟨r, by rw [h1, List.append_assoc]⟩, fun hw => by rw [h2 hw]⟩
    · have e : pre (p :: ps) = [] := by simp [pre, hp]
      have ew : whole (p :: ps) = false := by simp [whole, hp]
      rw [e, ew]
      exact ⟨⟨_, rfl⟩, fun h => by cases h⟩
end LK
end Go.Proofs.YtgjgmaadogkjfaaDoor
