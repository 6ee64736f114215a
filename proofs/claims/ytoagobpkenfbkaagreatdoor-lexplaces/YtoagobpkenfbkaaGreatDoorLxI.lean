/-
  Tokens stand one behind the other.
-/
import Derived.Test.YtoagobpkenfbkaaGreatDoorLxH
namespace Go.Proofs.YtoagobpkenfbkaaGreatDoor
set_option linter.unusedVariables false
namespace LX
open VS (Bs)

theorem lex_len {l : Bs} {ps : List (Nat × Tk)} (h : lex l = .ok ps) : ¬ 300 < l.length ∧ go (l.length + 1) 0 l 120 = .ok ps := by
  unfold lex at h
  split at h
  · cases h
  · rename_i h3
    exact ⟨h3, h⟩
theorem lex_of_go {l : Bs} {ps : List (Nat × Tk)} {f at_ room : Nat} (h : go f at_ l room = .ok ps) (hl : l.length ≤ 300) (hp : ps.length ≤ 120) : ∃ qs, lex l = .ok qs ∧ qs.map (·.2) = ps.map (·.2) := by
  have hlen := len_tokens h
  obtain ⟨qs, h1, h2⟩ := go_any ps f at_ l room (l.length + 1) 0 120 h hp (by omega)
  refine ⟨qs, ?_, h2⟩
  unfold lex
  rw [if_neg (by omega)]
  exact h1
theorem lex_places {l : Bs} {ps : List (Nat × Tk)} (h : lex l = .ok ps) (k : Nat) (hk : k < ps.length) :
    ps[k].1 < l.length ∧ (∀ h0 : 0 < k, (ps[k - 1]'(by omega)).1 < ps[k].1) ∧ (k = 0 → ps[k].1 = sk false l) ∧
    (∃ qs, lex (l.take ps[k].1) = .ok qs ∧ qs.map (·.2) = (ps.take k).map (·.2)) ∧ (∃ qs, lex (l.drop ps[k].1) = .ok qs ∧ qs.map (·.2) = (ps.drop k).map (·.2)) := by
  obtain ⟨h3, hg⟩ := lex_len h
  have hps := (go_ok _ _ _ _ _ hg).2
  obtain ⟨f', a1, a2, a3⟩ := go_from k ps _ _ _ _ hg hk
  rw [Nat.sub_zero] at a2 a3
  have b1 := go_upto k ps _ _ _ _ hg hk
  rw [Nat.sub_zero] at b1
  refine ⟨a2, fun h0 => ?_, fun h0 => ?_, lex_of_go b1 (by rw [List.length_take]; omega) (by rw [List.length_take]; omega), lex_of_go a3 (by rw [List.length_drop]; omega) (by rw [List.length_drop]; omega)⟩
  · obtain ⟨f2, c1, c2, c3⟩ := go_from (k - 1) ps _ _ _ _ hg (by omega)
    rcases go_cons c3 with ⟨h1, _⟩ | ⟨g, t, n, ps', _, e2, e3, e4, e5, e6, e7⟩
    · have := congrArg List.length h1
      rw [List.length_drop] at this
      simp at this
      omega
    · have hps' : ps' = ps.drop k := by
        have := congrArg List.tail e7
        rw [List.tail_drop, show k - 1 + 1 = k by omega] at this
        exact this.symm
      subst hps'
      have hpos := (first_ok e5).2
      obtain ⟨_, d1, _, _⟩ := go_from 0 (ps.drop k) _ _ _ _ e6 (by rw [List.length_drop]; omega)
      simp only [List.getElem_drop, Nat.add_zero] at d1
      omega
  · subst h0
    rcases go_cons hg with ⟨h1, _⟩ | ⟨g, t, n, ps', _, e2, e3, e4, e5, e6, e7⟩
    · subst h1; simp at hk
    · subst e7
      simp
end LX
end Go.Proofs.YtoagobpkenfbkaaGreatDoor
