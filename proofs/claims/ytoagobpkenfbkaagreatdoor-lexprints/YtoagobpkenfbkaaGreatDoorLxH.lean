/-
  Two texts with a line's end between have the tokens of both; blanks and remarks at both ends are no matter.
-/
import Derived.Test.YtoagobpkenfbkaaGreatDoorLxG
namespace Go.Proofs.YtoagobpkenfbkaaGreatDoor
namespace LX
open VS (Bs dig)
set_option linter.unusedVariables false

theorem go_join : ∀ (ps : List (Nat × Tk)) (f at_ : Nat) (u v : Bs) (room f' at' room' : Nat) (qs : List (Nat × Tk)), go f at_ u room = .ok ps → Ends v → sk true v = sk false v →
    (∀ a r, qs.length ≤ r → ∃ rs, go (f' - ps.length) a v r = .ok rs ∧ rs.map (·.2) = qs.map (·.2)) → ps.length + qs.length ≤ room' → ps.length + qs.length < f' → ∃ rs, go f' at' (u ++ v) room' = .ok rs ∧ rs.map (·.2) = ps.map (·.2) ++ qs.map (·.2)
  | [], f, at_, u, v, room, f', at', room', qs, h, hv, hk, hq, hr, hf => by
    have h45 : v.head? ≠ some 45 := by
      rcases hv with rfl | ⟨b, t, rfl, hb⟩
      · simp
      · simp only [List.head?_cons, ne_eq, Option.some.injEq]
        rintro rfl
        revert hb
        decide
    rcases go_cons h with ⟨_, h1⟩ | ⟨_, _, _, _, _, _, _, _, _, _, h1⟩
    · have hall := sk_all u v false h1 hk h45
      cases f' with
      | zero => simp at hf
      | succ f' =>
        obtain ⟨rs, r1, r2⟩ := hq (at' + u.length) room' (by simp at hr; omega)
        simp only [List.length_nil, Nat.sub_zero] at r1
        refine ⟨rs, ?_, by simpa using r2⟩
        rw [go_step] at r1 ⊢
        rw [hall, List.drop_append, Nat.add_sub_cancel_left, List.drop_of_length_le (show u.length ≤ u.length + sk false v by omega), List.nil_append, ← Nat.add_assoc]
        exact r1
    · cases h1
  | p :: ps, f, at_, u, v, room, f', at', room', qs, h, hv, hk, hq, hr, hf => by
    have h45 : v.head? ≠ some 45 := by
      rcases hv with rfl | ⟨b, t, rfl, hb⟩
      · simp
      · simp only [List.head?_cons, ne_eq, Option.some.injEq]
        rintro rfl
        revert hb
        decide
    rcases go_cons h with ⟨h1, _⟩ | ⟨g, t, n, ps', _, _, h3, h4, h5, h6, h7⟩
    · cases h1
    · cases h7
      cases f' with
      | zero => simp at hf
      | succ f' =>
        simp only [List.length_cons] at hr hf hq
        have hsk := sk_some u v false (by omega) h45
        obtain ⟨rs, r1, r2⟩ := go_join ps g _ _ v _ f' (at' + sk false u + n) (room' - 1) qs h6 hv hk (by
          intro a r har
          have := hq a r har
          rwa [show f' + 1 - (ps.length + 1) = f' - ps.length by omega] at this) (by omega) (by omega)
        refine ⟨(at' + sk false u, t) :: rs, ?_, by simp [r2]⟩
        have := go_mk (f := f') (at_ := at') (l := u ++ v) (room := room') (t := t) (n := n) (ps := rs) (by omega) (by
          rw [hsk, List.drop_append_of_le_length (by omega)]
          exact first_more h5 hv) (by
          rw [hsk, List.drop_append_of_le_length (by omega)]
          exact r1)
        rw [hsk] at this
        exact this
def ahead : Bs := [32, 9, 45, 45, 39, 120, 10]
def behind : Bs := [32, 45, 45, 32, 110, 111, 32, 109, 111, 114, 101]
theorem sk_ahead (l : Bs) : sk false (ahead ++ l) = 7 + sk false l := by
  show sk false (32 :: 9 :: 45 :: 45 :: 39 :: 120 :: 10 :: l) = _
  rw [sk_f, if_pos (by decide), sk_f, if_pos (by decide), sk_f, if_neg (by decide), if_pos ⟨rfl, rfl⟩, sk_t, if_neg (by decide), sk_t, if_neg (by decide), sk_t, if_neg (by decide), sk_t, if_pos (by decide)]
  omega
theorem len_tokens {ps : List (Nat × Tk)} : ∀ {f at_ : Nat} {l : Bs} {room : Nat}, go f at_ l room = .ok ps → ps.length ≤ l.length := by
  induction ps with
  | nil => intro f at_ l room _; exact Nat.zero_le _
  | cons p ps ih =>
    intro f at_ l room h
    rcases go_cons h with ⟨h1, _⟩ | ⟨g, t, n, ps', _, _, h3, h4, h5, h6, h7⟩
    · cases h1
    · cases h7
      have := ih h6
      rw [List.length_drop] at this
      simp only [List.length_cons]
      omega
/-- blanks and remarks at both ends are no matter; and two texts with a line's end between have the tokens of both -/
theorem lex_blanks (s t : Bs) (ps qs : List (Nat × Tk)) (hs : lex s = .ok ps) (ht : lex t = .ok qs) (h1 : s.length ≤ 140) (h2 : t.length ≤ 140) (h3 : ps.length ≤ 60) (h4 : qs.length ≤ 60) : ∃ rs, lex (ahead ++ s ++ [10] ++ t ++ behind) = .ok rs ∧ rs.map (·.2) = ps.map (·.2) ++ qs.map (·.2) := by
  unfold lex at hs ht
  rw [if_neg (by omega)] at hs ht
  have lp := len_tokens hs
  have lq := len_tokens ht
  have eB : behind.length = 11 := rfl
  have eA : ahead.length = 7 := rfl
  have hlen : (ahead ++ s ++ [10] ++ t ++ behind).length = s.length + t.length + 19 := by simp [eA, eB]; omega
  unfold lex
  rw [if_neg (by omega)]
  -- what is behind the second text
  have kB : sk true behind = sk false behind := by decide
  have nB : sk false behind = behind.length := by decide
  have endB : Ends behind := Or.inr ⟨32, _, rfl, by decide⟩
  have tB : ∀ (f : Nat), qs.length < f → ∀ a r, qs.length ≤ r → ∃ rs, go f a (t ++ behind) r = .ok rs ∧ rs.map (·.2) = qs.map (·.2) := by
    intro f hf a r har
    obtain ⟨rs, r1, r2⟩ := go_join qs _ _ t behind _ f a r [] ht endB kB (fun a' r' _ => by
      obtain ⟨g, hg⟩ : ∃ g, f - qs.length = g + 1 := ⟨f - qs.length - 1, by omega⟩
      exact ⟨[], by rw [hg]; exact go_end nB, rfl⟩) (by simpa using har) (by simpa using hf)
    exact ⟨rs, r1, by simpa using r2⟩
  -- behind the first text
  have kN : sk true (10 :: (t ++ behind)) = sk false (10 :: (t ++ behind)) := by rw [sk_t, sk_f, if_pos (by decide), if_pos (by decide)]
  have endN : Ends (10 :: (t ++ behind)) := Or.inr ⟨10, _, rfl, by decide⟩
  have nl : ∀ (f : Nat), qs.length < f → ∀ a r, qs.length ≤ r → ∃ rs, go f a (10 :: (t ++ behind)) r = .ok rs ∧ rs.map (·.2) = qs.map (·.2) := by
    intro f hf a r har
    obtain ⟨rs, r1, r2⟩ := tB f hf (a + 1) r har
    refine ⟨rs, ?_, r2⟩
    cases f with
    | zero => cases r1
    | succ f =>
      have e : sk false (10 :: (t ++ behind)) = sk false (t ++ behind) + 1 := by rw [sk_f, if_pos (by decide)]
      rw [go_step] at r1 ⊢
      rw [e, List.drop_succ_cons, show a + (sk false (t ++ behind) + 1) = a + 1 + sk false (t ++ behind) by omega]
      exact r1
  obtain ⟨rs, r1, r2⟩ := go_join ps _ _ s (10 :: (t ++ behind)) _ (s.length + t.length + 20) 7 120 qs hs endN kN (fun a r har => nl _ (by omega) a r har) (by omega) (by omega)
  refine ⟨rs, ?_, r2⟩
  have e2 : ahead ++ s ++ [10] ++ t ++ behind = ahead ++ (s ++ 10 :: (t ++ behind)) := by simp
  rw [hlen, e2]
  rw [show s.length + t.length + 19 + 1 = s.length + t.length + 19 + 1 from rfl, go_step]
  rw [show s.length + t.length + 20 = (s.length + t.length + 19) + 1 from rfl, go_step] at r1
  rw [sk_ahead, List.drop_append, eA, Nat.add_sub_cancel_left, List.drop_of_length_le (show ahead.length ≤ 7 + sk false (s ++ 10 :: (t ++ behind)) by rw [eA]; omega), List.nil_append, Nat.zero_add]
  exact r1
end LX
end Go.Proofs.YtoagobpkenfbkaaGreatDoor
