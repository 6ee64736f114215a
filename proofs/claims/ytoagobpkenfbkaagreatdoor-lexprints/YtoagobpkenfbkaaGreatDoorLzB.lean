/-
  What Lex answers, error or not, in one form.
-/
import Derived.Test.YtoagobpkenfbkaaGreatDoorAppT
namespace Go.Proofs.YtoagobpkenfbkaaGreatDoor
open Go.ChangeShapes Go.WideShapes Go.ChangeAt Go.RowKit
set_option linter.unusedVariables false
set_option linter.unusedSimpArgs false

theorem go_err : ∀ (f at_ : Nat) (l : List UInt8) (room k c : Nat), 0 < f → LX.go f at_ l room = .error (k, c) → l.length < f + 0 → c ≠ 0
  | 0, _, _, _, _, _, h0, _, _ => absurd h0 (by decide)
  | f + 1, at_, l, room, k, c, _, h, hl => by
    rw [LX.go_step] at h
    split at h
    · cases h
    · split at h
      · cases h; decide
      · split at h
        · rename_i e he
          cases h
          exact first_err he
        · rename_i b r hd _ _ t n hf
          split at h
          · rename_i e he
            obtain ⟨k', c'⟩ := e
            cases h
            have hpos := (LX.first_ok hf).2
            have hle := LX.first_le hf
            have hlen : (b :: r).length ≤ l.length := by rw [← hd, List.length_drop]; omega
            simp only [List.length_cons] at hlen hle
            refine go_err f _ _ _ _ _ (by omega) he ?_
            rw [List.length_drop]
            simp only [List.length_cons]
            omega
          · cases h
theorem lex_err {l : List UInt8} {k c : Nat} (h : LX.lex l = .error (k, c)) : c ≠ 0 := by
  by_cases h3 : 300 < l.length
  · rw [LX.lex_long h3] at h
    cases h
    decide
  · rw [LX.lex_go h3] at h
    exact go_err _ _ _ _ _ _ (Nat.succ_pos _) h (by omega)
theorem lex_out (s : ByteArray) (w : World) (hs : s.size ≤ 140737488355327) (hT : Tb w) :
    Calls Tryz.prog 9 #[.string s] w fun e w' => ∃ (a : Option Addr) (cap : Nat) (k : Int) (c : Nat) (ps : List (Nat × LX.Tk)), e = .returned (.tuple #[.slice a ps.length cap, .int .i64 k, .int .i64 c]) ∧ Fr w w' ∧ Ot w.heap.size (.slice a ps.length cap) ps w' ∧ ((c = 0 ∧ k = 0 ∧ LX.lex s.data.toList = .ok ps) ∨ (c ≠ 0 ∧ ps = [] ∧ ∀ qs, LX.lex s.data.toList ≠ .ok qs)) := by
  refine (lex_any s w hs hT).mono ?_
  rintro e w' ⟨h1, hf⟩
  cases hX : LX.lex s.data.toList with
  | error p =>
    obtain ⟨k, c⟩ := p
    rw [hX] at h1
    exact ⟨none, 0, k, c, [], h1, hf, World.ownsRow_nil _ _ _ _, Or.inr ⟨lex_err hX, rfl, fun qs h => by cases h⟩⟩
  | ok ps =>
    rw [hX] at h1
    obtain ⟨v, rfl, ho⟩ := h1
    obtain ⟨a, cap, rfl⟩ : ∃ a cap, v = .slice a ps.length cap := by
      rcases ho.2 with ⟨hv, h0⟩ | ⟨g, cap, cur, hv, _⟩
      · exact ⟨none, 0, by rw [hv, h0]⟩
      · exact ⟨_, cap, hv⟩
    exact ⟨a, cap, 0, 0, ps, rfl, hf, ho, Or.inl ⟨rfl, rfl, rfl⟩⟩
theorem mem_signs_two {l : List UInt8} (h : l ∈ LX.signs) : l.length ≤ 2 := mem_signs_len h
theorem ok_bounds {t : LX.Tk} (h : LX.Ok t) : (-9223372036854775808 ≤ t.n ∧ t.n ≤ 9223372036854775807) ∧ t.s.length ≤ 9223372036854775807 := by
  obtain ⟨hc, hn⟩ := h
  unfold LX.chk at hc
  split at hc
  · cases hc
  split at hc
  · cases hc
  rename_i h1 h2
  split at hc
  · rename_i hk
    have hn0 : t.n = 0 := by
      by_cases h0 : t.n = 0
      · exact h0
      · exact absurd (Or.inl ⟨h0, by omega⟩) h2
    refine ⟨by omega, ?_⟩
    unfold LX.chkWord at hc
    split at hc
    · cases hc
    · rename_i b r hs
      split at hc
      · split at hc
        · cases hc
        · rw [hs]; omega
      · cases hc
  split at hc
  · rename_i hk
    split at hc
    · cases hc
    · have hs0 : t.s = [] := by
        by_cases h0 : t.s = []
        · exact h0
        · exact absurd (Or.inr ⟨h0, hk⟩) h2
      rw [hs0]
      exact ⟨by omega, by simp⟩
  rename_i hk1 hk2
  have hn0 : t.n = 0 := by
    by_cases h0 : t.n = 0
    · exact h0
    · exact absurd (Or.inl ⟨h0, hk2⟩) h2
  split at hc
  · split at hc
    · rename_i hm
      have := mem_signs_len hm
      exact ⟨by omega, by omega⟩
    · cases hc
  split at hc
  · cases hc
  · exact ⟨by omega, by omega⟩
theorem fe_zero : ∀ {ts : List LX.Tk}, (∀ t ∈ ts, LX.chk t = 0) → fe ts = 0
  | [], _ => rfl
  | t :: r, h => by rw [fe_ok (h t (by simp))]; exact fe_zero (fun x hx => h x (by simp [hx]))
theorem prE_ok {ts : List LX.Tk} (hok : ∀ t ∈ ts, LX.chk t = 0) (h : ts.length ≤ 120) : prE ts = if 300 < (LX.pt ts).length then 2 else 0 := by
  unfold prE
  rw [if_neg (by omega), if_neg (by rw [fe_zero hok]; simp)]
end Go.Proofs.YtoagobpkenfbkaaGreatDoor
