/-
  What Play answers is right, or no store.
-/
import Derived.Test.YtklldfkaihpkiaaJnU
namespace Go.Proofs.Ytklldfkaihpkiaa
namespace JN
theorem playO_badD : ∀ (l : List O) (s : S), (playO s l).2 ≠ 0 → (playO s l).1 = noneS
  | [], s, h => absurd rfl h
  | o :: l, s, h => by
    unfold playO at h ⊢
    by_cases e : (opS s o).2 = 0
    · rw [if_pos e] at h ⊢; exact playO_badD l _ h
    · rw [if_neg e]
theorem play_badD (s : S) (l : List O) (h : (playS s l).2 ≠ 0) : (playS s l).1 = noneS := by
  unfold playS at h ⊢
  by_cases a : schk s = 0
  · rw [if_pos a] at h ⊢
    by_cases b : 100 < l.length
    · rw [if_pos b]
    · rw [if_neg b] at h ⊢; exact playO_badD l s h
  · rw [if_neg a]
theorem playO_okD : ∀ (l : List O) (s : S), OkS s → (playO s l).2 = 0 → OkS (playO s l).1
  | [], s, h, _ => h
  | o :: l, s, h, h2 => by
    unfold playO at h2 ⊢
    by_cases e : (opS s o).2 = 0
    · rw [if_pos e] at h2 ⊢; exact playO_okD l _ (op_ok h e).1 h2
    · rw [if_neg e] at h2; exact absurd h2 e
theorem play_okD {s : S} {l : List O} (h : (playS s l).2 = 0) : OkS (playS s l).1 := by
  obtain ⟨hs, _, e⟩ := playS_err h
  rw [e] at h ⊢
  exact playO_okD l s hs h
/-- how long its lists are at most -/
structure Few (s : S) : Prop where
  a : s.da.pg.length ≤ 48
  b : s.da.wt.length ≤ 48
  c : s.jo.pg.length ≤ 48
  d : s.jo.wt.length ≤ 48
theorem few_none : Few noneS := ⟨by decide, by decide, by decide, by decide⟩
theorem few_ok {s : S} (h : OkS s) : Few s := ⟨by have := h.da.len; omega, h.da.many, by have := h.jo.len; omega, h.jo.many⟩
theorem few_play (s : S) (l : List O) : Few (playS s l).1 := by
  by_cases h : (playS s l).2 = 0
  · exact few_ok (play_okD h)
  · rw [play_badD s l h]; exact few_none
theorem few_rec (s : S) : Few (recS s).1 := by
  unfold recS
  by_cases h : (undoS s).2 = 0
  · rw [if_pos h]; exact few_play _ _
  · rw [if_neg h]; exact few_none
end JN
end Go.Proofs.Ytklldfkaihpkiaa
