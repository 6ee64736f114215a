/-
  What fits a table fits it with a column less strict, and with one more (the plain side).
-/
import Derived.Test.YtefojbfihnnpdaaDoorCtF
namespace Go.Proofs.YtefojbfihnnpdaaDoor
set_option linter.unusedVariables false
set_option linter.unusedSimpArgs false
namespace CT
def nul : VM.Vl := ⟨0, 0, ⟨#[]⟩⟩
theorem fit_nul (c : Cl) : fit c nul = if c.nn = true then 5 else 0 := by
  have hc : VM.chk nul = 0 := by decide
  unfold fit
  rw [hc, if_neg (by simp)]
  by_cases h : c.nn = true
  · rw [if_pos ⟨rfl, h⟩, if_pos h]
  · rw [if_neg (by simp [h]), if_neg (by simp [nul]), if_neg h]
theorem fitL_more (m : Cl) : ∀ (c : List Cl) (r : List VM.Vl), c.length = r.length → fitL c r = 0 → fitL (c ++ [m]) (r ++ [nul]) = fit m nul
  | [], [], _, _ => by
    show (if fit m nul ≠ 0 then fit m nul else fitL [] []) = fit m nul
    by_cases h : fit m nul = 0
    · rw [if_neg (by simp [h]), h]; rfl
    · rw [if_pos h]
  | x :: c, y :: r, hl, h => by
    have h1 : (if fit x y ≠ 0 then fit x y else fitL c r) = 0 := h
    by_cases h0 : fit x y = 0
    · rw [if_neg (by simp [h0])] at h1
      show (if fit x y ≠ 0 then fit x y else fitL (c ++ [m]) (r ++ [nul])) = _
      rw [if_neg (by simp [h0])]
      exact fitL_more m c r (by simpa using hl) h1
    · rw [if_pos h0] at h1
      exact absurd h1 h0
  | [], y :: r, hl, _ => by simp at hl
  | x :: c, [], hl, _ => by simp at hl
theorem fits_ok {s : Sc} {r : List VM.Vl} (h : fits s r = 0) : chk [s] = 0 ∧ r.length = s.c.length ∧ fitL s.c r = 0 := by
  unfold fits at h
  by_cases h0 : chk [s] = 0
  · rw [if_neg (by simp [h0])] at h
    by_cases h1 : r.length = s.c.length
    · rw [if_neg (by simp [h1])] at h
      exact ⟨h0, h1, h⟩
    · rw [if_pos h1] at h; cases h
  · rw [if_pos h0] at h
    exact absurd h h0
/-- with a column and a Null more -/
theorem fits_more {s : Sc} {r : List VM.Vl} (m : Cl) (h : fits s r = 0) (hw : chk [⟨s.id, s.n, s.c ++ [m]⟩] = 0) : fits ⟨s.id, s.n, s.c ++ [m]⟩ (r ++ [nul]) = if m.nn = true then 5 else 0 := by
  obtain ⟨_, h1, h2⟩ := fits_ok h
  unfold fits
  rw [hw, if_neg (by simp), if_neg (by simp [h1]), fitL_more m s.c r h1.symm h2, fit_nul]
/-- a column less strict -/
def loose (c : Cl) : Cl := ⟨c.n, 0, false, false⟩
theorem fit_loose {c : Cl} {v : VM.Vl} (h : fit c v = 0) : fit (loose c) v = 0 := by
  unfold fit at h ⊢
  by_cases h0 : VM.chk v = 0
  · rw [if_neg (by simp [h0]), if_neg (by simp [loose]), if_neg (by simp [loose])]
  · rw [if_pos h0] at h
    exact absurd h h0
theorem fitL_loose : ∀ (c : List Cl) (r : List VM.Vl) (k : Nat) (hk : k < c.length), fitL c r = 0 → fitL (c.set k (loose c[k])) r = 0
  | x :: c, y :: r, k, hk, h => by
    have h1 : (if fit x y ≠ 0 then fit x y else fitL c r) = 0 := h
    by_cases h0 : fit x y = 0
    · rw [if_neg (by simp [h0])] at h1
      cases k with
      | zero =>
        show (if fit (loose x) y ≠ 0 then fit (loose x) y else fitL c r) = 0
        rw [if_neg (by simp [fit_loose h0])]
        exact h1
      | succ k =>
        have hk' : k < c.length := by simpa using hk
        show (if fit x y ≠ 0 then fit x y else fitL (c.set k (loose c[k])) r) = 0
        rw [if_neg (by simp [h0])]
        exact fitL_loose c r k hk' h1
    · rw [if_pos h0] at h1
      exact absurd h1 h0
  | x :: c, [], k, hk, h => by
    cases k <;> rfl
theorem chkC_loose : ∀ (c : List Cl) (seen : List Bs) (k : Nat) (hk : k < c.length), chkC seen c = 0 → chkC seen (c.set k (loose c[k])) = 0
  | x :: c, seen, k, hk, h => by
    unfold chkC at h
    by_cases h1 : nm x.n = false
    · rw [if_pos h1] at h; simp at h
    rw [if_neg h1] at h
    by_cases h2 : x.k < 0 ∨ 3 < x.k
    · rw [if_pos h2] at h; simp at h
    rw [if_neg h2] at h
    by_cases h3 : bs x.n ∈ seen
    · rw [if_pos h3] at h; simp at h
    rw [if_neg h3] at h
    cases k with
    | zero =>
      show chkC seen (loose x :: c) = 0
      unfold chkC
      rw [if_neg (show ¬ nm (loose x).n = false from h1), if_neg (show ¬ ((loose x).k < 0 ∨ 3 < (loose x).k) by simp [loose]), if_neg (show ¬ bs (loose x).n ∈ seen from h3)]
      exact h
    | succ k =>
      have hk' : k < c.length := by simpa using hk
      show chkC seen (x :: c.set k (loose c[k])) = 0
      unfold chkC
      rw [if_neg h1, if_neg h2, if_neg h3]
      exact chkC_loose c _ k (by simpa using hk) h
theorem chk_one (s : Sc) (c : List Cl) (h : chk [s] = 0) (hc : chkT s.n s.c = 0 → chkT s.n c = 0) : chk [⟨s.id, s.n, c⟩] = 0 := by
  have hl : ¬ 6 < [s].length := by simp
  unfold chk at h ⊢
  rw [if_neg hl] at h
  rw [if_neg (by simp)]
  unfold chkS at h ⊢
  simp only
  by_cases h1 : s.id < 1 ∨ 999 < s.id
  · rw [if_pos h1] at h; simp at h
  rw [if_neg h1] at h ⊢
  by_cases h2 : s.id ≤ 0
  · rw [if_pos h2] at h; simp at h
  rw [if_neg h2] at h ⊢
  by_cases h3 : chkT s.n s.c = 0
  · rw [if_neg (by simp [hc h3]), if_neg (by simp)]
    rfl
  · rw [if_pos h3] at h
    exact absurd h h3
theorem fits_loose {s : Sc} {r : List VM.Vl} (k : Nat) (hk : k < s.c.length) (h : fits s r = 0) : fits ⟨s.id, s.n, s.c.set k (loose s.c[k])⟩ r = 0 := by
  obtain ⟨h0, h1, h2⟩ := fits_ok h
  have hc : chk [⟨s.id, s.n, s.c.set k (loose s.c[k])⟩] = 0 := by
    refine chk_one s _ h0 fun ht => ?_
    unfold chkT at ht ⊢
    by_cases g1 : nm s.n = false ∨ s.c = []
    · rw [if_pos g1] at ht; simp at ht
    rw [if_neg g1] at ht
    by_cases g2 : 6 < s.c.length
    · rw [if_pos g2] at ht; simp at ht
    rw [if_neg g2] at ht
    have g1' : ¬ (nm s.n = false ∨ s.c.set k (loose s.c[k]) = []) := by
      intro e
      rcases e with e | e
      · exact g1 (.inl e)
      · exact g1 (.inr (by simpa using e))
    rw [if_neg g1', if_neg (by rw [List.length_set]; exact g2)]
    exact chkC_loose s.c [] k hk ht
  unfold fits
  rw [hc, if_neg (by simp), if_neg (by simp [h1])]
  exact fitL_loose s.c r k hk h2
end CT
end Go.Proofs.YtefojbfihnnpdaaDoor
