/-
  What is shown is read as it was; what is read is shown as it stood.
-/
import Derived.Test.YtoagobpkenfbkaaGreatDoorVsNum
namespace Go.Proofs.YtoagobpkenfbkaaGreatDoor
namespace VS

theorem isDec_cons (b : UInt8) (r : Bs) : isDec (b :: r) = if b.toNat = 45 then dgs true r else dgs false (b :: r) := rfl
theorem dgs_cons (w : Bool) (b : UInt8) (r : Bs) : dgs w (b :: r) = (!(b.toNat == 48 && (w || !r.isEmpty)) && (b :: r).all dig) := rfl
theorem unq_cons (b : UInt8) (r : Bs) : unq (b :: r) = if b.toNat = 39 ∧ r.getLast? = some 39 then some r.dropLast else none := rfl
theorem trx_cons (b : UInt8) (r : Bs) : trx (b :: r) = if b.toNat = 120 then r else b :: r := rfl
theorem dgs_iff (below : Bool) (l : Bs) : dgs below l = true ↔ l ≠ [] ∧ l.all dig = true ∧ (∀ b r, l = b :: r → b.toNat = 48 → below = false ∧ r = []) := by
  cases l with
  | nil => simp [dgs]
  | cons b r =>
    unfold dgs
    simp only [Bool.and_eq_true, Bool.not_eq_true', Bool.and_eq_false_iff, Bool.or_eq_false_iff, beq_eq_false_iff_ne, ne_eq, Bool.not_eq_false']
    constructor
    · rintro ⟨h1, h2⟩
      refine ⟨by simp, h2, fun b' r' e hb => ?_⟩
      simp only [List.cons.injEq] at e
      obtain ⟨rfl, rfl⟩ := e
      rcases h1 with h1 | ⟨h1, h3⟩
      · exact absurd hb h1
      · exact ⟨h1, by cases r with
          | nil => rfl
          | cons c r => cases h3⟩
    · rintro ⟨_, h2, h3⟩
      refine ⟨?_, h2⟩
      by_cases hb : b.toNat = 48
      · obtain ⟨rfl, rfl⟩ := h3 b r rfl hb
        exact Or.inr ⟨rfl, rfl⟩
      · exact Or.inl hb
/-- a number's own digits -/
theorem isDec_itoa (n : Int) : isDec (Lib.itoa n) = true := by
  unfold Lib.itoa
  split
  · rename_i hn
    obtain ⟨h1, h2, b, r, h3, h4⟩ := dec_facts n.natAbs
    rw [isDec_cons, if_pos (show UInt8.toNat 45 = 45 from rfl)]
    refine (dgs_iff true _).2 ⟨by rw [h3]; simp, h1, fun b' r' e hb => ?_⟩
    rw [h3] at e
    simp only [List.cons.injEq] at e
    have := h4 (by rw [e.1]; exact hb)
    omega
  · obtain ⟨h1, h2, b, r, h3, h4⟩ := dec_facts n.toNat
    rw [h3] at h1 ⊢
    have hb : dig b = true := by
      rw [List.all_cons, Bool.and_eq_true] at h1
      exact h1.1
    have hb45 : b.toNat ≠ 45 := by
      unfold dig at hb
      simp at hb
      omega
    rw [isDec_cons, if_neg hb45]
    refine (dgs_iff false _).2 ⟨by simp, h1, fun b' r' e hb => ?_⟩
    simp only [List.cons.injEq] at e
    exact ⟨rfl, by rw [← e.2]; exact (h4 (by rw [e.1]; exact hb)).2⟩
theorem parse_itoa (n : Int) (h0 : -9223372036854775808 ≤ n) (h1 : n ≤ 9223372036854775807) : Lib.parseIntB 64 (Lib.itoa n) = .ok n := by
  unfold Lib.itoa
  split
  · rename_i hn
    obtain ⟨h1, h2, b, r, h3, h4⟩ := dec_facts n.natAbs
    have hp : Lib.parseUintB 64 (Lib.decDigits n.natAbs) = .ok n.natAbs := by
      unfold Lib.parseUintB
      rw [if_neg (by rw [h3]; simp), parse_ok _ (by decide) _ _ h1 (by rw [h2]; show n.natAbs ≤ 18446744073709551615; omega), h2]
    unfold Lib.parseIntB
    simp only
    rw [if_pos (show UInt8.toNat 45 = 43 ∨ UInt8.toNat 45 = 45 from Or.inr rfl), hp]
    simp only
    rw [if_neg (show ¬ (¬UInt8.toNat 45 = 45 ∧ 2 ^ (64 - 1) ≤ n.natAbs) from fun h => h.1 rfl), if_neg (by rintro ⟨_, h⟩; have : (2 ^ (64 - 1) : Nat) = 9223372036854775808 := rfl; omega), if_pos (show UInt8.toNat 45 = 45 from rfl)]
    congr 1
    omega
  · rename_i hn
    obtain ⟨h1', h2, b, r, h3, h4⟩ := dec_facts n.toNat
    have hb : dig b = true := by
      rw [h3, List.all_cons, Bool.and_eq_true] at h1'
      exact h1'.1
    have hbb : 48 ≤ b.toNat ∧ b.toNat ≤ 57 := by
      unfold dig at hb
      simpa using hb
    have hp : Lib.parseUintB 64 (Lib.decDigits n.toNat) = .ok n.toNat := by
      unfold Lib.parseUintB
      rw [if_neg (by rw [h3]; simp), parse_ok _ (by decide) _ _ h1' (by rw [h2]; show n.toNat ≤ 18446744073709551615; omega), h2]
    rw [h3] at hp ⊢
    unfold Lib.parseIntB
    simp only
    rw [if_neg (by omega), hp]
    simp only
    rw [if_neg (by rintro ⟨_, h⟩; have : (2 ^ (64 - 1) : Nat) = 9223372036854775808 := rfl; omega), if_neg (by rintro ⟨h, _⟩; omega), if_neg (by omega)]
    congr 1
    omega
theorem isDec_head {b : UInt8} (r : Bs) (h1 : b.toNat ≠ 45) (h2 : dig b = false) : isDec (b :: r) = false := by
  rw [isDec_cons, if_neg h1, dgs_cons, List.all_cons, h2, Bool.false_and, Bool.and_false]
/-- what is shown of a right value is read as it was -/
theorem rd_shw (k n : Int) (s : Bs) (hk : 0 ≤ k ∧ k ≤ 3) (hn : k ≠ 1 → n = 0) (hs : ¬ (k = 2 ∨ k = 3) → s = []) (hl : s.length ≤ 16) (h0 : -9223372036854775808 ≤ n) (h1 : n ≤ 9223372036854775807) : rd (shw k n s) = ⟨k, n, s, 0⟩ := by
  unfold shw
  by_cases e1 : k = 1
  · subst e1
    rw [if_pos rfl]
    obtain rfl : s = [] := hs (by omega)
    have hd := isDec_itoa n
    have hnn : Lib.itoa n ≠ nul := by
      intro e
      rw [e] at hd
      exact absurd hd (by decide)
    unfold rd int
    rw [if_neg hnn, if_pos hd, parse_itoa n h0 h1]
  · rw [if_neg e1]
    obtain rfl : n = 0 := hn e1
    by_cases e2 : k = 2
    · subst e2
      rw [if_pos rfl]
      have hd : isDec (39 :: (s.flatMap dbl ++ [39])) = false := isDec_head _ (by decide) (by decide)
      have hnn : (39 :: (s.flatMap dbl ++ [39]) : Bs) ≠ nul := by intro e; exact absurd (List.cons.inj e).1 (by decide)
      show rd (39 :: (s.flatMap dbl ++ [39])) = _
      unfold rd
      rw [if_neg hnn, if_neg (by rw [hd]; decide), unq_mk 39 rfl]
      simp only
      rw [undbl_dbl]
      unfold txt
      simp only
      rw [if_neg (by omega)]
    · rw [if_neg e2]
      by_cases e3 : k = 3
      · subst e3
        rw [if_pos rfl]
        have hd : isDec (120 :: 39 :: (s.flatMap hx ++ [39])) = false := isDec_head _ (by decide) (by decide)
        have hnn : (120 :: 39 :: (s.flatMap hx ++ [39]) : Bs) ≠ nul := by intro e; exact absurd (List.cons.inj e).1 (by decide)
        have hu : unq (120 :: 39 :: (s.flatMap hx ++ [39])) = none := by rw [unq_cons, if_neg (by rintro ⟨h, _⟩; exact absurd h (by decide))]
        have ht : trx (120 :: 39 :: (s.flatMap hx ++ [39])) = 39 :: (s.flatMap hx ++ [39]) := by rw [trx_cons, if_pos (show UInt8.toNat 120 = 120 from rfl)]
        show rd (120 :: 39 :: (s.flatMap hx ++ [39])) = _
        unfold rd
        rw [if_neg hnn, if_neg (by rw [hd]; decide), hu]
        simp only
        rw [ht, unq_mk 39 rfl]
        simp only
        rw [unhx_hx]
        unfold txt
        simp only
        rw [if_neg (by omega)]
      · rw [if_neg e3]
        obtain rfl : k = 0 := by omega
        obtain rfl : s = [] := hs (by omega)
        rfl
end VS
end Go.Proofs.YtoagobpkenfbkaaGreatDoor
