/-
  A token of a text that goes on is the token of the text cut behind it; and with a blank behind it.
-/
import Derived.Test.YtoagobpkenfbkaaGreatDoorLxD
namespace Go.Proofs.YtoagobpkenfbkaaGreatDoor
namespace LX
open VS (Bs dig)
set_option linter.unusedVariables false

theorem run_cut (p : UInt8 → Bool) : ∀ (u v : Bs), run p (u ++ v) ≤ u.length → run p u = run p (u ++ v)
  | [], v, h => by
    have : run p v = 0 := by simpa using h
    rw [List.nil_append, this]; rfl
  | b :: u, v, h => by
    by_cases hb : p b = true
    · rw [List.cons_append, run_step p b _ hb] at h ⊢
      rw [run_step p b _ hb, run_cut p u v (by simp at h; omega)]
    · rw [List.cons_append, run_zero p b _ (not_true hb), run_zero p b _ (not_true hb)]
theorem run_more (p : UInt8 → Bool) : ∀ (u v : Bs), (v = [] ∨ ∃ b t, v = b :: t ∧ p b = false) → run p (u ++ v) = run p u
  | [], v, h => by
    rcases h with rfl | ⟨b, t, rfl, hb⟩
    · rfl
    · rw [List.nil_append, run_zero p b t hb]; rfl
  | b :: u, v, h => by
    by_cases hb : p b = true
    · rw [List.cons_append, run_step p b _ hb, run_step p b _ hb, run_more p u v h]
    · rw [List.cons_append, run_zero p b _ (not_true hb), run_zero p b _ (not_true hb)]
theorem qend_le : ∀ (k : Nat) (l : Bs) (n : Nat), l.length ≤ k → qend l = some n → 0 < n ∧ n ≤ l.length
  | _, [], n, _, h => by cases h
  | _, [b], n, _, h => by
    have h' : (if b.toNat = 39 then some 1 else none) = some n := h
    split at h'
    · cases h'; simp
    · cases h'
  | 0, _ :: _ :: _, _, h, _ => by simp at h
  | k + 1, b :: c :: r, n, hk, h => by
    unfold qend at h
    split at h
    · split at h
      · obtain ⟨m, hm, rfl⟩ := Option.map_eq_some_iff.1 h
        have := qend_le k r m (by simp at hk; omega) hm
        simp; omega
      · cases h; simp
    · obtain ⟨m, hm, rfl⟩ := Option.map_eq_some_iff.1 h
      have := qend_le k (c :: r) m (by simp at hk ⊢; omega) hm
      simp at this ⊢; omega
/-- a text's end does not hang on what is behind it -/
theorem qend_cut : ∀ (k : Nat) (u v : Bs) (n : Nat), u.length ≤ k → qend (u ++ v) = some n → n ≤ u.length → qend u = some n
  | _, [], v, n, _, h, hn => by
    have := qend_le v.length v n (Nat.le_refl _) h
    simp at hn; omega
  | _, [b], v, n, _, h, hn => by
    obtain rfl : n = 1 := by
      have := qend_le _ _ n (Nat.le_refl _) h
      simp at hn; omega
    cases v with
    | nil => exact h
    | cons c v =>
      rw [List.singleton_append] at h
      unfold qend at h
      split at h
      · rename_i hb
        split at h
        · obtain ⟨m, hm, he⟩ := Option.map_eq_some_iff.1 h
          omega
        · show (if b.toNat = 39 then some 1 else none) = some 1
          rw [if_pos hb]
      · obtain ⟨m, hm, he⟩ := Option.map_eq_some_iff.1 h
        have := qend_le _ _ m (Nat.le_refl _) hm
        omega
  | 0, _ :: _ :: _, _, _, h, _, _ => by simp at h
  | k + 1, b :: c :: u, v, n, hk, h, hn => by
    rw [List.cons_append, List.cons_append] at h
    unfold qend at h ⊢
    split at h
    · rename_i hb
      rw [if_pos hb]
      split at h
      · rename_i hc
        rw [if_pos hc]
        obtain ⟨m, hm, rfl⟩ := Option.map_eq_some_iff.1 h
        rw [qend_cut k u v m (by simp at hk; omega) hm (by simp at hn; omega)]
        rfl
      · rename_i hc
        rw [if_neg hc]
        exact h
    · rename_i hb
      rw [if_neg hb]
      obtain ⟨m, hm, rfl⟩ := Option.map_eq_some_iff.1 h
      rw [← List.cons_append] at hm
      rw [qend_cut k (c :: u) v m (by simp at hk ⊢; omega) hm (by simp at hn ⊢; omega)]
      rfl
theorem qend_more : ∀ (k : Nat) (u v : Bs) (n : Nat), u.length ≤ k → qend u = some n → v.head? ≠ some 39 → qend (u ++ v) = some n
  | _, [], v, n, _, h, _ => by cases h
  | _, [b], v, n, _, h, hv => by
    have h' : (if b.toNat = 39 then some 1 else none) = some n := h
    split at h'
    · rename_i hb
      cases h'
      cases v with
      | nil => exact h
      | cons c v =>
        have hc : c.toNat ≠ 39 := fun e => hv (by rw [UInt8.toNat_inj.1 (show c.toNat = (39 : UInt8).toNat from e)]; rfl)
        rw [List.singleton_append]
        unfold qend
        rw [if_pos hb, if_neg hc]
    · cases h'
  | 0, _ :: _ :: _, _, _, h, _, _ => by simp at h
  | k + 1, b :: c :: u, v, n, hk, h, hv => by
    rw [List.cons_append, List.cons_append]
    unfold qend at h ⊢
    split at h
    · rename_i hb
      rw [if_pos hb]
      split at h
      · rename_i hc
        rw [if_pos hc]
        obtain ⟨m, hm, rfl⟩ := Option.map_eq_some_iff.1 h
        rw [qend_more k u v m (by simp at hk; omega) hm hv]
        rfl
      · rename_i hc
        rw [if_neg hc]
        exact h
    · rename_i hb
      rw [if_neg hb]
      obtain ⟨m, hm, rfl⟩ := Option.map_eq_some_iff.1 h
      rw [← List.cons_append, qend_more k (c :: u) v m (by simp at hk ⊢; omega) hm hv]
      rfl
theorem take_more {u v : Bs} {n : Nat} (h : n ≤ u.length) : (u ++ v).take n = u.take n := List.take_append_of_le_length h
theorem lit_more {k : Int} {u v : Bs} {n : Nat} (h : n ≤ u.length) : lit k (u ++ v) n = lit k u n := by
  unfold lit
  rw [take_more h]
theorem pre_more {p u v : Bs} (h : pre p u = true) : pre p (u ++ v) = true := by
  unfold pre at *
  rw [List.isPrefixOf_iff_prefix] at *
  exact h.trans (List.prefix_append u v)
theorem pre_cut {p u v : Bs} (h : pre p (u ++ v) = true) (hl : p.length ≤ u.length) : pre p u = true := by
  unfold pre at *
  rw [List.isPrefixOf_iff_prefix] at *
  exact List.prefix_of_prefix_length_le h (List.prefix_append u v) hl
theorem find_cut (ps : List Bs) (u v p : Bs) (h : ps.find? (fun q => pre q (u ++ v)) = some p) (hl : p.length ≤ u.length) : ps.find? (fun q => pre q u) = some p := by
  induction ps with
  | nil => cases h
  | cons q ps ih =>
    rw [List.find?_cons] at h ⊢
    cases hq : pre q (u ++ v) with
    | true =>
      rw [hq] at h
      simp only [Option.some.injEq] at h
      subst h
      rw [pre_cut hq hl]
    | false =>
      rw [hq] at h
      have : pre q u = false := not_true (fun hu => by rw [pre_more hu] at hq; cases hq)
      rw [this]
      exact ih h
theorem bsize_is {r : Bs} (h : bsize r ≠ 0) : bsize r = run hexd r + 3 ∧ run hexd r < r.length := by
  unfold bsize at *
  split at h
  · rename_i c t hc
    split at h
    · rename_i h39
      rw [if_pos h39]
      refine ⟨rfl, ?_⟩
      rcases Nat.lt_or_ge (run hexd r) r.length with hl | hl
      · exact hl
      · rw [List.drop_of_length_le hl] at hc
        cases hc
    · exact absurd rfl h
  · exact absurd rfl h
theorem number_size {l : Bs} {t : Tk} {n : Nat} (h : number l = .ok (t, n)) : n = run dig l := by
  unfold number at h
  have fin : ∀ r : VS.Rd, (if r.e = 0 then (Except.ok (⟨2, r.n, []⟩, run dig l) : Except Nat (Tk × Nat)) else .error r.e) = .ok (t, n) → n = run dig l := by
    intro r hr
    split at hr
    · simp only [Except.ok.injEq, Prod.mk.injEq] at hr; exact hr.2.symm
    · cases hr
  split at h
  · split at h
    · cases h
    · exact fin _ h
  · exact fin _ h
/-- the token of a text that goes on, cut behind it -/
theorem first_cut {u v : Bs} {t : Tk} {n : Nat} (h : first (u ++ v) = .ok (t, n)) (hn : n ≤ u.length) : first u = .ok (t, n) := by
  have h0 := (first_ok h).2
  cases u with
  | nil => simp at hn; omega
  | cons b r =>
    rw [List.cons_append] at h
    unfold first at h ⊢
    simp only at h ⊢
    split at h
    · rename_i hb
      rw [if_pos hb]
      obtain ⟨_, hs, hz⟩ := lit_ok (Or.inl rfl) h
      have hq : qsize r = qsize (r ++ v) := by
        unfold qsize at *
        cases hx : qend (r ++ v) with
        | none => rw [hx] at hz; exact absurd rfl hz
        | some m =>
          rw [hx] at hs
          simp only at hs
          rw [qend_cut r.length r v m (Nat.le_refl _) hx (by simp at hn; omega)]
      rw [hq, ← hs]
      rw [← hs, ← List.cons_append, lit_more hn] at h
      exact h
    · rename_i hb
      rw [if_neg hb]
      split at h
      · rename_i hx
        obtain ⟨_, hs, hz⟩ := lit_ok (Or.inr rfl) h
        have hr : ∃ r', r = 39 :: r' := by
          cases r with
          | nil =>
            exfalso
            have := bsize_is hz
            simp at hn
            omega
          | cons c r' =>
            simp only [List.cons_append, List.head?_cons, Option.some.injEq] at hx
            exact ⟨r', by rw [hx.2]⟩
        obtain ⟨r', rfl⟩ := hr
        rw [if_pos ⟨hx.1, rfl⟩]
        simp only [List.cons_append, List.tail_cons] at h hs hz ⊢
        have hbs := bsize_is hz
        have hle : run hexd (r' ++ v) < r'.length := by simp at hn; omega
        have hrun := run_cut hexd r' v (by omega)
        have hb2 : bsize r' = bsize (r' ++ v) := by
          unfold bsize
          rw [hrun, List.drop_append_of_le_length (by omega)]
          obtain ⟨c, t', hc⟩ : ∃ c t', r'.drop (run hexd (r' ++ v)) = c :: t' := by
            cases hd : r'.drop (run hexd (r' ++ v)) with
            | nil => have := List.drop_eq_nil_iff.1 hd; omega
            | cons c t' => exact ⟨c, t', rfl⟩
          rw [hc]
          rfl
        rw [hb2, ← hs]
        rw [← hs] at h
        have := lit_more (k := 4) (u := b :: 39 :: r') (v := v) (n := n) hn
        rw [List.cons_append, List.cons_append] at this
        rw [this] at h
        exact h
      · rename_i hx
        have hx' : ¬ ((b.toNat = 120 ∨ b.toNat = 88) ∧ r.head? = some 39) := by
          rintro ⟨h1, h2⟩
          apply hx
          refine ⟨h1, ?_⟩
          cases r with
          | nil => cases h2
          | cons c r => exact h2
        rw [if_neg hx']
        split at h
        · rename_i hl
          rw [if_pos hl]
          rw [← List.cons_append] at h
          unfold word at h ⊢
          split at h
          · cases h
          · rename_i h12
            simp only [Except.ok.injEq, Prod.mk.injEq] at h
            obtain ⟨h1, h2⟩ := h
            rw [run_cut inWord (b :: r) v (by omega), if_neg h12, ← take_more (v := v) (by omega), h1, h2]
        · rename_i hl
          rw [if_neg hl]
          split at h
          · rename_i hd
            rw [if_pos hd]
            rw [← List.cons_append] at h
            have hsz : n = run dig (b :: r ++ v) := number_size h
            have hrun := run_cut dig (b :: r) v (by omega)
            unfold number at h ⊢
            rw [hrun]
            rw [take_more (by omega)] at h
            rcases Nat.lt_or_ge (run dig (b :: r ++ v)) (b :: r).length with hlt | hge
            · rw [List.drop_append_of_le_length (by omega)] at h
              obtain ⟨c, t', hc⟩ : ∃ c t', (b :: r).drop (run dig (b :: r ++ v)) = c :: t' := by
                cases hdd : (b :: r).drop (run dig (b :: r ++ v)) with
                | nil => have := List.drop_eq_nil_iff.1 hdd; omega
                | cons c t' => exact ⟨c, t', rfl⟩
              rw [hc] at h ⊢
              exact h
            · rw [List.drop_of_length_le hge]
              split at h
              · split at h
                · cases h
                · exact h
              · exact h
          · rename_i hd
            rw [if_neg hd]
            rw [← List.cons_append] at h
            unfold sign at h ⊢
            split at h
            · rename_i p hp
              simp only [Except.ok.injEq, Prod.mk.injEq] at h
              obtain ⟨h1, h2⟩ := h
              rw [find_cut signs (b :: r) v p hp (by omega)]
              simp only
              rw [h1, h2]
            · cases h
end LX
end Go.Proofs.YtoagobpkenfbkaaGreatDoor
