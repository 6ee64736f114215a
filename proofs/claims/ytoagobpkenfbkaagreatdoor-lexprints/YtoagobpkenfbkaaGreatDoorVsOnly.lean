/-
  What is read is shown as it stood.
-/
import Derived.Test.YtoagobpkenfbkaaGreatDoorVsBack
namespace Go.Proofs.YtoagobpkenfbkaaGreatDoor
namespace VS

theorem unq_some {l t : Bs} (h : unq l = some t) : l = 39 :: (t ++ [39]) := by
  cases l with
  | nil => cases h
  | cons b r =>
    rw [unq_cons] at h
    split at h
    · rename_i hb
      rw [← Option.some.inj h]
      have e : b = 39 := UInt8.toNat_inj.1 hb.1
      have hne : r ≠ [] := by rintro rfl; simp at hb
      have hl : r.getLast hne = 39 := by
        have := hb.2
        rw [List.getLast?_eq_some_getLast hne] at this
        exact Option.some.inj this
      rw [e, ← hl, List.dropLast_concat_getLast hne]
    · cases h
theorem dbl_back : ∀ (n : Nat) (t u : Bs), t.length ≤ n → undbl t = some u → u.flatMap dbl = t
  | _, [], u, _, h => by
    obtain rfl := Option.some.inj h
    rfl
  | _, [b], u, _, h => by
    have h' : (if b.toNat = 39 then none else some [b]) = some u := h
    split at h'
    · cases h'
    · rename_i hb
      obtain rfl := Option.some.inj h'
      show dbl b ++ [] = [b]
      unfold dbl
      rw [if_neg hb]
      rfl
  | 0, _ :: _ :: _, _, hn, _ => by simp at hn
  | n + 1, b :: c :: r, u, hn, h => by
    have hl : (c :: r).length ≤ n := by simp only [List.length_cons] at hn ⊢; omega
    unfold undbl at h
    split at h
    · rename_i hb
      split at h
      · rename_i hc
        obtain ⟨v, hv, rfl⟩ := Option.map_eq_some_iff.1 h
        have ih := dbl_back n r v (by simp only [List.length_cons] at hl; omega) hv
        have eb : b = 39 := UInt8.toNat_inj.1 hb
        have ec : c = 39 := UInt8.toNat_inj.1 hc
        rw [List.flatMap_cons, ih, eb, ec]
        rfl
      · cases h
    · rename_i hb
      obtain ⟨v, hv, rfl⟩ := Option.map_eq_some_iff.1 h
      have ih := dbl_back n (c :: r) v hl hv
      rw [List.flatMap_cons, ih]
      unfold dbl
      rw [if_neg hb]
      rfl
theorem hxd_hxv {b : UInt8} {x : Nat} (h : hxv b = some x) : hxd x = b ∧ x < 16 := by
  have key : ∀ n : Fin 256, ∀ m : Fin 16, hxv (UInt8.ofNat n.val) = some m.val → hxd m.val = UInt8.ofNat n.val := by decide +kernel
  have hlt : x < 16 := by
    unfold hxv at h
    split at h
    · simp at h; omega
    · split at h
      · simp at h; omega
      · cases h
  have := key ⟨b.toNat, b.toNat_lt⟩ ⟨x, hlt⟩
  simp only [UInt8.ofNat_toNat] at this
  exact ⟨this h, hlt⟩
theorem hx_back : ∀ (n : Nat) (t u : Bs), t.length ≤ n → unhx t = some u → u.flatMap hx = t
  | _, [], u, _, h => by
    obtain rfl := Option.some.inj h
    rfl
  | _, [_], u, _, h => by cases h
  | 0, _ :: _ :: _, _, hn, _ => by simp at hn
  | n + 1, a :: b :: r, u, hn, h => by
    unfold unhx at h
    split at h
    · rename_i x y h1 h2
      obtain ⟨v, hv, rfl⟩ := Option.map_eq_some_iff.1 h
      have ih := hx_back n r v (by simp only [List.length_cons] at hn; omega) hv
      obtain ⟨e1, l1⟩ := hxd_hxv h1
      obtain ⟨e2, l2⟩ := hxd_hxv h2
      have hb : (UInt8.ofNat (16 * x + y)).toNat = 16 * x + y := by rw [UInt8.toNat_ofNat']; omega
      rw [List.flatMap_cons, ih]
      unfold hx
      rw [hb, show (16 * x + y) / 16 = x by omega, show (16 * x + y) % 16 = y by omega, e1, e2]
      rfl
    · cases h
theorem uint_back {r : Bs} {u : Nat} (hd : r.all dig = true) (hne : r ≠ []) (h : Lib.parseUintB 64 r = .ok u) : u = vl 0 r := by
  unfold Lib.parseUintB at h
  rw [if_neg hne] at h
  by_cases hv : vl 0 r ≤ 2 ^ 64 - 1
  · rw [parse_ok _ (by decide) r 0 hd hv] at h
    injection h with h
    exact h.symm
  · rw [parse_over _ r 0 hd (by omega) (by omega)] at h
    cases h
theorem int_back {l : Bs} {n : Int} (hd : isDec l = true) (h : Lib.parseIntB 64 l = .ok n) : Lib.itoa n = l ∧ -9223372036854775808 ≤ n ∧ n ≤ 9223372036854775807 := by
  cases l with
  | nil => exact absurd hd (by decide)
  | cons b r =>
    rw [isDec_cons] at hd
    unfold Lib.parseIntB at h
    simp only at h
    by_cases h45 : b.toNat = 45
    · rw [if_pos h45] at hd
      obtain ⟨h1, h2, h3⟩ := (dgs_iff true r).1 hd
      rw [if_pos (Or.inr h45)] at h
      cases hu : Lib.parseUintB 64 r with
      | «syntax» => rw [hu] at h; cases h
      | range => rw [hu] at h; cases h
      | ok u =>
        rw [hu] at h
        simp only at h
        rw [if_neg (by intro hh; exact hh.1 h45)] at h
        split at h
        · cases h
        · rename_i hle
          injection h with h
          have eu := uint_back h2 h1 hu
          have hb := dec_back r.length r (Nat.le_refl _) h2 h1 (fun b' r' e hb' => ((h3 b' r' e hb').2))
          have hpos : u ≠ 0 := by
            intro h0
            rw [← eu, h0, Lib.decDigits_one (by decide)] at hb
            have := (h3 _ _ hb.symm (by rfl)).1
            cases this
          have hle2 : ¬ (9223372036854775808 < u) := fun hh => hle ⟨h45, hh⟩
          subst h
          refine ⟨?_, by omega, by omega⟩
          unfold Lib.itoa
          rw [if_pos (by omega), show (-(u : Int)).natAbs = u by omega, eu, hb, show b = 45 from UInt8.toNat_inj.1 h45]
    · rw [if_neg h45] at hd
      obtain ⟨h1, h2, h3⟩ := (dgs_iff false (b :: r)).1 hd
      have h43 : b.toNat ≠ 43 := by
        have := h2
        rw [List.all_cons, Bool.and_eq_true] at this
        have := this.1
        unfold dig at this
        simp at this
        omega
      rw [if_neg (by omega)] at h
      cases hu : Lib.parseUintB 64 (b :: r) with
      | «syntax» => rw [hu] at h; cases h
      | range => rw [hu] at h; cases h
      | ok u =>
        rw [hu] at h
        simp only at h
        split at h
        · cases h
        · rename_i hle
          rw [if_neg (by intro hh; exact h45 hh.1)] at h
          injection h with h
          have eu := uint_back h2 h1 hu
          have hb := dec_back (b :: r).length (b :: r) (Nat.le_refl _) h2 h1 (fun b' r' e hb' => ((h3 b' r' e hb').2))
          have hle2 : ¬ (9223372036854775808 ≤ u) := fun hh => hle ⟨h45, hh⟩
          subst h
          refine ⟨?_, by omega, by omega⟩
          unfold Lib.itoa
          rw [if_neg (by omega), show (u : Int).toNat = u by omega, eu, hb]
/-- what is read is shown as it stood -/
theorem shw_rd (l : Bs) (h : (rd l).e = 0) : shw (rd l).k (rd l).n (rd l).s = l ∧ (0 ≤ (rd l).k ∧ (rd l).k ≤ 3) ∧ ((rd l).k ≠ 1 → (rd l).n = 0) ∧ (¬ ((rd l).k = 2 ∨ (rd l).k = 3) → (rd l).s = []) ∧ (rd l).s.length ≤ 16 ∧ -9223372036854775808 ≤ (rd l).n ∧ (rd l).n ≤ 9223372036854775807 := by
  unfold rd at h ⊢
  split at h
  · rename_i hn
    simp only [if_pos hn]
    refine ⟨?_, by decide, by simp, by simp, by simp, by decide, by decide⟩
    rw [hn]; rfl
  · rename_i hn
    simp only [if_neg hn]
    split at h
    · rename_i hd
      simp only [if_pos hd]
      unfold int at h ⊢
      cases hp : Lib.parseIntB 64 l with
      | «syntax» => rw [hp] at h; exact absurd h (by decide)
      | range => rw [hp] at h; exact absurd h (by decide)
      | ok n =>
        obtain ⟨h1, h2, h3⟩ := int_back hd hp
        simp only
        refine ⟨?_, by decide, by simp, by simp, by simp, h2, h3⟩
        unfold shw
        rw [if_pos rfl]
        exact h1
    · rename_i hd
      simp only [if_neg hd]
      cases hu : unq l with
      | some t =>
        rw [hu] at h
        simp only at h ⊢
        unfold txt at h ⊢
        cases ho : undbl t with
        | none => rw [ho] at h; exact absurd h (by decide)
        | some u =>
          rw [ho] at h
          simp only at h ⊢
          split at h
          · exact absurd h (by decide)
          · rename_i hl
            rw [if_neg hl]
            simp only
            refine ⟨?_, by decide, by simp, by simp, by omega, by decide, by decide⟩
            unfold shw
            rw [if_neg (by decide), if_pos rfl, dbl_back t.length t u (Nat.le_refl _) ho, unq_some hu]
            rfl
      | none =>
        rw [hu] at h
        simp only at h ⊢
        cases hv : unq (trx l) with
        | none => rw [hv] at h; exact absurd h (by decide)
        | some t =>
          rw [hv] at h
          simp only at h ⊢
          unfold txt at h ⊢
          cases ho : unhx t with
          | none => rw [ho] at h; exact absurd h (by decide)
          | some u =>
            rw [ho] at h
            simp only at h ⊢
            split at h
            · exact absurd h (by decide)
            · rename_i hl
              rw [if_neg hl]
              simp only
              refine ⟨?_, by decide, by simp, by simp, by omega, by decide, by decide⟩
              unfold shw
              rw [if_neg (by decide), if_neg (by decide), if_pos rfl, hx_back t.length t u (Nat.le_refl _) ho]
              have e := unq_some hv
              cases l with
              | nil => cases e
              | cons b r =>
                rw [trx_cons] at e
                split at e
                · rename_i hb
                  rw [e, show b = 120 from UInt8.toNat_inj.1 hb]
                  rfl
                · rename_i hb
                  rw [trx_cons, if_neg hb, hu] at hv
                  cases hv
theorem rd_zero (l : Bs) (h : (rd l).e ≠ 0) : rd l = ⟨0, 0, [], (rd l).e⟩ := by
  have hb : ∀ e, bad e = ⟨0, 0, [], (bad e).e⟩ := fun _ => rfl
  unfold rd at h ⊢
  split at h
  · exact absurd rfl h
  · rename_i hn
    simp only [if_neg hn]
    split at h
    · rename_i hd
      simp only [if_pos hd]
      unfold int at h ⊢
      cases hp : Lib.parseIntB 64 l with
      | «syntax» => rfl
      | range => rfl
      | ok n => rw [hp] at h; exact absurd rfl h
    · rename_i hd
      simp only [if_neg hd]
      have tx : ∀ k o, (txt k o).e ≠ 0 → txt k o = ⟨0, 0, [], (txt k o).e⟩ := by
        intro k o
        unfold txt
        cases o with
        | none => intro _; rfl
        | some t =>
          simp only
          split
          · intro _; rfl
          · intro h; exact absurd rfl h
      cases hu : unq l with
      | some t =>
        rw [hu] at h
        exact tx _ _ h
      | none =>
        rw [hu] at h
        simp only at h ⊢
        cases hv : unq (trx l) with
        | none => rfl
        | some t =>
          rw [hv] at h
          exact tx _ _ h
end VS
end Go.Proofs.YtoagobpkenfbkaaGreatDoor
