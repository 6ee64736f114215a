/-
  A token stays what it is with a blank behind the text; blanks and remarks, byte by byte.
-/
import Derived.Test.YtoagobpkenfbkaaGreatDoorLxE
namespace Go.Proofs.YtoagobpkenfbkaaGreatDoor
namespace LX
open VS (Bs dig)
set_option linter.unusedVariables false

theorem two_signs {q : Bs} (h : q ∈ signs) : q.length = 1 ∨ ∃ a c, q = [a, c] ∧ (c.toNat = 62 ∨ c.toNat = 61) := by
  unfold signs at h
  simp only [List.mem_cons, List.not_mem_nil, or_false] at h
  rcases h with rfl | rfl | rfl | rfl | rfl | rfl | rfl | rfl | rfl | rfl | rfl | rfl | rfl | rfl | rfl
  · exact Or.inr ⟨60, 62, rfl, Or.inl rfl⟩
  · exact Or.inr ⟨60, 61, rfl, Or.inr rfl⟩
  · exact Or.inr ⟨62, 61, rfl, Or.inr rfl⟩
  all_goals exact Or.inl rfl
theorem pre_ends {q u v : Bs} (hq : q ∈ signs) (hu : u ≠ []) (hv : Ends v) (h : pre q (u ++ v) = true) : pre q u = true := by
  have hl : 0 < u.length := List.length_pos_iff.2 hu
  rcases two_signs hq with h1 | ⟨a, c, rfl, hc⟩
  · exact pre_cut h (by omega)
  · rcases Nat.lt_or_ge u.length 2 with h2 | h2
    · exfalso
      match u, hl, h2 with
      | [x], _, _ =>
        unfold pre at h
        rw [List.isPrefixOf_iff_prefix] at h
        obtain ⟨w, hw⟩ := h
        rcases hv with rfl | ⟨b, t, rfl, hb⟩
        · simp at hw
        · simp only [List.cons_append, List.nil_append, List.cons.injEq] at hw
          obtain ⟨_, rfl, _⟩ := hw
          have := blank_iff.1 hb
          omega
    · exact pre_cut h (by simpa using h2)
theorem find_more (ps : List Bs) (hps : ∀ q ∈ ps, q ∈ signs) (u v p : Bs) (hu : u ≠ []) (hv : Ends v) (h : ps.find? (fun q => pre q u) = some p) : ps.find? (fun q => pre q (u ++ v)) = some p := by
  induction ps with
  | nil => cases h
  | cons q ps ih =>
    rw [List.find?_cons] at h ⊢
    cases hq : pre q u with
    | true =>
      rw [hq] at h
      simp only [Option.some.injEq] at h
      subst h
      rw [pre_more hq]
    | false =>
      rw [hq] at h
      have : pre q (u ++ v) = false := not_true (fun hx => by rw [pre_ends (hps q (by simp)) hu hv hx] at hq; cases hq)
      rw [this]
      exact ih (fun x hx => hps x (by simp [hx])) h
theorem first_more {u v : Bs} {t : Tk} {n : Nat} (h : first u = .ok (t, n)) (hv : Ends v) : first (u ++ v) = .ok (t, n) := by
  cases u with
  | nil => cases h
  | cons b r =>
    rw [List.cons_append]
    unfold first at h ⊢
    simp only at h ⊢
    split at h
    · rename_i hb
      rw [if_pos hb]
      obtain ⟨_, hs, hz⟩ := lit_ok (Or.inl rfl) h
      have hq : qsize (r ++ v) = qsize r ∧ qsize r ≤ (b :: r).length := by
        unfold qsize at *
        cases hx : qend r with
        | none => rw [hx] at hz; exact absurd rfl hz
        | some m =>
          rw [qend_more r.length r v m (Nat.le_refl _) hx (ends_head hv)]
          have := qend_le r.length r m (Nat.le_refl _) hx
          exact ⟨rfl, by simp; omega⟩
      rw [hq.1, ← List.cons_append, lit_more hq.2]
      exact h
    · rename_i hb
      rw [if_neg hb]
      split at h
      · rename_i hx
        obtain ⟨_, hs, hz⟩ := lit_ok (Or.inr rfl) h
        obtain ⟨r', rfl⟩ : ∃ r', r = 39 :: r' := by
          cases r with
          | nil => simp at hx
          | cons c r' =>
            simp only [List.head?_cons, Option.some.injEq] at hx
            exact ⟨r', by rw [hx.2]⟩
        rw [if_pos ⟨hx.1, rfl⟩]
        simp only [List.cons_append, List.tail_cons] at h hs hz ⊢
        have hbs := bsize_is hz
        have hrun := run_more hexd r' v (ends_not hv _ (fun c hc => not_true (fun hd => by have := hexd_iff.1 hd; have := blank_iff.1 hc; omega)))
        have hb2 : bsize (r' ++ v) = bsize r' := by
          unfold bsize
          rw [hrun, List.drop_append_of_le_length (by omega)]
          obtain ⟨c, t', hc⟩ : ∃ c t', r'.drop (run hexd r') = c :: t' := by
            cases hd : r'.drop (run hexd r') with
            | nil => have := List.drop_eq_nil_iff.1 hd; omega
            | cons c t' => exact ⟨c, t', rfl⟩
          rw [hc]
          rfl
        have := lit_more (k := 4) (u := b :: 39 :: r') (v := v) (n := bsize r') (by simp; omega)
        rw [List.cons_append, List.cons_append] at this
        rw [hb2, this]
        exact h
      · rename_i hx
        have hx' : ¬ ((b.toNat = 120 ∨ b.toNat = 88) ∧ (r ++ v).head? = some 39) := by
          rintro ⟨h1, h2⟩
          cases r with
          | nil => exact ends_head hv h2
          | cons c r => exact hx ⟨h1, h2⟩
        rw [if_neg hx']
        split at h
        · rename_i hl
          rw [if_pos hl, ← List.cons_append]
          have hrun := run_more inWord (b :: r) v (ends_not hv _ (fun c hc => not_true (fun hd => by have := inWord_iff.1 hd; have := blank_iff.1 hc; omega)))
          unfold word at h ⊢
          rw [hrun, take_more (run_le inWord _)]
          exact h
        · rename_i hl
          rw [if_neg hl]
          split at h
          · rename_i hd
            rw [if_pos hd, ← List.cons_append]
            have hrun := run_more dig (b :: r) v (ends_not hv _ (fun c hc => not_true (fun hd => by have := dig_iff.1 hd; have := blank_iff.1 hc; omega)))
            unfold number at h ⊢
            rw [hrun, take_more (run_le dig _), List.drop_append_of_le_length (run_le dig _)]
            rcases run_drop dig (b :: r) with h0 | ⟨c, t', hc, _⟩
            · rw [h0] at h ⊢
              rw [List.nil_append]
              rcases hv with rfl | ⟨c, t', rfl, hc⟩
              · exact h
              · simp only at h ⊢
                rw [if_neg (fun hl => by have := letter_iff.1 hl; have := blank_iff.1 hc; omega)]
                exact h
            · rw [hc] at h ⊢
              rw [List.cons_append]
              exact h
          · rename_i hd
            rw [if_neg hd, ← List.cons_append]
            unfold sign at h ⊢
            split at h
            · rename_i p hp
              rw [find_more signs (fun q hq => hq) (b :: r) v p (by simp) hv hp]
              exact h
            · cases h

/-- blanks and remarks, byte by byte: within a remark or not -/
def sk : Bool → Bs → Nat
  | _, [] => 0
  | true, b :: r => if b.toNat = 10 then sk false r + 1 else sk true r + 1
  | false, b :: r => if blank b = true then sk false r + 1 else if b.toNat = 45 ∧ r.head? = some 45 then sk true r + 1 else 0
def ended (b : UInt8) : Bool := decide (b.toNat ≠ 10)
theorem sk_le : ∀ (m : Bool) (l : Bs), sk m l ≤ l.length
  | _, [] => by cases ‹Bool› <;> exact Nat.le_refl _
  | true, b :: r => by
    have h1 := sk_le true r
    have h2 := sk_le false r
    unfold sk
    split <;> simp <;> omega
  | false, b :: r => by
    have h1 := sk_le true r
    have h2 := sk_le false r
    unfold sk
    split
    · simp; omega
    · split <;> simp <;> omega
theorem sk_line : ∀ l : Bs, sk true l = run (fun b => decide (b.toNat ≠ 10)) l + sk false (l.drop (run (fun b => decide (b.toNat ≠ 10)) l))
  | [] => rfl
  | b :: r => by
    by_cases hb : b.toNat = 10
    · have hp : (fun b : UInt8 => decide (b.toNat ≠ 10)) b = false := by simp [hb]
      rw [run_zero _ b r hp]
      unfold sk
      rw [if_pos hb, List.drop_zero]
      have : blank b = true := blank_iff.2 (by omega)
      simp only
      rw [if_pos this]
      omega
    · have hp : (fun b : UInt8 => decide (b.toNat ≠ 10)) b = true := by simp [hb]
      rw [run_step _ b r hp, List.drop_succ_cons]
      have ih := sk_line r
      conv => lhs; unfold sk
      rw [if_neg hb, ih]
      omega
theorem sk_blanks : ∀ l : Bs, sk false l = run blank l + sk false (l.drop (run blank l))
  | [] => rfl
  | b :: r => by
    by_cases hb : blank b = true
    · rw [run_step _ b r hb, List.drop_succ_cons]
      have ih := sk_blanks r
      conv => lhs; unfold sk
      rw [if_pos hb, ih]
      omega
    · rw [run_zero _ b r (not_true hb), List.drop_zero]
      omega
theorem skp_sk : ∀ (n : Nat) (l : Bs), l.length < n → skp n l = sk false l
  | 0, _, h => by omega
  | n + 1, l, h => by
    rw [sk_blanks l]
    unfold skp
    split
    · rename_i r hr
      rw [hr]
      have hlen : (45 :: 45 :: r).length ≤ l.length := by rw [← hr, List.length_drop]; omega
      have e1 : sk false (45 :: 45 :: r) = sk true (45 :: r) + 1 := by
        conv => lhs; unfold sk
        rw [if_neg (by decide), if_pos ⟨rfl, rfl⟩]
      have e2 : sk true (45 :: 45 :: r) = sk true (45 :: r) + 1 := by
        conv => lhs; unfold sk
        rw [if_neg (by decide)]
      have ih := skp_sk n ((45 :: 45 :: r).drop (run (fun b => decide (b.toNat ≠ 10)) (45 :: 45 :: r)))
      have h1 : 0 < run (fun b : UInt8 => decide (b.toNat ≠ 10)) (45 :: 45 :: r) := by rw [run_step _ _ _ (by decide)]; omega
      have h2 : ((45 :: 45 :: r).drop (run (fun b : UInt8 => decide (b.toNat ≠ 10)) (45 :: 45 :: r))).length < n := by
        rw [List.length_drop]
        simp only [List.length_cons] at hlen ⊢
        omega
      rw [e1, ← e2, sk_line (45 :: 45 :: r), ih h2]
    · rename_i hno
      have : sk false (l.drop (run blank l)) = 0 := by
        rcases run_drop blank l with h0 | ⟨b, t, hb, hnb⟩
        · rw [h0]; rfl
        · rw [hb]
          unfold sk
          rw [if_neg (by rw [hnb]; decide), if_neg]
          rintro ⟨h45, hh⟩
          cases t with
          | nil => cases hh
          | cons c t =>
            simp only [List.head?_cons, Option.some.injEq] at hh
            have hb45 : b = 45 := UInt8.toNat_inj.1 h45
            subst hh hb45
            exact hno t hb
      omega
end LX
end Go.Proofs.YtoagobpkenfbkaaGreatDoor
