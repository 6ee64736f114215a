/-
  Whole numbers as digits, and back.
-/
import Derived.Test.YtoagobpkenfbkaaGreatDoorVsMath
namespace Go.Proofs.YtoagobpkenfbkaaGreatDoor
namespace VS

def vl (acc : Nat) : Bs → Nat
  | [] => acc
  | c :: r => vl (acc * 10 + (c.toNat - 48)) r
theorem vl_app (a b : Bs) : ∀ acc, vl acc (a ++ b) = vl (vl acc a) b := by
  induction a with
  | nil => intro acc; rfl
  | cons c r ih => intro acc; exact ih _
theorem vl_le (l : Bs) : ∀ acc, acc ≤ vl acc l := by
  induction l with
  | nil => intro acc; exact Nat.le_refl _
  | cons c r ih =>
    intro acc
    have := ih (acc * 10 + (c.toNat - 48))
    show acc ≤ vl (acc * 10 + (c.toNat - 48)) r
    omega
theorem parse_ok (M : Nat) (hM : M ≤ 18446744073709551615) : ∀ (l : Bs) (acc : Nat), l.all dig = true → vl acc l ≤ M → Lib.parseUintM M acc l = .ok (vl acc l)
  | [], acc, _, _ => rfl
  | c :: r, acc, h, hv => by
    rw [List.all_cons, Bool.and_eq_true] at h
    have hc : 48 ≤ c.toNat ∧ c.toNat ≤ 57 := by
      have := h.1
      unfold dig at this
      simpa using this
    have h1 := vl_le r (acc * 10 + (c.toNat - 48))
    have hv' : vl (acc * 10 + (c.toNat - 48)) r ≤ M := hv
    unfold Lib.parseUintM
    rw [if_pos hc, if_neg (by omega), if_neg (by omega)]
    exact parse_ok M hM r _ h.2 hv'
theorem parse_over (M : Nat) : ∀ (l : Bs) (acc : Nat), l.all dig = true → M < vl acc l → acc ≤ M → Lib.parseUintM M acc l = .range
  | [], acc, _, hv, ha => by
    have : M < acc := hv
    omega
  | c :: r, acc, h, hv, ha => by
    rw [List.all_cons, Bool.and_eq_true] at h
    have hc : 48 ≤ c.toNat ∧ c.toNat ≤ 57 := by
      have := h.1
      unfold dig at this
      simpa using this
    have hv' : M < vl (acc * 10 + (c.toNat - 48)) r := hv
    unfold Lib.parseUintM
    rw [if_pos hc]
    split
    · rfl
    · split
      · rfl
      · exact parse_over M r _ h.2 hv' (by omega)
theorem dig_of (n : Nat) (h : n < 10) : (UInt8.ofNat (48 + n)).toNat = 48 + n := by
  rw [UInt8.toNat_ofNat']
  omega
theorem dec_facts (u : Nat) : (Lib.decDigits u).all dig = true ∧ vl 0 (Lib.decDigits u) = u ∧ ∃ b r, Lib.decDigits u = b :: r ∧ (b.toNat = 48 → u = 0 ∧ r = []) := by
  induction u using Nat.strongRecOn with
  | _ u ih =>
    by_cases h : u < 10
    · rw [Lib.decDigits_one h]
      have hd := dig_of u h
      refine ⟨?_, ?_, _, [], rfl, fun hb => ⟨by omega, rfl⟩⟩
      · simp only [List.all_cons, List.all_nil, Bool.and_true]
        unfold dig
        rw [hd]
        simp
        omega
      · show 0 * 10 + ((UInt8.ofNat (48 + u)).toNat - 48) = u
        omega
    · obtain ⟨h1, h2, b, r, h3, h4⟩ := ih (u / 10) (by omega)
      have e : Lib.decDigits u = Lib.decDigits (u / 10) ++ [UInt8.ofNat (48 + u % 10)] := by rw [Lib.decDigits, dif_neg h]
      have hd := dig_of (u % 10) (by omega)
      rw [e]
      refine ⟨?_, ?_, b, r ++ [UInt8.ofNat (48 + u % 10)], by rw [h3]; rfl, fun hb => ?_⟩
      · rw [List.all_append, h1, Bool.true_and]
        simp only [List.all_cons, List.all_nil, Bool.and_true]
        unfold dig
        rw [hd]
        simp
        omega
      · rw [vl_app, h2]
        show u / 10 * 10 + ((UInt8.ofNat (48 + u % 10)).toNat - 48) = u
        omega
      · have := h4 hb
        omega
/-- digits without a nought ahead are a number's own -/
theorem dec_back : ∀ (n : Nat) (l : Bs), l.length ≤ n → l.all dig = true → l ≠ [] → (∀ b r, l = b :: r → b.toNat = 48 → r = []) → Lib.decDigits (vl 0 l) = l
  | 0, l, hn, _, hne, _ => by
    exact absurd (List.eq_nil_of_length_eq_zero (by omega)) hne
  | n + 1, l, hn, hd, hne, h0 => by
    obtain ⟨a, c, rfl⟩ : ∃ a c, l = a ++ [c] := ⟨l.dropLast, l.getLast hne, (List.dropLast_concat_getLast hne).symm⟩
    rw [List.all_append, Bool.and_eq_true] at hd
    have hc : 48 ≤ c.toNat ∧ c.toNat ≤ 57 := by
      have := hd.2
      simp only [List.all_cons, List.all_nil, Bool.and_true] at this
      unfold dig at this
      simpa using this
    have hcc : UInt8.ofNat (48 + (c.toNat - 48)) = c := by
      rw [show 48 + (c.toNat - 48) = c.toNat by omega]
      exact UInt8.ofNat_toNat
    by_cases ha : a = []
    · subst ha
      show Lib.decDigits (0 * 10 + (c.toNat - 48)) = [c]
      rw [Lib.decDigits_one (by omega), show 0 * 10 + (c.toNat - 48) = c.toNat - 48 by omega, hcc]
    · have hlen : a.length ≤ n := by
        rw [List.length_append] at hn
        simp only [List.length_cons, List.length_nil] at hn
        omega
      obtain ⟨b, r, rfl⟩ : ∃ b r, a = b :: r := by
        cases a with
        | nil => exact absurd rfl ha
        | cons b r => exact ⟨b, r, rfl⟩
      have hb48 : b.toNat ≠ 48 := fun hb => by
        have := h0 b (r ++ [c]) rfl hb
        simp at this
      have ih := dec_back n (b :: r) hlen hd.1 ha (fun b' r' e hb' => by
        simp only [List.cons.injEq] at e
        exact absurd (by rw [e.1]; exact hb') hb48)
      have hv : vl 0 ((b :: r) ++ [c]) = vl 0 (b :: r) * 10 + (c.toNat - 48) := by rw [vl_app]; rfl
      have hpos : 1 ≤ vl 0 (b :: r) := by
        have h1 := vl_le r (0 * 10 + (b.toNat - 48))
        have hbd : 48 ≤ b.toNat := by
          have := hd.1
          rw [List.all_cons, Bool.and_eq_true] at this
          have := this.1
          unfold dig at this
          simp at this
          omega
        show 1 ≤ vl (0 * 10 + (b.toNat - 48)) r
        omega
      rw [hv, Lib.decDigits, dif_neg (by omega)]
      rw [show (vl 0 (b :: r) * 10 + (c.toNat - 48)) / 10 = vl 0 (b :: r) by omega, ih, show (vl 0 (b :: r) * 10 + (c.toNat - 48)) % 10 = c.toNat - 48 by omega, hcc]
end VS
end Go.Proofs.YtoagobpkenfbkaaGreatDoor
