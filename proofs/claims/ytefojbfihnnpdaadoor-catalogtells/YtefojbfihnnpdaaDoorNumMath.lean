/-
  The digits of a number to the base 128 and the reading of them, as plain functions on lists of bytes: what is written is read as it was, what is read is written as it stood, each beginning of a number ends too early, the lesser number has no more digits.
-/
namespace Go.Proofs.YtefojbfihnnpdaaDoor.NM

/-- the bytes of a number, so many digits at the most and one more -/
def encF : Nat → Nat → List UInt8
  | 0, n => [UInt8.ofNat n]
  | f + 1, n => if n < 128 then [UInt8.ofNat n] else UInt8.ofNat (n % 128 + 128) :: encF f (n / 128)
/-- the bytes of a number -/
def enc (n : Nat) : List UInt8 := encF n n

/-- reading from place i on, with what was read before it -/
def rd : List UInt8 → Nat → Nat → Nat × Nat × Nat
  | [], _, _ => (0, 0, 5)
  | b :: r, i, acc =>
    if i = 9 ∧ 1 < b.toNat then (0, 0, 2)
    else if 128 ≤ b.toNat then rd r (i + 1) (acc + b.toNat % 128 * 128 ^ i)
    else if b.toNat = 0 ∧ 0 < i then (0, 0, 1)
    else (acc + b.toNat % 128 * 128 ^ i, i + 1, 0)

theorem encF_small {n : Nat} (f : Nat) (h : n < 128) : encF f n = [UInt8.ofNat n] := by
  cases f with
  | zero => rfl
  | succ f => rw [encF, if_pos h]
theorem encF_eq : ∀ (n f g : Nat), n ≤ f → n ≤ g → encF f n = encF g n := by
  intro n
  induction n using Nat.strongRecOn with
  | ind n ih =>
    intro f g hf hg
    by_cases h : n < 128
    · rw [encF_small f h, encF_small g h]
    · obtain ⟨f', rfl⟩ : ∃ f', f = f' + 1 := ⟨f - 1, by omega⟩
      obtain ⟨g', rfl⟩ : ∃ g', g = g' + 1 := ⟨g - 1, by omega⟩
      rw [encF, encF, if_neg h, if_neg h, ih (n / 128) (by omega) f' g' (by omega) (by omega)]
theorem enc_small {n : Nat} (h : n < 128) : enc n = [UInt8.ofNat n] := encF_small n h
theorem enc_big {n : Nat} (h : 128 ≤ n) : enc n = UInt8.ofNat (n % 128 + 128) :: enc (n / 128) := by
  unfold enc
  obtain ⟨f, hf⟩ : ∃ f, n = f + 1 := ⟨n - 1, by omega⟩
  have e : encF n n = encF (f + 1) n := by rw [← hf]
  rw [e, encF, if_neg (by omega), encF_eq (n / 128) f (n / 128) (by omega) (Nat.le_refl _)]

theorem toNat_ofNat {n : Nat} (h : n < 256) : (UInt8.ofNat n).toNat = n := by
  simp [UInt8.toNat_ofNat']; omega

theorem pow10 {n i : Nat} (h : 128 ≤ n) (hi : n * 128 ^ i < 18446744073709551616) : i ≠ 9 := by
  intro e; subst e
  have := Nat.mul_le_mul_right (128 ^ 9) h
  omega

theorem rd_enc (rest : List UInt8) : ∀ (n i acc : Nat), n * 128 ^ i < 18446744073709551616 → (0 < n ∨ i = 0) →
    rd (enc n ++ rest) i acc = (acc + n * 128 ^ i, i + (enc n).length, 0) := by
  intro n
  induction n using Nat.strongRecOn with
  | ind n ih =>
    intro i acc hb hp
    by_cases h : n < 128
    · rw [enc_small h]
      have t : (UInt8.ofNat n).toNat = n := toNat_ofNat (by omega)
      have h9 : ¬ (i = 9 ∧ 1 < n) := by
        rintro ⟨rfl, h1⟩
        have := Nat.mul_le_mul_right (128 ^ 9) (show 2 ≤ n from h1)
        omega
      have hm : n % 128 = n := Nat.mod_eq_of_lt h
      have hz : ¬ (n = 0 ∧ 0 < i) := by omega
      simp only [List.cons_append, List.nil_append, rd, t, h9, if_false, hz, hm, show ¬ 128 ≤ n by omega, List.length_cons, List.length_nil]
    · have h' : 128 ≤ n := by omega
      rw [enc_big h']
      have t : (UInt8.ofNat (n % 128 + 128)).toNat = n % 128 + 128 := toNat_ofNat (by omega)
      have h9 := pow10 h' hb
      have e : n * 128 ^ i = n % 128 * 128 ^ i + n / 128 * 128 ^ (i + 1) := by
        rw [Nat.pow_succ, Nat.mul_comm (128 ^ i) 128, ← Nat.mul_assoc, ← Nat.add_mul]
        congr 1; omega
      have hi := ih (n / 128) (by omega) (i + 1) (acc + n % 128 * 128 ^ i) (by omega) (by left; omega)
      simp only [List.cons_append, rd, t, h9, false_and, if_false, show 128 ≤ n % 128 + 128 by omega, if_true, show (n % 128 + 128) % 128 = n % 128 by omega, hi, List.length_cons]
      rw [e]
      simp only [Prod.mk.injEq, and_true]
      omega

theorem ofNat_toNat (b : UInt8) : UInt8.ofNat b.toNat = b := by simp

theorem rd_bad : ∀ (l : List UInt8) (i acc : Nat), (rd l i acc).2.2 ≠ 0 → (rd l i acc).1 = 0 ∧ (rd l i acc).2.1 = 0 := by
  intro l
  induction l with
  | nil => intro i acc _; exact ⟨rfl, rfl⟩
  | cons b r ih =>
    intro i acc h
    unfold rd at h ⊢
    by_cases h1 : i = 9 ∧ 1 < b.toNat
    · simp [h1]
    · simp only [h1, if_false] at h ⊢
      by_cases h2 : 128 ≤ b.toNat
      · simp only [h2, if_true] at h ⊢
        exact ih _ _ h
      · simp only [h2, if_false] at h ⊢
        by_cases h3 : b.toNat = 0 ∧ 0 < i
        · simp [h3]
        · simp [h3] at h

theorem rd_only : ∀ (l : List UInt8) (i acc : Nat), (rd l i acc).2.2 = 0 →
    ∃ m, (rd l i acc).1 = acc + m * 128 ^ i ∧ i + 1 ≤ (rd l i acc).2.1 ∧ (rd l i acc).2.1 ≤ i + l.length ∧ enc m = l.take ((rd l i acc).2.1 - i) ∧ (0 < i → 0 < m) := by
  intro l
  induction l with
  | nil => intro i acc h; simp [rd] at h
  | cons b r ih =>
    intro i acc h
    have hb := b.toNat_lt
    by_cases h1 : i = 9 ∧ 1 < b.toNat
    · simp [rd, h1] at h
    · by_cases h2 : 128 ≤ b.toNat
      · have e : rd (b :: r) i acc = rd r (i + 1) (acc + b.toNat % 128 * 128 ^ i) := by simp only [rd, h1, if_false, h2, if_true]
        rw [e] at h ⊢
        obtain ⟨m, a1, a2, a3, a4, a5⟩ := ih _ _ h
        have hm := a5 (by omega)
        have hbm : b.toNat % 128 + 128 = b.toNat := by omega
        refine ⟨b.toNat % 128 + 128 * m, ?_, by omega, by simp only [List.length_cons]; omega, ?_, fun _ => by omega⟩
        · rw [a1, Nat.pow_succ, Nat.add_mul, Nat.mul_comm (128 ^ i) 128, ← Nat.mul_assoc, Nat.mul_comm m 128]; omega
        · rw [enc_big (by omega), show (b.toNat % 128 + 128 * m) / 128 = m by omega, show (b.toNat % 128 + 128 * m) % 128 + 128 = b.toNat by omega, ofNat_toNat, a4]
          obtain ⟨j, hj⟩ : ∃ j, (rd r (i + 1) (acc + b.toNat % 128 * 128 ^ i)).2.1 = i + 1 + j := ⟨_, (Nat.add_sub_cancel' (by omega)).symm⟩
          rw [hj, show i + 1 + j - (i + 1) = j by omega, show i + 1 + j - i = j + 1 by omega, List.take_succ_cons]
      · by_cases h3 : b.toNat = 0 ∧ 0 < i
        · simp [rd, h3] at h
        · have e : rd (b :: r) i acc = (acc + b.toNat % 128 * 128 ^ i, i + 1, 0) := by simp only [rd, h1, if_false, h2, h3]
          rw [e]
          refine ⟨b.toNat % 128, rfl, by simp, by simp, ?_, fun hi => by omega⟩
          rw [enc_small (by omega), show b.toNat % 128 = b.toNat by omega, ofNat_toNat]
          simp

theorem rd_cut : ∀ (n k i acc : Nat), n * 128 ^ i < 18446744073709551616 → k < (enc n).length → (rd ((enc n).take k) i acc).2.2 = 5 := by
  intro n
  induction n using Nat.strongRecOn with
  | ind n ih =>
    intro k i acc hb hk
    cases k with
    | zero => simp [rd]
    | succ k =>
      by_cases h : n < 128
      · rw [enc_small h] at hk; simp at hk
      · have h' : 128 ≤ n := by omega
        rw [enc_big h'] at hk ⊢
        have t : (UInt8.ofNat (n % 128 + 128)).toNat = n % 128 + 128 := toNat_ofNat (by omega)
        have h9 := pow10 h' hb
        have e : n * 128 ^ i = n % 128 * 128 ^ i + n / 128 * 128 ^ (i + 1) := by
          rw [Nat.pow_succ, Nat.mul_comm (128 ^ i) 128, ← Nat.mul_assoc, ← Nat.add_mul]
          congr 1; omega
        have hi := ih (n / 128) (by omega) k (i + 1) (acc + n % 128 * 128 ^ i) (by omega) (by simpa using hk)
        simp only [List.take_succ_cons, rd, t, h9, false_and, if_false, show 128 ≤ n % 128 + 128 by omega, if_true, show (n % 128 + 128) % 128 = n % 128 by omega, hi]

theorem enc_pos (n : Nat) : 1 ≤ (enc n).length := by
  by_cases h : n < 128
  · rw [enc_small h]; simp
  · rw [enc_big (by omega)]; simp

theorem enc_len : ∀ (j n : Nat), n < 128 ^ (j + 1) → (enc n).length ≤ j + 1 := by
  intro j
  induction j with
  | zero => intro n h; rw [enc_small (by simpa using h)]; simp
  | succ j ih =>
    intro n h
    by_cases h' : n < 128
    · rw [enc_small h']; simp
    · rw [enc_big (by omega)]
      have := ih (n / 128) (by rw [Nat.pow_succ] at h; omega)
      simp only [List.length_cons]; omega

theorem enc_ten {n : Nat} (h : n < 18446744073709551616) : (enc n).length ≤ 10 := enc_len 9 n (by omega)

theorem enc_mono : ∀ (b a : Nat), a ≤ b → (enc a).length ≤ (enc b).length := by
  intro b
  induction b using Nat.strongRecOn with
  | ind b ih =>
    intro a h
    by_cases ha : a < 128
    · rw [enc_small ha]; have := enc_pos b; simpa using this
    · rw [enc_big (show 128 ≤ a by omega), enc_big (show 128 ≤ b by omega)]
      have := ih (b / 128) (by omega) (a / 128) (by omega)
      simpa using this

theorem enc_tail {a : Nat} (h : 128 ≤ a) : (enc (a / 128)).length = (enc a).length - 1 := by
  rw [enc_big h]; simp

/-- the number of some digits, the least one first -/
def val : List UInt8 → Nat
  | [] => 0
  | b :: r => b.toNat % 128 + 128 * val r

theorem val_snoc (l : List UInt8) (b : UInt8) : val (l ++ [b]) = val l + b.toNat % 128 * 128 ^ l.length := by
  induction l with
  | nil => simp [val]
  | cons c r ih =>
    simp only [List.cons_append, val, ih, List.length_cons, Nat.pow_succ, Nat.mul_add]
    have : 128 * (b.toNat % 128 * 128 ^ r.length) = b.toNat % 128 * (128 ^ r.length * 128) := by
      rw [Nat.mul_comm (128 ^ r.length) 128, ← Nat.mul_assoc, ← Nat.mul_assoc, Nat.mul_comm 128 (b.toNat % 128)]
    omega

theorem val_lt (l : List UInt8) : val l < 128 ^ l.length := by
  induction l with
  | nil => simp [val]
  | cons c r ih => simp only [val, List.length_cons, Nat.pow_succ]; omega

/-- what stands ahead, all from 128 on and fewer than ten of them, is taken into what was read -/
theorem rd_skip : ∀ (l rest : List UInt8) (i acc : Nat), (∀ b ∈ l, 128 ≤ b.toNat) → i + l.length ≤ 9 →
    rd (l ++ rest) i acc = rd rest (i + l.length) (acc + val l * 128 ^ i) := by
  intro l
  induction l with
  | nil => intro rest i acc _ _; simp [val]
  | cons b r ih =>
    intro rest i acc hb hl
    have h2 : 128 ≤ b.toNat := hb b (by simp)
    simp only [List.length_cons] at hl
    have h9 : i ≠ 9 := by omega
    have e := ih rest (i + 1) (acc + b.toNat % 128 * 128 ^ i) (fun c hc => hb c (by simp [hc])) (by omega)
    simp only [List.cons_append, rd, h9, false_and, if_false, h2, if_true, e, List.length_cons, val]
    rw [show i + 1 + r.length = i + (r.length + 1) by omega]
    congr 1
    rw [Nat.pow_succ, Nat.add_mul, Nat.mul_comm (128 ^ i) 128, ← Nat.mul_assoc, Nat.mul_comm (val r) 128]
    omega

/-- what is read has at most 64 bits -/
theorem rd_lt' : ∀ (l : List UInt8) (i acc : Nat), i ≤ 9 → acc < 128 ^ i → (rd l i acc).1 < 18446744073709551616 := by
  intro l
  induction l with
  | nil => intro i acc _ _; simp [rd]
  | cons b r ih =>
    intro i acc hi hacc
    have p9 : 128 ^ i ≤ 9223372036854775808 := Nat.le_trans (Nat.pow_le_pow_right (by decide) hi) (by decide)
    unfold rd
    by_cases h1 : i = 9 ∧ 1 < b.toNat
    · simp [h1]
    · simp only [h1, if_false]
      by_cases h2 : 128 ≤ b.toNat
      · simp only [h2, if_true]
        have i8 : i ≤ 8 := by omega
        refine ih (i + 1) _ (by omega) ?_
        have := Nat.mul_le_mul_right (128 ^ i) (show b.toNat % 128 ≤ 127 by omega)
        rw [Nat.pow_succ]; omega
      · simp only [h2, if_false]
        by_cases h3 : b.toNat = 0 ∧ 0 < i
        · simp [h3]
        · simp only [h3, if_false]
          by_cases c : i = 9
          · have := Nat.mul_le_mul_right (128 ^ i) (show b.toNat % 128 ≤ 1 by omega)
            omega
          · have p8 : 128 ^ i ≤ 72057594037927936 := Nat.le_trans (Nat.pow_le_pow_right (by decide) (show i ≤ 8 by omega)) (by decide)
            have := Nat.mul_le_mul_right (128 ^ i) (show b.toNat % 128 ≤ 127 by omega)
            omega

theorem rd_lt (l : List UInt8) : (rd l 0 0).1 < 18446744073709551616 := rd_lt' l 0 0 (by decide) (by decide)

end Go.Proofs.YtefojbfihnnpdaaDoor.NM
