/-
  Two texts of one length that differ at most within 32 bits in a row have the same register behind them just if they are the same.
-/
import Derived.Test.YtfjdialbjbomdaaDoorSumMath
namespace Go.Proofs.YtfjdialbjbomdaaDoor.SM
set_option linter.unusedVariables false

/-- n bits come, one after the other -/
def fbn (r : Nat) (f : Nat → Bool) : Nat → Nat
  | 0 => r
  | n + 1 => step (fbn r f n ^^^ (f n).toNat)
/-- n bits as a number -/
def word (f : Nat → Bool) : Nat → Nat
  | 0 => 0
  | n + 1 => word f n ^^^ ((f n).toNat * 2 ^ n)

theorem word_testBit (f : Nat → Bool) : ∀ n i, (word f n).testBit i = (decide (i < n) && f i)
  | 0, i => by simp [word]
  | n + 1, i => by
    rw [word, Nat.testBit_xor, word_testBit f n i, Nat.testBit_mul_two_pow]
    by_cases h : i < n
    · simp [h, show i < n + 1 by omega, show ¬ n ≤ i by omega]
    · by_cases e : i = n
      · subst e; cases f i <;> simp
      · have : (f n).toNat.testBit (i - n) = false := by
          apply Nat.testBit_lt_two_pow
          have : 2 ^ 1 ≤ 2 ^ (i - n) := Nat.pow_le_pow_right (by decide) (by omega)
          cases f n <;> simp <;> omega
        simp [h, show ¬ i < n + 1 by omega, this]

theorem word_lt (f : Nat → Bool) (n : Nat) (hn : n ≤ 32) : word f n < 4294967296 := by
  have : word f n < 2 ^ 32 := by
    apply Nat.lt_pow_two_of_testBit
    intro i hi
    rw [word_testBit]
    simp [show ¬ i < n by omega]
  omega

theorem fbn_word (r : Nat) (f : Nat → Bool) : ∀ n, fbn r f n = steps n (r ^^^ word f n)
  | 0 => by simp [fbn, steps, word]
  | n + 1 => by
    rw [fbn, fbn_word r f n, steps_snoc, word, ← Nat.xor_assoc, steps_xor n (r ^^^ word f n), steps_shift]

theorem fbn_add (r : Nat) (f : Nat → Bool) (m : Nat) : ∀ n, fbn r f (m + n) = fbn (fbn r f m) (fun i => f (m + i)) n
  | 0 => rfl
  | n + 1 => by
    show step (fbn r f (m + n) ^^^ (f (m + n)).toNat) = step (fbn (fbn r f m) (fun i => f (m + i)) n ^^^ (f (m + n)).toNat)
    rw [fbn_add r f m n]

theorem fbn_congr (r : Nat) (f g : Nat → Bool) : ∀ n, (∀ i, i < n → f i = g i) → fbn r f n = fbn r g n
  | 0, _ => rfl
  | n + 1, h => by
    rw [fbn, fbn, fbn_congr r f g n (fun i hi => h i (by omega)), h n (by omega)]

theorem bool_lt (b : Bool) : b.toNat < 4294967296 := by cases b <;> decide

theorem fbn_lt {r : Nat} (h : r < 4294967296) (f : Nat → Bool) : ∀ n, fbn r f n < 4294967296
  | 0 => h
  | n + 1 => step_lt (xor_lt (fbn_lt h f n) (bool_lt _))

theorem step_inj {a b : Nat} (ha : a < 4294967296) (hb : b < 4294967296) (h : step a = step b) : a = b := by
  rw [← unstep_step ha, h, unstep_step hb]

theorem fbn_inj {a b : Nat} (ha : a < 4294967296) (hb : b < 4294967296) (f : Nat → Bool) : ∀ n, fbn a f n = fbn b f n → a = b
  | 0, h => h
  | n + 1, h => by
    have h1 := step_inj (xor_lt (fbn_lt ha f n) (bool_lt _)) (xor_lt (fbn_lt hb f n) (bool_lt _)) h
    refine fbn_inj ha hb f n ?_
    rw [← xor_cancel (fbn a f n) (f n).toNat, h1, xor_cancel]

/-- bits that differ within 32 in a row give another register -/
theorem fbn_burst {r : Nat} (hr : r < 4294967296) (f g : Nat → Bool) (N at_ : Nat) (hat : at_ ≤ N)
    (h : ∀ i, i < N → (i < at_ ∨ at_ + 32 ≤ i) → f i = g i) (he : fbn r f N = fbn r g N) : ∀ i, i < N → f i = g i := by
  obtain ⟨m, hm, hm32, hmN⟩ : ∃ m, m ≤ 32 ∧ at_ + m ≤ N ∧ (m = 32 ∨ at_ + m = N) := by
    by_cases c : at_ + 32 ≤ N
    · exact ⟨32, by omega, c, .inl rfl⟩
    · exact ⟨N - at_, by omega, by omega, .inr (by omega)⟩
  obtain ⟨q, hq⟩ : ∃ q, N = at_ + m + q := ⟨N - (at_ + m), by omega⟩
  rw [hq, fbn_add r f (at_ + m) q, fbn_add r g (at_ + m) q, fbn_congr _ (fun i => f (at_ + m + i)) (fun i => g (at_ + m + i)) q (fun i hi => h _ (by omega) (by omega))] at he
  have h1 := fbn_inj (fbn_lt hr f _) (fbn_lt hr g _) _ _ he
  rw [fbn_add r f at_ m, fbn_add r g at_ m, fbn_congr r f g at_ (fun i hi => h i (by omega) (.inl hi)), fbn_word (fbn r g at_) (fun i => f (at_ + i)) m, fbn_word (fbn r g at_) (fun i => g (at_ + i)) m] at h1
  have hx := fbn_lt hr g at_
  have h2 := steps_inj (xor_lt hx (word_lt _ m hm)) (xor_lt hx (word_lt _ m hm)) h1
  have h3 : word (fun i => f (at_ + i)) m = word (fun i => g (at_ + i)) m := by
    rw [← xor_cancel' (fbn r g at_) (word (fun i => f (at_ + i)) m), h2, xor_cancel']
  intro i hi
  by_cases c : i < at_ ∨ at_ + 32 ≤ i
  · exact h i hi c
  · by_cases c2 : i < at_ + m
    · have h4 := congrArg (fun x => x.testBit (i - at_)) h3
      simp only [word_testBit, show i - at_ < m by omega, decide_true, Bool.true_and, show at_ + (i - at_) = i by omega] at h4
      exact h4
    · omega

/-- the bits of a text, each byte from its least bit on -/
def bitOf (l : List UInt8) (i : Nat) : Bool := (l.getD (i / 8) 0).toNat.testBit (i % 8)

theorem word_byte (b : UInt8) : word (fun i => b.toNat.testBit i) 8 = b.toNat := by
  apply Nat.eq_of_testBit_eq
  intro i
  rw [word_testBit]
  by_cases h : i < 8
  · simp [h]
  · have : b.toNat.testBit i = false := by
      apply Nat.testBit_lt_two_pow
      have h1 : 2 ^ 8 ≤ 2 ^ i := Nat.pow_le_pow_right (by decide) (by omega)
      have := b.toNat_lt
      omega
    simp [h, this]

theorem run_bits (r : Nat) (l : List UInt8) : ∀ k, k ≤ l.length → run r (l.take k) = fbn r (bitOf l) (8 * k)
  | 0, _ => by simp [run, fbn]
  | k + 1, hk => by
    rw [List.take_succ_eq_append_getElem (by omega), run_snoc, run_bits r l k (by omega), Nat.mul_succ, fbn_add, ez, fbn_word _ _ 8]
    have : word (fun i => bitOf l (8 * k + i)) 8 = l[k].toNat := by
      rw [← word_byte l[k]]
      apply Nat.eq_of_testBit_eq
      intro i
      rw [word_testBit, word_testBit]
      by_cases h : i < 8
      · simp only [bitOf, show (8 * k + i) / 8 = k by omega, show (8 * k + i) % 8 = i by omega]
        rw [List.getD_eq_getElem?_getD, List.getElem?_eq_getElem (by omega)]
        simp
      · simp [h]
    rw [this]

theorem run_bits_all (r : Nat) (l : List UInt8) : run r l = fbn r (bitOf l) (8 * l.length) := by
  have h := run_bits r l l.length (Nat.le_refl _)
  rwa [List.take_length] at h

theorem list_of_bits {l m : List UInt8} (hl : l.length = m.length) (h : ∀ i, i < 8 * l.length → bitOf l i = bitOf m i) : l = m := by
  apply List.ext_getElem hl
  intro j h1 h2
  apply UInt8.toNat_inj.1
  rw [← word_byte l[j], ← word_byte m[j]]
  apply Nat.eq_of_testBit_eq
  intro i
  rw [word_testBit, word_testBit]
  by_cases c : i < 8
  · have h3 := h (8 * j + i) (by omega)
    simp only [bitOf, show (8 * j + i) / 8 = j by omega, show (8 * j + i) % 8 = i by omega] at h3
    rw [List.getD_eq_getElem?_getD, List.getElem?_eq_getElem h1, List.getD_eq_getElem?_getD, List.getElem?_eq_getElem h2] at h3
    simp only [Option.getD_some] at h3
    rw [h3]
  · simp [c]

/-- a burst is told -/
theorem burst {c : Nat} (hc : c < 4294967296) (l m : List UInt8) (hl : l.length = m.length) (at_ : Nat) (hat : at_ ≤ 8 * l.length)
    (h : ∀ i, i < 8 * l.length → (i < at_ ∨ at_ + 32 ≤ i) → bitOf l i = bitOf m i) (he : more c l = more c m) : l = m := by
  have h1 := nt_inj he
  rw [run_bits_all, run_bits_all, ← hl] at h1
  exact list_of_bits hl (fbn_burst (nt_lt hc) _ _ _ at_ hat h h1)

/-- one bit of a text is turned -/
def turnBit (l : List UInt8) (i : Nat) : List UInt8 := l.set (i / 8) (l.getD (i / 8) 0 ^^^ UInt8.ofNat (2 ^ (i % 8)))
theorem turnBit_len (l : List UInt8) (i : Nat) : (turnBit l i).length = l.length := by simp [turnBit]
theorem turnBit_other (l : List UInt8) (i j : Nat) (hj : j < 8 * l.length) (hne : i ≠ j) : bitOf (turnBit l i) j = bitOf l j := by
  unfold bitOf turnBit
  rw [List.getD_eq_getElem?_getD, List.getElem?_set]
  by_cases h : i / 8 = j / 8
  · have hm : i % 8 ≠ j % 8 := by omega
    have hlt : i / 8 < l.length := by omega
    simp only [h, if_true, show j / 8 < l.length by omega, Option.getD_some]
    rw [UInt8.toNat_xor, Nat.testBit_xor]
    have : (UInt8.ofNat (2 ^ (i % 8))).toNat = 2 ^ (i % 8) := by
      rw [UInt8.toNat_ofNat', Nat.mod_eq_of_lt]
      exact Nat.lt_of_lt_of_le (Nat.pow_lt_pow_right (by decide) (show i % 8 < 8 by omega)) (by decide)
    rw [this, Nat.testBit_two_pow_of_ne hm, Bool.xor_false]
  · simp only [h, if_false]
    rw [List.getD_eq_getElem?_getD]

/-- the bits of mask, from at_ on, the first k of them, are turned -/
def turned (l : List UInt8) (at_ mask : Nat) : Nat → List UInt8
  | 0 => l
  | k + 1 => if mask.testBit k = true ∧ at_ + k < 8 * l.length then turnBit (turned l at_ mask k) (at_ + k) else turned l at_ mask k
theorem turned_len (l : List UInt8) (at_ mask : Nat) : ∀ k, (turned l at_ mask k).length = l.length
  | 0 => rfl
  | k + 1 => by
    rw [turned]
    split
    · rw [turnBit_len, turned_len l at_ mask k]
    · exact turned_len l at_ mask k
theorem turned_other (l : List UInt8) (at_ mask : Nat) : ∀ k i, i < 8 * l.length → (i < at_ ∨ at_ + k ≤ i) → bitOf (turned l at_ mask k) i = bitOf l i
  | 0, _, _, _ => rfl
  | k + 1, i, hi, h => by
    rw [turned]
    split
    · rw [turnBit_other _ _ _ (by rw [turned_len]; exact hi) (by omega), turned_other l at_ mask k i hi (by omega)]
    · exact turned_other l at_ mask k i hi (by omega)

theorem turned_told {c : Nat} (hc : c < 4294967296) (l : List UInt8) (at_ mask : Nat) (hat : at_ ≤ 8 * l.length) (he : more c l = more c (turned l at_ mask 32)) : l = turned l at_ mask 32 :=
  burst hc l _ (turned_len l at_ mask 32).symm at_ hat (fun i hi h => (turned_other l at_ mask 32 i hi h).symm) he

end Go.Proofs.YtfjdialbjbomdaaDoor.SM
