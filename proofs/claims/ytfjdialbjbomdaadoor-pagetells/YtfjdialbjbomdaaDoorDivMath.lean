/-
  Long division of the bits of a text, with 32 noughts behind, leaves the register that the text leaves.
-/
import Derived.Test.YtfjdialbjbomdaaDoorBurstMath
namespace Go.Proofs.YtfjdialbjbomdaaDoor.SM
set_option linter.unusedVariables false

/-- bit j of a text of N bits, noughts behind -/
def msg (l : List UInt8) (j : Nat) : Bool := decide (j < 8 * l.length) && bitOf l j
/-- the divisor's bits from the highest on -/
def dvs (k : Nat) : Bool := (4812730177 : Nat).testBit (32 - k)

theorem dvs0 : dvs 0 = true := by decide +kernel
theorem dvs_succ (k : Nat) (hk : k < 32) : dvs (k + 1) = P.testBit k := by
  have h : ∀ k : Fin 32, dvs (k.val + 1) = P.testBit k.val := by decide +kernel
  exact h ⟨k, hk⟩

/-- what holds when i bits were divided, with the register r -/
def Div (l : List UInt8) (i r : Nat) (f : Nat → Bool) : Prop :=
  (∀ k, k < 32 → f (i + k) = (r.testBit k ^^ msg l (i + k))) ∧ ∀ j, i + 32 ≤ j → f j = msg l j

theorem Div.start (l : List UInt8) (r : Nat) (f : Nat → Bool) (h1 : ∀ k, k < 32 → f k = (r.testBit k ^^ msg l k)) (h2 : ∀ j, 32 ≤ j → f j = msg l j) : Div l 0 r f :=
  ⟨fun k hk => by rw [Nat.zero_add]; exact h1 k hk, fun j hj => h2 j (by omega)⟩

theorem step_testBit (r : Nat) (k : Nat) : (step r).testBit k = (r.testBit (k + 1) ^^ (r.testBit 0 && P.testBit k)) := by
  have h0 : r.testBit 0 = decide (r % 2 = 1) := by simp [Nat.testBit_zero]
  rw [h0, Nat.testBit_succ]
  unfold step
  by_cases h : r % 2 = 1
  · rw [if_pos h, Nat.testBit_xor]; simp [h]
  · rw [if_neg h]; simp [h]

theorem xor_bit_testBit_succ (r : Nat) (m : Bool) (k : Nat) : (r ^^^ m.toNat).testBit (k + 1) = r.testBit (k + 1) := by
  rw [Nat.testBit_xor]
  have : m.toNat.testBit (k + 1) = false := by
    apply Nat.testBit_lt_two_pow
    have : 2 ^ 1 ≤ 2 ^ (k + 1) := Nat.pow_le_pow_right (by decide) (by omega)
    cases m <;> simp <;> omega
  rw [this, Bool.xor_false]
theorem xor_bit_testBit_zero (r : Nat) (m : Bool) : (r ^^^ m.toNat).testBit 0 = (r.testBit 0 ^^ m) := by
  rw [Nat.testBit_xor]
  cases m <;> simp

/-- no bit on top: nothing is taken away -/
theorem Div.skip {l : List UInt8} {i r : Nat} {f : Nat → Bool} (h : Div l i r f) (hr : r < 4294967296) (hf : f i = false) : Div l (i + 1) (step (r ^^^ (msg l i).toNat)) f := by
  have h0 := h.1 0 (by omega)
  rw [Nat.add_zero, hf] at h0
  have hz : (r ^^^ (msg l i).toNat).testBit 0 = false := by rw [xor_bit_testBit_zero]; exact h0.symm
  refine ⟨fun k hk => ?_, fun j hj => h.2 j (by omega)⟩
  rw [step_testBit, hz, xor_bit_testBit_succ, Bool.false_and, Bool.xor_false]
  by_cases c : k < 31
  · rw [show i + 1 + k = i + (k + 1) by omega]
    exact h.1 (k + 1) (by omega)
  · have e : k = 31 := by omega
    subst e
    have ht : r.testBit 32 = false := Nat.testBit_lt_two_pow (by omega)
    rw [ht, Bool.false_xor]
    exact h.2 _ (by omega)

/-- a bit on top: the divisor is taken away -/
theorem Div.take {l : List UInt8} {i r : Nat} {f : Nat → Bool} (h : Div l i r f) (hr : r < 4294967296) (hf : f i = true) :
    Div l (i + 1) (step (r ^^^ (msg l i).toNat)) (fun j => if i ≤ j ∧ j < i + 33 then (f j != dvs (j - i)) else f j) := by
  have h0 := h.1 0 (by omega)
  rw [Nat.add_zero, hf] at h0
  have hz : (r ^^^ (msg l i).toNat).testBit 0 = true := by rw [xor_bit_testBit_zero]; exact h0.symm
  refine ⟨fun k hk => ?_, fun j hj => ?_⟩
  · show (if i ≤ i + 1 + k ∧ i + 1 + k < i + 33 then (f (i + 1 + k) != dvs (i + 1 + k - i)) else f (i + 1 + k)) = _
    rw [step_testBit, hz, xor_bit_testBit_succ, Bool.true_and, if_pos (by omega), show i + 1 + k - i = k + 1 by omega, dvs_succ k hk]
    by_cases c : k < 31
    · rw [show i + 1 + k = i + (k + 1) by omega, h.1 (k + 1) (by omega)]
      cases r.testBit (k + 1) <;> cases msg l (i + (k + 1)) <;> cases P.testBit k <;> rfl
    · have e : k = 31 := by omega
      subst e
      have ht : r.testBit 32 = false := Nat.testBit_lt_two_pow (by omega)
      rw [ht, Bool.false_xor, h.2 (i + 1 + 31) (by omega)]
      cases msg l (i + 1 + 31) <;> cases P.testBit 31 <;> rfl
  · have : ¬ (i ≤ j ∧ j < i + 33) := by omega
    simp only [this, if_false]
    exact h.2 j (by omega)

/-- the register behind i bits -/
theorem fbn_msg (r : Nat) (l : List UInt8) : ∀ i, i ≤ 8 * l.length → fbn r (msg l) i = fbn r (bitOf l) i := by
  intro i hi
  refine fbn_congr r _ _ i (fun j hj => ?_)
  show (decide (j < 8 * l.length) && bitOf l j) = bitOf l j
  rw [decide_eq_true (show j < 8 * l.length by omega), Bool.true_and]

theorem Div.last {l : List UInt8} {r : Nat} {f : Nat → Bool} (h : Div l (8 * l.length) r f) (k : Nat) (hk : k < 32) : f (8 * l.length + k) = r.testBit k := by
  have e : msg l (8 * l.length + k) = false := by
    rw [msg, decide_eq_false (by omega), Bool.false_and]
  rw [h.1 k hk, e, Bool.xor_false]

/-- bits added up -/
def addUp (g : Nat → Bool) : Nat → Nat
  | 0 => 0
  | n + 1 => if g n then addUp g n + 2 ^ n else addUp g n
theorem addUp_lt (g : Nat → Bool) : ∀ n, addUp g n < 2 ^ n
  | 0 => by simp [addUp]
  | n + 1 => by
    have := addUp_lt g n
    rw [addUp, Nat.pow_succ]
    split <;> omega
theorem addUp_word (g : Nat → Bool) : ∀ n, addUp g n = word g n
  | 0 => rfl
  | n + 1 => by
    have hl := addUp_lt g n
    rw [addUp, word, ← addUp_word g n]
    cases g n
    · simp
    · simp only [if_true, Bool.toNat_true, Nat.one_mul]
      apply Nat.eq_of_testBit_eq
      intro i
      rw [Nat.testBit_xor, Nat.testBit_two_pow]
      by_cases c : i < n
      · rw [Nat.add_comm, Nat.testBit_two_pow_add_gt c]
        simp [show ¬ n = i by omega]
      · by_cases e : n = i
        · subst e
          rw [Nat.add_comm, Nat.testBit_two_pow_add_eq]
          simp
        · have h1 : (addUp g n + 2 ^ n).testBit i = false := by
            apply Nat.testBit_lt_two_pow
            have : 2 ^ (n + 1) ≤ 2 ^ i := Nat.pow_le_pow_right (by decide) (by omega)
            rw [Nat.pow_succ] at this
            omega
          have h2 : (addUp g n).testBit i = false := by
            apply Nat.testBit_lt_two_pow
            have : 2 ^ n ≤ 2 ^ i := Nat.pow_le_pow_right (by decide) (by omega)
            omega
          rw [h1, h2]
          simp [e]
theorem addUp_nt {r : Nat} (hr : r < 4294967296) (g : Nat → Bool) (h : ∀ k, k < 32 → g k = !r.testBit k) : addUp g 32 = nt r := by
  rw [addUp_word]
  apply Nat.eq_of_testBit_eq
  intro i
  rw [word_testBit]
  unfold nt
  rw [Nat.testBit_xor, show (4294967295 : Nat) = 2 ^ 32 - 1 by decide, Nat.testBit_two_pow_sub_one]
  by_cases c : i < 32
  · simp [c, h i c]
  · have : r.testBit i = false := by
      apply Nat.testBit_lt_two_pow
      have : 2 ^ 32 ≤ 2 ^ i := Nat.pow_le_pow_right (by decide) (by omega)
      omega
    simp [c, this]

theorem more_fbn (c : Nat) (l : List UInt8) : more c l = nt (fbn (nt c) (msg l) (8 * l.length)) := by
  rw [more, run_bits_all, fbn_msg _ _ _ (Nat.le_refl _)]

theorem nt_testBit {c : Nat} (k : Nat) (hk : k < 32) : (nt c).testBit k = !c.testBit k := by
  unfold nt
  rw [Nat.testBit_xor, show (4294967295 : Nat) = 2 ^ 32 - 1 by decide, Nat.testBit_two_pow_sub_one]
  simp [hk]

end Go.Proofs.YtfjdialbjbomdaaDoor.SM
