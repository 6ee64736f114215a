/-
  What belongs together: NumMath, RMath, WMath, KMath, LMath, KRMath, KLMath.
-/
import Derived.Test.YtoepifbpchpfkaaGreatDoorGpA
namespace Go.Proofs.YtoepifbpchpfkaaGreatDoor.NM

/-- the bytes of a number, so many digits at the most and one more -/
def encF : Nat → Nat → List UInt8
  | 0, n => [UInt8.ofNat n]
  | f + 1, n => if n < 128 then [UInt8.ofNat n] else UInt8.ofNat (n % 128 + 128) :: encF f (n / 128)
/-- the bytes of a number -/
def enc (n : Nat) : List UInt8 := encF n n

/-- reading from place i on, with what was read before it -/
def rd : List UInt8 → Nat → Nat → Nat × Nat × Nat
  | [], _, _ => (0, 0, 5)
  | b :: r, i, acc =>
    if i = 9 ∧ 1 < b.toNat then (0, 0, 2)
    else if 128 ≤ b.toNat then rd r (i + 1) (acc + b.toNat % 128 * 128 ^ i)
    else if b.toNat = 0 ∧ 0 < i then (0, 0, 1)
    else (acc + b.toNat % 128 * 128 ^ i, i + 1, 0)

theorem encF_small {n : Nat} (f : Nat) (h : n < 128) : encF f n = [UInt8.ofNat n] := by
  cases f with
  | zero => rfl
  | succ f => rw [encF, if_pos h]
theorem encF_eq : ∀ (n f g : Nat), n ≤ f → n ≤ g → encF f n = encF g n := by
  intro n
  induction n using Nat.strongRecOn with
  | ind n ih =>
    intro f g hf hg
    by_cases h : n < 128
    · rw [encF_small f h, encF_small g h]
    · obtain ⟨f', rfl⟩ : ∃ f', f = f' + 1 := ⟨f - 1, by omega⟩
      obtain ⟨g', rfl⟩ : ∃ g', g = g' + 1 := ⟨g - 1, by omega⟩
      rw [encF, encF, if_neg h, if_neg h, ih (n / 128) (by omega) f' g' (by omega) (by omega)]
theorem enc_small {n : Nat} (h : n < 128) : enc n = [UInt8.ofNat n] := encF_small n h
theorem enc_big {n : Nat} (h : 128 ≤ n) : enc n = UInt8.ofNat (n % 128 + 128) :: enc (n / 128) := by
  unfold enc
  obtain ⟨f, hf⟩ : ∃ f, n = f + 1 := ⟨n - 1, by omega⟩
  have e : encF n n = encF (f + 1) n := by rw [← hf]
  rw [e, encF, if_neg (by omega), encF_eq (n / 128) f (n / 128) (by omega) (Nat.le_refl _)]

theorem toNat_ofNat {n : Nat} (h : n < 256) : (UInt8.ofNat n).toNat = n := by
  simp [UInt8.toNat_ofNat']; omega

theorem pow10 {n i : Nat} (h : 128 ≤ n) (hi : n * 128 ^ i < 18446744073709551616) : i ≠ 9 := by
  intro e; subst e
  have := Nat.mul_le_mul_right (128 ^ 9) h
  omega

theorem rd_enc (rest : List UInt8) : ∀ (n i acc : Nat), n * 128 ^ i < 18446744073709551616 → (0 < n ∨ i = 0) →
    rd (enc n ++ rest) i acc = (acc + n * 128 ^ i, i + (enc n).length, 0) := by
  intro n
  induction n using Nat.strongRecOn with
  | ind n ih =>
    intro i acc hb hp
    by_cases h : n < 128
    · rw [enc_small h]
      have t : (UInt8.ofNat n).toNat = n := toNat_ofNat (by omega)
      have h9 : ¬ (i = 9 ∧ 1 < n) := by
        rintro ⟨rfl, h1⟩
        have := Nat.mul_le_mul_right (128 ^ 9) (show 2 ≤ n from h1)
        omega
      have hm : n % 128 = n := Nat.mod_eq_of_lt h
      have hz : ¬ (n = 0 ∧ 0 < i) := by omega
      simp only [List.cons_append, List.nil_append, rd, t, h9, if_false, hz, hm, show ¬ 128 ≤ n by omega, List.length_cons, List.length_nil]
    · have h' : 128 ≤ n := by omega
      rw [enc_big h']
      have t : (UInt8.ofNat (n % 128 + 128)).toNat = n % 128 + 128 := toNat_ofNat (by omega)
      have h9 := pow10 h' hb
      have e : n * 128 ^ i = n % 128 * 128 ^ i + n / 128 * 128 ^ (i + 1) := by
        rw [Nat.pow_succ, Nat.mul_comm (128 ^ i) 128, ← Nat.mul_assoc, ← Nat.add_mul]
        congr 1; omega
      have hi := ih (n / 128) (by omega) (i + 1) (acc + n % 128 * 128 ^ i) (by omega) (by left; omega)
      simp only [List.cons_append, rd, t, h9, false_and, if_false, show 128 ≤ n % 128 + 128 by omega, if_true, show (n % 128 + 128) % 128 = n % 128 by omega, hi, List.length_cons]
      rw [e]
      simp only [Prod.mk.injEq, and_true]
      omega

theorem ofNat_toNat (b : UInt8) : UInt8.ofNat b.toNat = b := by simp

theorem rd_bad : ∀ (l : List UInt8) (i acc : Nat), (rd l i acc).2.2 ≠ 0 → (rd l i acc).1 = 0 ∧ (rd l i acc).2.1 = 0 := by
  intro l
  induction l with
  | nil => intro i acc _; exact ⟨rfl, rfl⟩
  | cons b r ih =>
    intro i acc h
    unfold rd at h ⊢
    by_cases h1 : i = 9 ∧ 1 < b.toNat
    · simp [h1]
    · simp only [h1, if_false] at h ⊢
      by_cases h2 : 128 ≤ b.toNat
      · simp only [h2, if_true] at h ⊢
        exact ih _ _ h
      · simp only [h2, if_false] at h ⊢
        by_cases h3 : b.toNat = 0 ∧ 0 < i
        · simp [h3]
        · simp [h3] at h

theorem rd_only : ∀ (l : List UInt8) (i acc : Nat), (rd l i acc).2.2 = 0 →
    ∃ m, (rd l i acc).1 = acc + m * 128 ^ i ∧ i + 1 ≤ (rd l i acc).2.1 ∧ (rd l i acc).2.1 ≤ i + l.length ∧ enc m = l.take ((rd l i acc).2.1 - i) ∧ (0 < i → 0 < m) := by
  intro l
  induction l with
  | nil => intro i acc h; simp [rd] at h
  | cons b r ih =>
    intro i acc h
    have hb := b.toNat_lt
    by_cases h1 : i = 9 ∧ 1 < b.toNat
    · simp [rd, h1] at h
    · by_cases h2 : 128 ≤ b.toNat
      · have e : rd (b :: r) i acc = rd r (i + 1) (acc + b.toNat % 128 * 128 ^ i) := by simp only [rd, h1, if_false, h2, if_true]
        rw [e] at h ⊢
        obtain ⟨m, a1, a2, a3, a4, a5⟩ := ih _ _ h
        have hm := a5 (by omega)
        have hbm : b.toNat % 128 + 128 = b.toNat := by omega
        refine ⟨b.toNat % 128 + 128 * m, ?_, by omega, by simp only [List.length_cons]; omega, ?_, fun _ => by omega⟩
        · rw [a1, Nat.pow_succ, Nat.add_mul, Nat.mul_comm (128 ^ i) 128, ← Nat.mul_assoc, Nat.mul_comm m 128]; omega
        · rw [enc_big (by omega), show (b.toNat % 128 + 128 * m) / 128 = m by omega, show (b.toNat % 128 + 128 * m) % 128 + 128 = b.toNat by omega, ofNat_toNat, a4]
          obtain ⟨j, hj⟩ : ∃ j, (rd r (i + 1) (acc + b.toNat % 128 * 128 ^ i)).2.1 = i + 1 + j := ⟨_, (Nat.add_sub_cancel' (by omega)).symm⟩
          rw [hj, show i + 1 + j - (i + 1) = j by omega, show i + 1 + j - i = j + 1 by omega, List.take_succ_cons]
      · by_cases h3 : b.toNat = 0 ∧ 0 < i
        · simp [rd, h3] at h
        · have e : rd (b :: r) i acc = (acc + b.toNat % 128 * 128 ^ i, i + 1, 0) := by simp only [rd, h1, if_false, h2, h3]
          rw [e]
          refine ⟨b.toNat % 128, rfl, by simp, by simp, ?_, fun hi => by omega⟩
          rw [enc_small (by omega), show b.toNat % 128 = b.toNat by omega, ofNat_toNat]
          simp

theorem rd_cut : ∀ (n k i acc : Nat), n * 128 ^ i < 18446744073709551616 → k < (enc n).length → (rd ((enc n).take k) i acc).2.2 = 5 := by
  intro n
  induction n using Nat.strongRecOn with
  | ind n ih =>
    intro k i acc hb hk
    cases k with
    | zero => simp [rd]
    | succ k =>
      by_cases h : n < 128
      · rw [enc_small h] at hk; simp at hk
      · have h' : 128 ≤ n := by omega
        rw [enc_big h'] at hk ⊢
        have t : (UInt8.ofNat (n % 128 + 128)).toNat = n % 128 + 128 := toNat_ofNat (by omega)
        have h9 := pow10 h' hb
        have e : n * 128 ^ i = n % 128 * 128 ^ i + n / 128 * 128 ^ (i + 1) := by
          rw [Nat.pow_succ, Nat.mul_comm (128 ^ i) 128, ← Nat.mul_assoc, ← Nat.add_mul]
          congr 1; omega
        have hi := ih (n / 128) (by omega) k (i + 1) (acc + n % 128 * 128 ^ i) (by omega) (by simpa using hk)
        simp only [List.take_succ_cons, rd, t, h9, false_and, if_false, show 128 ≤ n % 128 + 128 by omega, if_true, show (n % 128 + 128) % 128 = n % 128 by omega, hi]

theorem enc_pos (n : Nat) : 1 ≤ (enc n).length := by
  by_cases h : n < 128
  · rw [enc_small h]; simp
  · rw [enc_big (by omega)]; simp

theorem enc_len : ∀ (j n : Nat), n < 128 ^ (j + 1) → (enc n).length ≤ j + 1 := by
  intro j
  induction j with
  | zero => intro n h; rw [enc_small (by simpa using h)]; simp
  | succ j ih =>
    intro n h
    by_cases h' : n < 128
    · rw [enc_small h']; simp
    · rw [enc_big (by omega)]
      have := ih (n / 128) (by rw [Nat.pow_succ] at h; omega)
      simp only [List.length_cons]; omega

theorem enc_ten {n : Nat} (h : n < 18446744073709551616) : (enc n).length ≤ 10 := enc_len 9 n (by omega)

theorem enc_mono : ∀ (b a : Nat), a ≤ b → (enc a).length ≤ (enc b).length := by
  intro b
  induction b using Nat.strongRecOn with
  | ind b ih =>
    intro a h
    by_cases ha : a < 128
    · rw [enc_small ha]; have := enc_pos b; simpa using this
    · rw [enc_big (show 128 ≤ a by omega), enc_big (show 128 ≤ b by omega)]
      have := ih (b / 128) (by omega) (a / 128) (by omega)
      simpa using this

theorem enc_tail {a : Nat} (h : 128 ≤ a) : (enc (a / 128)).length = (enc a).length - 1 := by
  rw [enc_big h]; simp

/-- the number of some digits, the least one first -/
def val : List UInt8 → Nat
  | [] => 0
  | b :: r => b.toNat % 128 + 128 * val r

theorem val_snoc (l : List UInt8) (b : UInt8) : val (l ++ [b]) = val l + b.toNat % 128 * 128 ^ l.length := by
  induction l with
  | nil => simp [val]
  | cons c r ih =>
    simp only [List.cons_append, val, ih, List.length_cons, Nat.pow_succ, Nat.mul_add]
    have : 128 * (b.toNat % 128 * 128 ^ r.length) = b.toNat % 128 * (128 ^ r.length * 128) := by
      rw [Nat.mul_comm (128 ^ r.length) 128, ← Nat.mul_assoc, ← Nat.mul_assoc, Nat.mul_comm 128 (b.toNat % 128)]
    omega

theorem val_lt (l : List UInt8) : val l < 128 ^ l.length := by
  induction l with
  | nil => simp [val]
  | cons c r ih => simp only [val, List.length_cons, Nat.pow_succ]; omega

/-- what stands ahead, all from 128 on and fewer than ten of them, is taken into what was read -/
theorem rd_skip : ∀ (l rest : List UInt8) (i acc : Nat), (∀ b ∈ l, 128 ≤ b.toNat) → i + l.length ≤ 9 →
    rd (l ++ rest) i acc = rd rest (i + l.length) (acc + val l * 128 ^ i) := by
  intro l
  induction l with
  | nil => intro rest i acc _ _; simp [val]
  | cons b r ih =>
    intro rest i acc hb hl
    have h2 : 128 ≤ b.toNat := hb b (by simp)
    simp only [List.length_cons] at hl
    have h9 : i ≠ 9 := by omega
    have e := ih rest (i + 1) (acc + b.toNat % 128 * 128 ^ i) (fun c hc => hb c (by simp [hc])) (by omega)
    simp only [List.cons_append, rd, h9, false_and, if_false, h2, if_true, e, List.length_cons, val]
    rw [show i + 1 + r.length = i + (r.length + 1) by omega]
    congr 1
    rw [Nat.pow_succ, Nat.add_mul, Nat.mul_comm (128 ^ i) 128, ← Nat.mul_assoc, Nat.mul_comm (val r) 128]
    omega

/-- what is read has at most 64 bits -/
theorem rd_lt' : ∀ (l : List UInt8) (i acc : Nat), i ≤ 9 → acc < 128 ^ i → (rd l i acc).1 < 18446744073709551616 := by
  intro l
  induction l with
  | nil => intro i acc _ _; simp [rd]
  | cons b r ih =>
    intro i acc hi hacc
    have p9 : 128 ^ i ≤ 9223372036854775808 := Nat.le_trans (Nat.pow_le_pow_right (by decide) hi) (by decide)
    unfold rd
    by_cases h1 : i = 9 ∧ 1 < b.toNat
    · simp [h1]
    · simp only [h1, if_false]
      by_cases h2 : 128 ≤ b.toNat
      · simp only [h2, if_true]
        have i8 : i ≤ 8 := by omega
        refine ih (i + 1) _ (by omega) ?_
        have := Nat.mul_le_mul_right (128 ^ i) (show b.toNat % 128 ≤ 127 by omega)
        rw [Nat.pow_succ]; omega
      · simp only [h2, if_false]
        by_cases h3 : b.toNat = 0 ∧ 0 < i
        · simp [h3]
        · simp only [h3, if_false]
          by_cases c : i = 9
          · have := Nat.mul_le_mul_right (128 ^ i) (show b.toNat % 128 ≤ 1 by omega)
            omega
          · have p8 : 128 ^ i ≤ 72057594037927936 := Nat.le_trans (Nat.pow_le_pow_right (by decide) (show i ≤ 8 by omega)) (by decide)
            have := Nat.mul_le_mul_right (128 ^ i) (show b.toNat % 128 ≤ 127 by omega)
            omega

theorem rd_lt (l : List UInt8) : (rd l 0 0).1 < 18446744073709551616 := rd_lt' l 0 0 (by decide) (by decide)

end Go.Proofs.YtoepifbpchpfkaaGreatDoor.NM
namespace Go.Proofs.YtoepifbpchpfkaaGreatDoor
namespace RM
open VM

def zag (u : Nat) : Int := if (u : Int) % 2 = 0 then (u : Int) / 2 else -((u : Int) / 2) - 1

/-- a number, and what is behind it -/
def nu (l : List UInt8) : Except Nat (Nat × List UInt8) :=
  if (NM.rd l 0 0).2.2 = 0 then .ok ((NM.rd l 0 0).1, l.drop (NM.rd l 0 0).2.1) else .error (NM.rd l 0 0).2.2
def cnt (most : Nat) (l : List UInt8) : Except Nat (Nat × List UInt8) :=
  match nu l with
  | .error e => .error e
  | .ok (n, t) => if most < n then .error 2 else .ok (n, t)
def tx (k : Nat) (l : List UInt8) : Except Nat (Vl × List UInt8) :=
  match cnt 16 l with
  | .error e => .error e
  | .ok (n, t) => if t.length < n then .error 5 else .ok (⟨k, 0, ⟨(t.take n).toArray⟩⟩, t.drop n)
def nt (l : List UInt8) : Except Nat (Vl × List UInt8) :=
  match nu l with
  | .error e => .error e
  | .ok (n, t) => .ok (⟨1, zag n, ⟨#[]⟩⟩, t)
/-- a value -/
def vl (l : List UInt8) : Except Nat (Vl × List UInt8) :=
  match l with
  | [] => .error 5
  | b :: t =>
    if b.toNat = 0 then .ok (⟨0, 0, ⟨#[]⟩⟩, t)
    else if b.toNat = 1 then nt t
    else if b.toNat = 2 ∨ b.toNat = 3 then tx b.toNat t
    else .error 7
/-- so many values -/
def vls : Nat → List UInt8 → Except Nat (List Vl × List UInt8)
  | 0, l => .ok ([], l)
  | n + 1, l =>
    match vl l with
    | .error e => .error e
    | .ok (x, t) =>
      match vls n t with
      | .error e => .error e
      | .ok (xs, u) => .ok (x :: xs, u)
/-- a row -/
def row (l : List UInt8) : Except Nat (List Vl × List UInt8) :=
  match cnt 8 l with
  | .error e => .error e
  | .ok (n, t) => vls n t

def pre (xs : List Vl) (x : Except Nat (List Vl × List UInt8)) : Except Nat (List Vl × List UInt8) :=
  match x with
  | .error e => .error e
  | .ok (ys, u) => .ok (xs ++ ys, u)
theorem pre_nil (x : Except Nat (List Vl × List UInt8)) : pre [] x = x := by
  unfold pre
  split <;> rfl
theorem vls_err {n : Nat} {l : List UInt8} {e : Nat} (h : vl l = .error e) (xs : List Vl) : pre xs (vls (n + 1) l) = .error e := by
  unfold vls pre
  rw [h]
theorem vls_ok {n : Nat} {l t : List UInt8} {x : Vl} (h : vl l = .ok (x, t)) (xs : List Vl) : pre xs (vls (n + 1) l) = pre (xs ++ [x]) (vls n t) := by
  unfold pre
  rw [vls, h]
  simp only
  split <;> rename_i h'
  · split at h'
    · cases h'; rfl
    · cases h'
  · split at h'
    · cases h'
    · cases h'; simp
theorem rd_le (l : List UInt8) : (NM.rd l 0 0).2.1 ≤ l.length := by
  by_cases h : (NM.rd l 0 0).2.2 = 0
  · obtain ⟨m, _, _, h3, _⟩ := NM.rd_only l 0 0 h
    omega
  · have := (NM.rd_bad l 0 0 h).2
    omega
theorem nu_le {l t : List UInt8} {n : Nat} (h : nu l = .ok (n, t)) : t.length ≤ l.length := by
  unfold nu at h
  split at h
  · cases h; simp
  · cases h
theorem cnt_le {l t : List UInt8} {m n : Nat} (h : cnt m l = .ok (n, t)) : t.length ≤ l.length ∧ n ≤ m := by
  unfold cnt at h
  split at h
  · cases h
  · rename_i n' t' h'
    split at h
    · cases h
    · cases h
      exact ⟨nu_le h', by omega⟩
theorem vl_le {l t : List UInt8} {x : Vl} (h : vl l = .ok (x, t)) : t.length ≤ l.length := by
  unfold vl at h
  split at h
  · cases h
  · rename_i b u
    simp only [List.length_cons]
    split at h
    · cases h; omega
    · split at h
      · unfold nt at h
        split at h
        · cases h
        · rename_i n t' h'
          cases h
          have := nu_le h'
          omega
      · split at h
        · unfold tx at h
          split at h
          · cases h
          · rename_i n t' h'
            split at h
            · cases h
            · cases h
              have := (cnt_le h').1
              simp only [List.length_drop]
              omega
        · cases h
theorem nu_err {l : List UInt8} {e : Nat} (h : nu l = .error e) : e ≠ 0 := by
  unfold nu at h
  split at h
  · cases h
  · cases h; assumption
theorem cnt_err {m : Nat} {l : List UInt8} {e : Nat} (h : cnt m l = .error e) : e ≠ 0 := by
  unfold cnt at h
  split at h
  · rename_i h'; cases h; exact nu_err h'
  · split at h
    · cases h; omega
    · cases h
theorem vl_err {l : List UInt8} {e : Nat} (h : vl l = .error e) : e ≠ 0 := by
  unfold vl at h
  split at h
  · cases h; omega
  · split at h
    · cases h
    · split at h
      · unfold nt at h
        split at h
        · rename_i h'; cases h; exact nu_err h'
        · cases h
      · split at h
        · unfold tx at h
          split at h
          · rename_i h'; cases h; exact cnt_err h'
          · split at h
            · cases h; omega
            · cases h
        · cases h; omega
theorem vls_err0 : ∀ {n : Nat} {l : List UInt8} {e : Nat}, vls n l = .error e → e ≠ 0 := by
  intro n
  induction n with
  | zero => intro l e h; cases h
  | succ n ih =>
    intro l e h
    unfold vls at h
    split at h
    · rename_i h'; cases h; exact vl_err h'
    · split at h
      · rename_i h'; cases h; exact ih h'
      · cases h
theorem row_err {l : List UInt8} {e : Nat} (h : row l = .error e) : e ≠ 0 := by
  unfold row at h
  split at h
  · rename_i h'; cases h; exact cnt_err h'
  · exact vls_err0 h
theorem vls_le : ∀ {n : Nat} {l t : List UInt8} {xs : List Vl}, vls n l = .ok (xs, t) → t.length ≤ l.length := by
  intro n
  induction n with
  | zero => intro l t xs h; cases h; omega
  | succ n ih =>
    intro l t xs h
    unfold vls at h
    split at h
    · cases h
    · rename_i h'
      have h1 := vl_le h'
      split at h
      · cases h
      · rename_i h''
        cases h
        have := ih h''
        omega
theorem row_le {l t : List UInt8} {xs : List Vl} (h : row l = .ok (xs, t)) : t.length ≤ l.length := by
  unfold row at h
  split at h
  · cases h
  · rename_i h'
    have h1 := (cnt_le h').1
    have := vls_le h
    omega
end RM
end Go.Proofs.YtoepifbpchpfkaaGreatDoor
namespace Go.Proofs.YtoepifbpchpfkaaGreatDoor
namespace WM
open VM

def zig (n : Int) : Nat := (if 0 ≤ n then 2 * n else -2 * n - 1).toNat
/-- what stands behind the kind -/
def body (x : Vl) : List UInt8 :=
  if x.k = 1 then NM.enc (zig x.n) else if x.k = 2 ∨ x.k = 3 then NM.enc x.s.size ++ x.s.data.toList else []
def vb (x : Vl) : List UInt8 := UInt8.ofNat x.k.toNat :: body x
def row (l : List Vl) : List UInt8 := NM.enc l.length ++ l.flatMap vb

theorem chk_ok {x : Vl} (h : chk x = 0) : 0 ≤ x.k ∧ x.k ≤ 3 ∧ (x.n ≠ 0 → x.k = 1) ∧ (x.s.size ≠ 0 → x.k = 2 ∨ x.k = 3) ∧ x.s.size ≤ 16 := by
  unfold chk at h
  split at h
  · cases h
  · split at h
    · cases h
    · split at h
      · cases h
      · rename_i h1 h2 h3
        refine ⟨by omega, by omega, fun hn => ?_, fun hs => ?_, by omega⟩
        · by_cases c : x.k = 1
          · exact c
          · exact absurd (Or.inl ⟨hn, c⟩) h2
        · by_cases c : x.k = 2 ∨ x.k = 3
          · exact c
          · exact absurd (Or.inr ⟨hs, c⟩) h2
theorem chkAll_ok {l : List Vl} (h : chkAll l = 0) : ∀ x ∈ l, chk x = 0 := by
  induction l with
  | nil => intro x hx; simp at hx
  | cons a t ih =>
    unfold chkAll at h
    intro x hx
    split at h
    · rename_i ha
      rcases List.mem_cons.1 hx with rfl | hx
      · exact ha
      · exact ih h x hx
    · rename_i ha
      exact absurd h ha
theorem chkRow_ok {l : List Vl} (h : chkRow l = 0) : l.length ≤ 8 ∧ ∀ x ∈ l, chk x = 0 := by
  unfold chkRow at h
  split at h
  · cases h
  · exact ⟨by omega, chkAll_ok h⟩
theorem body_len {x : Vl} (h : chk x = 0) (hn : -9223372036854775808 ≤ x.n ∧ x.n ≤ 9223372036854775807) : (body x).length ≤ 30 := by
  have hx := chk_ok h
  unfold body
  split
  · have : zig x.n < 18446744073709551616 := by unfold zig; split <;> omega
    have := NM.enc_ten this
    omega
  · split
    · have h1 : x.s.size < 18446744073709551616 := by omega
      have := NM.enc_ten h1
      have e : x.s.data.toList.length = x.s.size := by rw [Array.length_toList]; rfl
      rw [List.length_append, e]
      omega
    · simp
end WM
end Go.Proofs.YtoepifbpchpfkaaGreatDoor
namespace Go.Proofs.YtoepifbpchpfkaaGreatDoor
namespace KM
open VM

/-- the eight bytes of a number below 2 to the 64, the greatest first -/
def be : Nat → Nat → List UInt8
  | 0, _ => []
  | k + 1, u => UInt8.ofNat (u / 256 ^ k) :: be k (u % 256 ^ k)
/-- a number of 64 bits, its highest bit turned -/
def turn (n : Int) : Nat := (n + 9223372036854775808).toNat
def esc : List UInt8 → List UInt8
  | [] => [0, 1]
  | b :: t => if b.toNat = 0 then 0 :: 255 :: esc t else b :: esc t
/-- the key of a value -/
def kb (x : Vl) : List UInt8 :=
  if x.k = 0 then [5]
  else if x.k = 1 then 16 :: be 8 (turn x.n)
  else if x.k = 2 then 32 :: esc x.s.data.toList
  else 48 :: esc x.s.data.toList
def row (l : List Vl) : List UInt8 := l.flatMap kb

theorem esc_len (l : List UInt8) : (esc l).length ≤ 2 * l.length + 2 := by
  induction l with
  | nil => simp [esc]
  | cons b t ih =>
    unfold esc
    split <;> simp <;> omega
theorem be_len (k u : Nat) : (be k u).length = k := by
  induction k generalizing u with
  | zero => rfl
  | succ k ih => simp [be, ih]
theorem kb_len {x : Vl} (h : x.s.size ≤ 16) : (kb x).length ≤ 35 := by
  have e : x.s.data.toList.length = x.s.size := by rw [Array.length_toList]; rfl
  have := esc_len x.s.data.toList
  unfold kb
  split
  · simp
  · split
    · simp [be_len]
    · split <;> simp <;> omega
end KM
end Go.Proofs.YtoepifbpchpfkaaGreatDoor
namespace Go.Proofs.YtoepifbpchpfkaaGreatDoor
namespace LM
open VM

def wide (x : Vl) : Prop := -9223372036854775808 ≤ x.n ∧ x.n ≤ 9223372036854775807

theorem nu_enc {n : Nat} (h : n < 18446744073709551616) (rest : List UInt8) : RM.nu (NM.enc n ++ rest) = .ok (n, rest) := by
  have e := NM.rd_enc rest n 0 0 (by simpa using h) (Or.inr rfl)
  unfold RM.nu
  rw [e]
  simp
theorem nu_cut {n k : Nat} (h : n < 18446744073709551616) (hk : k < (NM.enc n).length) : RM.nu ((NM.enc n).take k) = .error 5 := by
  have e := NM.rd_cut n k 0 0 (by simpa using h) hk
  unfold RM.nu
  rw [e]
  simp
theorem nu_only {l t : List UInt8} {n : Nat} (h : RM.nu l = .ok (n, t)) : l = NM.enc n ++ t ∧ n < 18446744073709551616 := by
  unfold RM.nu at h
  split at h
  · rename_i h0
    cases h
    obtain ⟨m, h1, h2, h3, h4, _⟩ := NM.rd_only l 0 0 h0
    have h1' : (NM.rd l 0 0).1 = m := by simpa using h1
    rw [h1', h4, Nat.sub_zero, List.take_append_drop]
    exact ⟨rfl, by have := NM.rd_lt l; omega⟩
  · cases h
theorem cnt_enc {m n : Nat} (h : n < 18446744073709551616) (hm : n ≤ m) (rest : List UInt8) : RM.cnt m (NM.enc n ++ rest) = .ok (n, rest) := by
  unfold RM.cnt
  rw [nu_enc h]
  simp only
  rw [if_neg (by omega)]
theorem cnt_cut {m n k : Nat} (h : n < 18446744073709551616) (hk : k < (NM.enc n).length) : RM.cnt m ((NM.enc n).take k) = .error 5 := by
  unfold RM.cnt
  rw [nu_cut h hk]
theorem cnt_only {m : Nat} {l t : List UInt8} {n : Nat} (h : RM.cnt m l = .ok (n, t)) : l = NM.enc n ++ t ∧ n < 18446744073709551616 ∧ n ≤ m := by
  unfold RM.cnt at h
  split at h
  · cases h
  · rename_i h'
    split at h
    · cases h
    · cases h
      obtain ⟨h1, h2⟩ := nu_only h'
      exact ⟨h1, h2, by omega⟩

theorem empty_of {s : ByteArray} (h : s.size = 0) : s = ⟨#[]⟩ := by
  obtain ⟨⟨l⟩⟩ := s
  have : l.length = 0 := h
  rw [List.length_eq_zero_iff.1 this]
theorem ba_of (s : ByteArray) : (⟨s.data.toList.toArray⟩ : ByteArray) = s := by cases s; simp

theorem zag_zig {n : Int} : RM.zag (WM.zig n) = n := by
  unfold RM.zag WM.zig
  split <;> split <;> omega
theorem zig_zag (u : Nat) : WM.zig (RM.zag u) = u := by
  unfold RM.zag WM.zig
  split <;> split <;> omega
theorem zig_lt {x : Vl} (h : wide x) : WM.zig x.n < 18446744073709551616 := by
  unfold wide at h
  unfold WM.zig
  split <;> omega
theorem dl (s : ByteArray) : s.data.toList.length = s.size := by rw [Array.length_toList]; rfl

theorem kinds {x : Vl} (h : chk x = 0) : (x = ⟨0, 0, ⟨#[]⟩⟩) ∨ (x.k = 1 ∧ x.s = ⟨#[]⟩) ∨ ((x.k = 2 ∨ x.k = 3) ∧ x.n = 0 ∧ x.s.size ≤ 16) := by
  obtain ⟨h1, h2, h3, h4, h5⟩ := WM.chk_ok h
  obtain ⟨k, n, s⟩ := x
  simp only at *
  have hk : k = 0 ∨ k = 1 ∨ k = 2 ∨ k = 3 := by omega
  rcases hk with rfl | rfl | hk
  · left
    have hn : n = 0 := by
      by_cases c : n = 0
      · exact c
      · have := h3 c; omega
    have hs : s.size = 0 := by
      by_cases c : s.size = 0
      · exact c
      · have := h4 c; omega
    rw [hn, empty_of hs]
  · right; left
    have hs : s.size = 0 := by
      by_cases c : s.size = 0
      · exact c
      · have := h4 c; omega
    exact ⟨rfl, empty_of hs⟩
  · right; right
    refine ⟨hk, ?_, h5⟩
    by_cases c : n = 0
    · exact c
    · have := h3 c; omega

theorem vl_one (t : List UInt8) : RM.vl (1 :: t) = RM.nt t := rfl
theorem vl_two (t : List UInt8) : RM.vl (2 :: t) = RM.tx 2 t := rfl
theorem vl_three (t : List UInt8) : RM.vl (3 :: t) = RM.tx 3 t := rfl
theorem tx_enc (k : Nat) (s : ByteArray) (h : s.size ≤ 16) (rest : List UInt8) : RM.tx k (NM.enc s.size ++ s.data.toList ++ rest) = .ok (⟨k, 0, s⟩, rest) := by
  unfold RM.tx
  rw [List.append_assoc, cnt_enc (by omega) h]
  simp only
  have e := dl s
  rw [if_neg (by rw [List.length_append]; omega), ← e, List.take_left' rfl, List.drop_left' rfl, ba_of]
theorem nt_enc {n : Int} (h : WM.zig n < 18446744073709551616) (rest : List UInt8) : RM.nt (NM.enc (WM.zig n) ++ rest) = .ok (⟨1, n, ⟨#[]⟩⟩, rest) := by
  unfold RM.nt
  rw [nu_enc h]
  simp only
  rw [zag_zig]

theorem vl_back {x : Vl} (h : chk x = 0) (hw : wide x) (rest : List UInt8) : RM.vl (WM.vb x ++ rest) = .ok (x, rest) := by
  rcases kinds h with rfl | ⟨h1, h2⟩ | ⟨h1, h2, h3⟩
  · rfl
  · obtain ⟨k, n, s⟩ := x
    simp only at h1 h2
    subst h1 h2
    show RM.vl (1 :: (NM.enc (WM.zig n) ++ rest)) = _
    rw [vl_one, nt_enc (zig_lt hw)]
  · obtain ⟨k, n, s⟩ := x
    simp only at h1 h2 h3
    subst h2
    rcases h1 with rfl | rfl
    · show RM.vl (2 :: (NM.enc s.size ++ s.data.toList ++ rest)) = _
      rw [vl_two, tx_enc 2 s h3]
      rfl
    · show RM.vl (3 :: (NM.enc s.size ++ s.data.toList ++ rest)) = _
      rw [vl_three, tx_enc 3 s h3]
      rfl
theorem vls_back {l : List Vl} (h : ∀ x ∈ l, chk x = 0) (hw : ∀ x ∈ l, wide x) (rest : List UInt8) : RM.vls l.length (l.flatMap WM.vb ++ rest) = .ok (l, rest) := by
  induction l with
  | nil => rfl
  | cons a t ih =>
    rw [List.flatMap_cons, List.append_assoc, List.length_cons, RM.vls, vl_back (h a (by simp)) (hw a (by simp))]
    simp only
    rw [ih (fun x hx => h x (by simp [hx])) (fun x hx => hw x (by simp [hx]))]
theorem row_back {l : List Vl} (h : chkRow l = 0) (hw : ∀ x ∈ l, wide x) (rest : List UInt8) : RM.row (WM.row l ++ rest) = .ok (l, rest) := by
  obtain ⟨h8, ha⟩ := WM.chkRow_ok h
  unfold RM.row WM.row
  rw [List.append_assoc, cnt_enc (by omega) h8]
  exact vls_back ha hw rest

theorem take_two {a b : List UInt8} {k : Nat} (h : ¬ k < a.length) : (a ++ b).take k = a ++ b.take (k - a.length) := by
  rw [List.take_append, List.take_of_length_le (by omega)]
theorem take_one {a b : List UInt8} {k : Nat} (h : k < a.length) : (a ++ b).take k = a.take k := by
  rw [List.take_append, show k - a.length = 0 by omega]
  simp
theorem vl_cut {x : Vl} (h : chk x = 0) (hw : wide x) {k : Nat} (hk : k < (WM.vb x).length) : RM.vl ((WM.vb x).take k) = .error 5 := by
  cases k with
  | zero => rfl
  | succ k =>
    rcases kinds h with rfl | ⟨h1, h2⟩ | ⟨h1, h2, h3⟩
    · have e : (WM.vb ⟨0, 0, ⟨#[]⟩⟩).length = 1 := rfl
      omega
    · obtain ⟨kk, n, s⟩ := x
      simp only at h1 h2
      subst h1 h2
      have e : WM.vb ⟨1, n, ⟨#[]⟩⟩ = 1 :: NM.enc (WM.zig n) := rfl
      rw [e] at hk ⊢
      rw [List.take_succ_cons, vl_one]
      unfold RM.nt
      rw [nu_cut (zig_lt hw) (by simpa using hk)]
    · obtain ⟨kk, n, s⟩ := x
      simp only at h1 h2 h3
      subst h2
      have key : ∀ q, k < (NM.enc s.size ++ s.data.toList).length → RM.tx q ((NM.enc s.size ++ s.data.toList).take k) = .error 5 := by
        intro q hq
        unfold RM.tx
        by_cases c : k < (NM.enc s.size).length
        · rw [take_one c, cnt_cut (by omega) c]
        · rw [take_two c, cnt_enc (by omega) h3]
          simp only
          have e := dl s
          rw [List.length_append] at hq
          rw [if_pos (by rw [List.length_take]; omega)]
      rcases h1 with rfl | rfl
      · have e : WM.vb ⟨2, 0, s⟩ = 2 :: (NM.enc s.size ++ s.data.toList) := rfl
        rw [e] at hk ⊢
        rw [List.take_succ_cons, vl_two]
        exact key 2 (by simpa using hk)
      · have e : WM.vb ⟨3, 0, s⟩ = 3 :: (NM.enc s.size ++ s.data.toList) := rfl
        rw [e] at hk ⊢
        rw [List.take_succ_cons, vl_three]
        exact key 3 (by simpa using hk)
theorem vls_cut {l : List Vl} (h : ∀ x ∈ l, chk x = 0) (hw : ∀ x ∈ l, wide x) : ∀ {k : Nat}, k < (l.flatMap WM.vb).length → RM.vls l.length ((l.flatMap WM.vb).take k) = .error 5 := by
  induction l with
  | nil => intro k hk; simp at hk
  | cons a t ih =>
    intro k hk
    rw [List.flatMap_cons] at hk ⊢
    rw [List.length_cons, RM.vls]
    by_cases c : k < (WM.vb a).length
    · rw [take_one c, vl_cut (h a (by simp)) (hw a (by simp)) c]
    · rw [take_two c, vl_back (h a (by simp)) (hw a (by simp))]
      simp only
      rw [List.length_append] at hk
      rw [ih (fun x hx => h x (by simp [hx])) (fun x hx => hw x (by simp [hx])) (by omega)]
theorem row_cut {l : List Vl} (h : chkRow l = 0) (hw : ∀ x ∈ l, wide x) {k : Nat} (hk : k < (WM.row l).length) : RM.row ((WM.row l).take k) = .error 5 := by
  obtain ⟨h8, ha⟩ := WM.chkRow_ok h
  unfold WM.row at hk ⊢
  unfold RM.row
  by_cases c : k < (NM.enc l.length).length
  · rw [take_one c, cnt_cut (by omega) c]
  · rw [take_two c, cnt_enc (by omega) h8]
    simp only
    rw [List.length_append] at hk
    exact vls_cut ha hw (by omega)

theorem zag_wide {u : Nat} (h : u < 18446744073709551616) : -9223372036854775808 ≤ RM.zag u ∧ RM.zag u ≤ 9223372036854775807 := by
  unfold RM.zag
  split <;> omega
theorem u8_eq {b : UInt8} {n : Nat} (h : b.toNat = n) : b = UInt8.ofNat n := by
  rw [← h]
  simp
theorem tx_only {k : Nat} {l t : List UInt8} {x : Vl} (h : RM.tx k l = .ok (x, t)) : x.k = k ∧ x.n = 0 ∧ x.s.size ≤ 16 ∧ l = NM.enc x.s.size ++ x.s.data.toList ++ t := by
  unfold RM.tx at h
  split at h
  · cases h
  · rename_i n u h'
    obtain ⟨h1, h2, h3⟩ := cnt_only h'
    split at h
    · cases h
    · rename_i h4
      cases h
      have e : (⟨(u.take n).toArray⟩ : ByteArray).size = n := by
        show (u.take n).length = n
        rw [List.length_take]
        omega
      refine ⟨rfl, rfl, by simp only; omega, ?_⟩
      simp only
      rw [e, h1, List.append_assoc]
      simp
theorem nt_only {l t : List UInt8} {x : Vl} (h : RM.nt l = .ok (x, t)) : ∃ u, x = ⟨1, RM.zag u, ⟨#[]⟩⟩ ∧ u < 18446744073709551616 ∧ l = NM.enc u ++ t := by
  unfold RM.nt at h
  split at h
  · cases h
  · rename_i n u h'
    obtain ⟨h1, h2⟩ := nu_only h'
    cases h
    exact ⟨n, rfl, h2, h1⟩
theorem chk_text {k : Int} {s : ByteArray} (hk : k = 2 ∨ k = 3) (h : s.size ≤ 16) : chk ⟨k, 0, s⟩ = 0 := by
  unfold chk
  simp only
  rw [if_neg (by omega), if_neg (by rintro (⟨a, _⟩ | ⟨_, b⟩); exact a rfl; exact b hk), if_neg (by omega)]
theorem chk_int (n : Int) : chk ⟨1, n, ⟨#[]⟩⟩ = 0 := by
  unfold chk
  simp only
  rw [if_neg (by omega), if_neg (by rintro (⟨_, b⟩ | ⟨a, _⟩); exact b rfl; exact a rfl)]
  rfl
theorem vl_only {l t : List UInt8} {x : Vl} (h : RM.vl l = .ok (x, t)) : chk x = 0 ∧ wide x ∧ l = WM.vb x ++ t := by
  unfold RM.vl at h
  split at h
  · cases h
  · rename_i b u
    split at h
    · rename_i hb
      cases h
      refine ⟨by decide, by unfold wide; decide, ?_⟩
      rw [u8_eq hb]
      rfl
    · split at h
      · rename_i hb
        obtain ⟨q, rfl, hq, rfl⟩ := nt_only h
        refine ⟨chk_int _, zag_wide hq, ?_⟩
        rw [u8_eq hb]
        show _ = 1 :: (NM.enc (WM.zig (RM.zag q)) ++ t)
        rw [zig_zag]
        rfl
      · split at h
        · rename_i hb
          obtain ⟨h1, h2, h3, h4⟩ := tx_only h
          obtain ⟨k, n, s⟩ := x
          simp only at h1 h2 h3 h4
          subst h2
          rw [h4]
          rcases hb with hb | hb
          · rw [hb] at h1
            subst h1
            refine ⟨chk_text (Or.inl rfl) h3, ⟨by simp only; omega, by simp only; omega⟩, ?_⟩
            rw [u8_eq hb]
            rfl
          · rw [hb] at h1
            subst h1
            refine ⟨chk_text (Or.inr rfl) h3, ⟨by simp only; omega, by simp only; omega⟩, ?_⟩
            rw [u8_eq hb]
            rfl
        · cases h
theorem vls_only : ∀ {n : Nat} {l t : List UInt8} {xs : List Vl}, RM.vls n l = .ok (xs, t) → xs.length = n ∧ (∀ x ∈ xs, chk x = 0) ∧ (∀ x ∈ xs, wide x) ∧ l = xs.flatMap WM.vb ++ t := by
  intro n
  induction n with
  | zero => intro l t xs h; cases h; exact ⟨rfl, fun x hx => by simp at hx, fun x hx => by simp at hx, rfl⟩
  | succ n ih =>
    intro l t xs h
    rw [RM.vls] at h
    split at h
    · cases h
    · rename_i x u h1
      split at h
      · cases h
      · rename_i ys v h2
        cases h
        obtain ⟨a1, a2, a3⟩ := vl_only h1
        obtain ⟨b1, b2, b3, b4⟩ := ih h2
        refine ⟨by simp [b1], ?_, ?_, ?_⟩
        · intro y hy
          rcases List.mem_cons.1 hy with rfl | hy
          · exact a1
          · exact b2 y hy
        · intro y hy
          rcases List.mem_cons.1 hy with rfl | hy
          · exact a2
          · exact b3 y hy
        · rw [a3, b4, List.flatMap_cons, List.append_assoc]
theorem chkAll_mk {l : List Vl} (h : ∀ x ∈ l, chk x = 0) : chkAll l = 0 := by
  induction l with
  | nil => rfl
  | cons a t ih =>
    rw [chkAll, if_pos (h a (by simp))]
    exact ih (fun x hx => h x (by simp [hx]))
theorem row_only {l t : List UInt8} {xs : List Vl} (h : RM.row l = .ok (xs, t)) : chkRow xs = 0 ∧ (∀ x ∈ xs, wide x) ∧ l = WM.row xs ++ t := by
  unfold RM.row at h
  split at h
  · cases h
  · rename_i n u h1
    obtain ⟨a1, a2, a3⟩ := cnt_only h1
    obtain ⟨b1, b2, b3, b4⟩ := vls_only h
    refine ⟨?_, b3, ?_⟩
    · unfold chkRow
      rw [if_neg (by omega)]
      exact chkAll_mk b2
    · unfold WM.row
      rw [a1, b4, b1, List.append_assoc]
end LM
end Go.Proofs.YtoepifbpchpfkaaGreatDoor
namespace Go.Proofs.YtoepifbpchpfkaaGreatDoor
namespace KR
open VM

/-- bytes as a number, the greatest first -/
def bv (l : List UInt8) : Nat := l.foldl (fun a b => a * 256 + b.toNat) 0
theorem bv_snoc (l : List UInt8) (b : UInt8) : bv (l ++ [b]) = bv l * 256 + b.toNat := by simp [bv]
theorem bv_lt (l : List UInt8) : bv l < 256 ^ l.length := by
  suffices h : ∀ (l : List UInt8) (a : Nat), l.foldl (fun a b => a * 256 + b.toNat) a < (a + 1) * 256 ^ l.length by
    have := h l 0
    simpa [bv] using this
  intro l
  induction l with
  | nil => intro a; simp
  | cons b t ih =>
    intro a
    simp only [List.foldl_cons, List.length_cons]
    have h1 := ih (a * 256 + b.toNat)
    have h2 : b.toNat < 256 := b.toNat_lt
    have h3 : (a * 256 + b.toNat + 1) * 256 ^ t.length ≤ ((a + 1) * 256) * 256 ^ t.length := Nat.mul_le_mul_right _ (by omega)
    rw [Nat.pow_succ, Nat.mul_comm (256 ^ t.length) 256, ← Nat.mul_assoc]
    omega

def ki (l : List UInt8) : Except Nat (Int × List UInt8) :=
  if l.length < 8 then .error 1 else .ok ((bv (l.take 8) : Int) - 9223372036854775808, l.drop 8)
def kt : List UInt8 → List UInt8 → Except Nat (List UInt8 × List UInt8)
  | [], _ => .error 1
  | [_], _ => .error 1
  | b :: c :: u, acc =>
    if b.toNat ≠ 0 then kt (c :: u) (acc ++ [b])
    else if c.toNat = 255 then kt u (acc ++ [0])
    else if c.toNat = 1 then (if 16 < acc.length then .error 2 else .ok (acc, u))
    else .error 1
def kn (l : List UInt8) : Except Nat (Vl × List UInt8) :=
  match ki l with
  | .error e => .error e
  | .ok (n, t) => .ok (⟨1, n, ⟨#[]⟩⟩, t)
def kx (k : Nat) (l : List UInt8) : Except Nat (Vl × List UInt8) :=
  match kt l [] with
  | .error e => .error e
  | .ok (s, t) => .ok (⟨k, 0, ⟨s.toArray⟩⟩, t)
def kv (l : List UInt8) : Except Nat (Vl × List UInt8) :=
  match l with
  | [] => .error 1
  | b :: t =>
    if b.toNat = 5 then .ok (⟨0, 0, ⟨#[]⟩⟩, t)
    else if b.toNat = 16 then kn t
    else if b.toNat = 32 then kx 2 t
    else if b.toNat = 48 then kx 3 t
    else .error 1
def kr : Nat → List UInt8 → Except Nat (List Vl × List UInt8)
  | _, [] => .ok ([], [])
  | 0, _ :: _ => .error 2
  | n + 1, b :: u =>
    match kv (b :: u) with
    | .error e => .error e
    | .ok (x, t) =>
      match kr n t with
      | .error e => .error e
      | .ok (xs, v) => .ok (x :: xs, v)

theorem kr_nil (n : Nat) : kr n [] = .ok ([], []) := by cases n <;> rfl
theorem kr_err {n : Nat} {b : UInt8} {l : List UInt8} {e : Nat} (h : kv (b :: l) = .error e) (xs : List Vl) : RM.pre xs (kr (n + 1) (b :: l)) = .error e := by
  unfold kr RM.pre
  rw [h]
theorem kr_ok {n : Nat} {b : UInt8} {l t : List UInt8} {x : Vl} (h : kv (b :: l) = .ok (x, t)) (xs : List Vl) : RM.pre xs (kr (n + 1) (b :: l)) = RM.pre (xs ++ [x]) (kr n t) := by
  unfold RM.pre
  rw [kr, h]
  simp only
  split <;> rename_i h'
  · split at h'
    · cases h'; first | rfl | (rename_i h''; rw [h''])
    · cases h'
  · split at h'
    · cases h'
    · cases h'; first | (simp; done) | (rename_i h''; rw [h'']; simp)

theorem kt_le : ∀ (n : Nat) (l acc s t : List UInt8), l.length ≤ n → kt l acc = .ok (s, t) → t.length ≤ l.length := by
  intro n
  induction n with
  | zero => intro l acc s t h0 h
            obtain rfl : l = [] := List.length_eq_zero_iff.1 (by omega)
            cases h
  | succ n ih =>
    intro l acc s t h0 h
    match l with
    | [] => cases h
    | [_] => cases h
    | b :: c :: u =>
      unfold kt at h
      simp only [List.length_cons] at h0 ⊢
      split at h
      · have := ih _ _ _ _ (by simp; omega) h
        simp at this
        omega
      · split at h
        · have := ih _ _ _ _ (by omega) h
          omega
        · split at h
          · split at h
            · cases h
            · cases h; omega
          · cases h
theorem kv_le {l t : List UInt8} {x : Vl} (h : kv l = .ok (x, t)) : t.length ≤ l.length := by
  unfold kv at h
  split at h
  · cases h
  · rename_i b u
    simp only [List.length_cons]
    split at h
    · cases h; omega
    · split at h
      · unfold kn at h
        split at h
        · cases h
        · rename_i h'
          cases h
          unfold ki at h'
          split at h'
          · cases h'
          · cases h'; simp; omega
      · split at h
        · unfold kx at h
          split at h
          · cases h
          · rename_i h'
            cases h
            have := kt_le _ _ _ _ _ (Nat.le_refl _) h'
            omega
        · split at h
          · unfold kx at h
            split at h
            · cases h
            · rename_i h'
              cases h
              have := kt_le _ _ _ _ _ (Nat.le_refl _) h'
              omega
          · cases h
theorem kt_err : ∀ (n : Nat) (l acc : List UInt8) (e : Nat), l.length ≤ n → kt l acc = .error e → e ≠ 0 := by
  intro n
  induction n with
  | zero => intro l acc e h0 h
            obtain rfl : l = [] := List.length_eq_zero_iff.1 (by omega)
            cases h
            omega
  | succ n ih =>
    intro l acc e h0 h
    match l with
    | [] => cases h; omega
    | [_] => cases h; omega
    | b :: c :: u =>
      unfold kt at h
      simp only [List.length_cons] at h0
      split at h
      · exact ih _ _ _ (by simp; omega) h
      · split at h
        · exact ih _ _ _ (by omega) h
        · split at h
          · split at h
            · cases h; omega
            · cases h
          · cases h; omega
theorem kv_err {l : List UInt8} {e : Nat} (h : kv l = .error e) : e ≠ 0 := by
  unfold kv at h
  split at h
  · cases h; omega
  · split at h
    · cases h
    · split at h
      · unfold kn at h
        split at h
        · rename_i h'
          cases h
          unfold ki at h'
          split at h'
          · cases h'; omega
          · cases h'
        · cases h
      · split at h
        · unfold kx at h
          split at h
          · rename_i h'; cases h; exact kt_err _ _ _ _ (Nat.le_refl _) h'
          · cases h
        · split at h
          · unfold kx at h
            split at h
            · rename_i h'; cases h; exact kt_err _ _ _ _ (Nat.le_refl _) h'
            · cases h
          · cases h; omega
theorem kr_err0 : ∀ {n : Nat} {l : List UInt8} {e : Nat}, kr n l = .error e → e ≠ 0 := by
  intro n
  induction n with
  | zero =>
    intro l e h
    cases l with
    | nil => cases h
    | cons b t => cases h; omega
  | succ n ih =>
    intro l e h
    cases l with
    | nil => cases h
    | cons b t =>
      unfold kr at h
      split at h
      · rename_i h'; cases h; exact kv_err h'
      · split at h
        · rename_i h'; cases h; exact ih h'
        · cases h
end KR
end Go.Proofs.YtoepifbpchpfkaaGreatDoor
namespace Go.Proofs.YtoepifbpchpfkaaGreatDoor
namespace KL
open VM

theorem bv_be : ∀ (k u : Nat), u < 256 ^ k → KR.bv (KM.be k u) = u := by
  suffices h : ∀ (k u a : Nat), u < 256 ^ k → (KM.be k u).foldl (fun a b => a * 256 + b.toNat) a = a * 256 ^ k + u by
    intro k u hu
    have := h k u 0 hu
    simpa [KR.bv] using this
  intro k
  induction k with
  | zero => intro u a hu; simp at hu; simp [KM.be, hu]
  | succ k ih =>
    intro u a hu
    rw [Nat.pow_succ] at hu
    have hp : 0 < 256 ^ k := Nat.pow_pos (by decide)
    have hd : u / 256 ^ k < 256 := Nat.div_lt_of_lt_mul (by rw [Nat.mul_comm] at hu; rw [Nat.mul_comm]; exact hu)
    simp only [KM.be, List.foldl_cons]
    rw [ih _ _ (Nat.mod_lt _ hp), UInt8.toNat_ofNat', Nat.mod_eq_of_lt hd, Nat.pow_succ, Nat.add_mul, Nat.mul_assoc, Nat.mul_comm 256 (256 ^ k), Nat.add_assoc]
    congr 1
    have := Nat.div_add_mod u (256 ^ k)
    rw [Nat.mul_comm (u / 256 ^ k)]
    exact this
theorem be_bv : ∀ (l : List UInt8), KM.be l.length (KR.bv l) = l := by
  intro l
  suffices h : ∀ (n : Nat) (l : List UInt8), l.length = n → KM.be n (KR.bv l) = l from h _ l rfl
  intro n
  induction n with
  | zero => intro l h; rw [List.length_eq_zero_iff.1 h]; rfl
  | succ n ih =>
    intro l h
    cases l with
    | nil => simp at h
    | cons b t =>
      have ht : t.length = n := by simpa using h
      have e : KR.bv (b :: t) = b.toNat * 256 ^ n + KR.bv t := by
        suffices g : ∀ (t : List UInt8) (a : Nat), t.foldl (fun a b => a * 256 + b.toNat) a = a * 256 ^ t.length + KR.bv t by
          unfold KR.bv
          rw [List.foldl_cons, g, ht]
          simp [KR.bv]
        intro t
        induction t with
        | nil => intro a; simp [KR.bv]
        | cons c u ihu =>
          intro a
          unfold KR.bv
          rw [List.foldl_cons, List.foldl_cons, ihu, ihu, List.length_cons, Nat.pow_succ, Nat.add_mul, Nat.mul_assoc, Nat.mul_comm 256]
          simp only [Nat.zero_mul, Nat.zero_add]
          omega
      have hb := KR.bv_lt t
      rw [ht] at hb
      have hp : 0 < 256 ^ n := Nat.pow_pos (by decide)
      rw [KM.be, e]
      congr 1
      · rw [Nat.mul_comm, Nat.mul_add_div hp, Nat.div_eq_of_lt hb, Nat.add_zero]
        simp
      · rw [Nat.mul_comm, Nat.mul_add_mod, Nat.mod_eq_of_lt hb]
        exact ih t ht

theorem kt_esc : ∀ (s acc rest : List UInt8), acc.length + s.length ≤ 16 → KR.kt (KM.esc s ++ rest) acc = .ok (acc ++ s, rest) := by
  intro s
  induction s with
  | nil =>
    intro acc rest h
    show KR.kt (0 :: 1 :: rest) acc = _
    rw [KR.kt]
    simp
    simpa using h
  | cons b t ih =>
    intro acc rest h
    simp only [List.length_cons] at h
    unfold KM.esc
    by_cases hb : b.toNat = 0
    · rw [if_pos hb]
      have e0 : b = 0 := UInt8.toNat_inj.1 hb
      show KR.kt (0 :: 255 :: (KM.esc t ++ rest)) acc = _
      rw [KR.kt]
      have := ih (acc ++ [0]) rest (by simp; omega)
      simp only [List.append_assoc, List.cons_append, List.nil_append] at this
      simp [this, e0]
    · rw [if_neg hb]
      have step : KR.kt (b :: (KM.esc t ++ rest)) acc = KR.kt (KM.esc t ++ rest) (acc ++ [b]) := by
        cases hq : KM.esc t ++ rest with
        | nil =>
          cases t with
          | nil => cases hq
          | cons c u =>
            unfold KM.esc at hq
            split at hq <;> cases hq
        | cons c u => rw [KR.kt, if_pos hb]
      show KR.kt (b :: (KM.esc t ++ rest)) acc = _
      rw [step, ih (acc ++ [b]) rest (by simp; omega)]
      simp
theorem kt_only : ∀ (n : Nat) (l acc s t : List UInt8), l.length ≤ n → KR.kt l acc = .ok (s, t) → ∃ u, s = acc ++ u ∧ l = KM.esc u ++ t ∧ s.length ≤ 16 := by
  intro n
  induction n with
  | zero =>
    intro l acc s t h0 h
    obtain rfl : l = [] := List.length_eq_zero_iff.1 (by omega)
    cases h
  | succ n ih =>
    intro l acc s t h0 h
    match l with
    | [] => cases h
    | [_] => cases h
    | b :: c :: u =>
      unfold KR.kt at h
      simp only [List.length_cons] at h0
      split at h
      · rename_i hb
        obtain ⟨q, h1, h2, h3⟩ := ih _ _ _ _ (by simp; omega) h
        refine ⟨b :: q, by rw [h1]; simp, ?_, h3⟩
        rw [KM.esc, if_neg hb, h2]
        rfl
      · rename_i hb
        have hb0 : b.toNat = 0 := by omega
        split at h
        · rename_i hc
          obtain ⟨q, h1, h2, h3⟩ := ih _ _ _ _ (by omega) h
          refine ⟨0 :: q, by rw [h1]; simp, ?_, h3⟩
          rw [KM.esc, if_pos (show UInt8.toNat 0 = 0 from rfl), h2, show b = 0 from UInt8.toNat_inj.1 hb0, show c = 255 from UInt8.toNat_inj.1 hc]
          rfl
        · split at h
          · rename_i hc
            split at h
            · cases h
            · cases h
              refine ⟨[], by simp, ?_, by omega⟩
              rw [show b = 0 from UInt8.toNat_inj.1 hb0, show c = 1 from UInt8.toNat_inj.1 hc]
              rfl
          · cases h

theorem turn_lt {x : Vl} (h : LM.wide x) : KM.turn x.n < 256 ^ 8 := by
  unfold LM.wide at h
  unfold KM.turn
  omega
theorem kv_back {x : Vl} (h : chk x = 0) (hw : LM.wide x) (rest : List UInt8) : KR.kv (KM.kb x ++ rest) = .ok (x, rest) := by
  rcases LM.kinds h with rfl | ⟨h1, h2⟩ | ⟨h1, h2, h3⟩
  · rfl
  · obtain ⟨k, n, s⟩ := x
    simp only at h1 h2
    subst h1 h2
    show KR.kn (KM.be 8 (KM.turn n) ++ rest) = _
    have hl := KM.be_len 8 (KM.turn n)
    unfold KR.kn KR.ki
    rw [if_neg (by rw [List.length_append, hl]; omega)]
    simp only
    rw [List.take_left' hl, List.drop_left' hl, bv_be _ _ (turn_lt hw)]
    have : ((KM.turn n : Nat) : Int) - 9223372036854775808 = n := by
      unfold LM.wide at hw
      simp only at hw
      unfold KM.turn
      omega
    rw [this]
  · obtain ⟨k, n, s⟩ := x
    simp only at h1 h2 h3
    subst h2
    have e := LM.dl s
    have key : ∀ q : Nat, KR.kx q (KM.esc s.data.toList ++ rest) = .ok (⟨q, 0, s⟩, rest) := by
      intro q
      unfold KR.kx
      rw [kt_esc _ [] rest (by simp; omega)]
      simp only [List.nil_append]
    rcases h1 with rfl | rfl
    · exact key 2
    · exact key 3
theorem kb_cons (x : Vl) : ∃ b t, KM.kb x = b :: t := by
  unfold KM.kb
  split
  · exact ⟨_, _, rfl⟩
  · split
    · exact ⟨_, _, rfl⟩
    · split <;> exact ⟨_, _, rfl⟩
theorem kr_back : ∀ {l : List Vl} {n : Nat}, l.length ≤ n → (∀ x ∈ l, chk x = 0) → (∀ x ∈ l, LM.wide x) → KR.kr n (KM.row l) = .ok (l, []) := by
  intro l
  induction l with
  | nil => intro n _ _ _; exact KR.kr_nil n
  | cons a t ih =>
    intro n hn h hw
    cases n with
    | zero => simp at hn
    | succ n =>
      obtain ⟨b, u, hb⟩ := kb_cons a
      have e : KM.row (a :: t) = b :: (u ++ KM.row t) := by
        unfold KM.row
        rw [List.flatMap_cons, hb]
        rfl
      have e2 : KR.kv (b :: (u ++ KM.row t)) = .ok (a, KM.row t) := by
        have := kv_back (h a (by simp)) (hw a (by simp)) (KM.row t)
        rw [hb] at this
        exact this
      rw [e, KR.kr, e2]
      simp only
      rw [ih (by simpa using hn) (fun x hx => h x (by simp [hx])) (fun x hx => hw x (by simp [hx]))]
theorem kv_only {l t : List UInt8} {x : Vl} (h : KR.kv l = .ok (x, t)) : chk x = 0 ∧ LM.wide x ∧ l = KM.kb x ++ t := by
  unfold KR.kv at h
  split at h
  · cases h
  · rename_i b u
    split at h
    · rename_i hb
      cases h
      refine ⟨by decide, by unfold LM.wide; decide, ?_⟩
      rw [LM.u8_eq hb]
      rfl
    · split at h
      · rename_i hb
        unfold KR.kn at h
        split at h
        · cases h
        · rename_i n v h'
          unfold KR.ki at h'
          split at h'
          · cases h'
          · rename_i h8
            cases h'
            cases h
            have hl : (u.take 8).length = 8 := by rw [List.length_take]; omega
            have hb8 := KR.bv_lt (u.take 8)
            rw [hl] at hb8
            have ht : KM.turn ((KR.bv (u.take 8) : Int) - 9223372036854775808) = KR.bv (u.take 8) := by
              unfold KM.turn
              omega
            refine ⟨LM.chk_int _, ⟨by simp only; omega, by simp only; omega⟩, ?_⟩
            rw [LM.u8_eq hb]
            show _ = 16 :: (KM.be 8 (KM.turn ((KR.bv (u.take 8) : Int) - 9223372036854775808)) ++ u.drop 8)
            rw [ht]
            have := be_bv (u.take 8)
            rw [hl] at this
            rw [this, List.take_append_drop]
            rfl
      · have key : ∀ (q : Nat), KR.kx q u = .ok (x, t) → x.k = q ∧ x.n = 0 ∧ x.s.size ≤ 16 ∧ u = KM.esc x.s.data.toList ++ t := by
          intro q hq
          unfold KR.kx at hq
          split at hq
          · cases hq
          · rename_i s v h'
            cases hq
            obtain ⟨w, h1, h2, h3⟩ := kt_only _ _ _ _ _ (Nat.le_refl _) h'
            rw [List.nil_append] at h1
            subst h1
            exact ⟨rfl, rfl, h3, by simpa using h2⟩
        split at h
        · rename_i hb
          obtain ⟨h1, h2, h3, h4⟩ := key 2 h
          obtain ⟨k, n, s⟩ := x
          simp only at h1 h2 h3 h4
          subst h1 h2
          refine ⟨LM.chk_text (Or.inl rfl) h3, ⟨by simp only; omega, by simp only; omega⟩, ?_⟩
          rw [LM.u8_eq hb, h4]
          rfl
        · split at h
          · rename_i hb
            obtain ⟨h1, h2, h3, h4⟩ := key 3 h
            obtain ⟨k, n, s⟩ := x
            simp only at h1 h2 h3 h4
            subst h1 h2
            refine ⟨LM.chk_text (Or.inr rfl) h3, ⟨by simp only; omega, by simp only; omega⟩, ?_⟩
            rw [LM.u8_eq hb, h4]
            rfl
          · cases h
theorem kr_only : ∀ {n : Nat} {l t : List UInt8} {xs : List Vl}, KR.kr n l = .ok (xs, t) → xs.length ≤ n ∧ (∀ x ∈ xs, chk x = 0) ∧ (∀ x ∈ xs, LM.wide x) ∧ l = KM.row xs := by
  intro n
  induction n with
  | zero =>
    intro l t xs h
    cases l with
    | nil => cases h; exact ⟨by simp, fun x hx => by simp at hx, fun x hx => by simp at hx, rfl⟩
    | cons b u => cases h
  | succ n ih =>
    intro l t xs h
    cases l with
    | nil => cases h; exact ⟨by simp, fun x hx => by simp at hx, fun x hx => by simp at hx, rfl⟩
    | cons b u =>
      rw [KR.kr] at h
      split at h
      · cases h
      · rename_i x v h1
        split at h
        · cases h
        · rename_i ys z h2
          cases h
          obtain ⟨a1, a2, a3⟩ := kv_only h1
          obtain ⟨b1, b2, b3, b4⟩ := ih h2
          refine ⟨by simp; omega, ?_, ?_, ?_⟩
          · intro y hy
            rcases List.mem_cons.1 hy with rfl | hy
            · exact a1
            · exact b2 y hy
          · intro y hy
            rcases List.mem_cons.1 hy with rfl | hy
            · exact a2
            · exact b3 y hy
          · rw [a3, b4]
            unfold KM.row
            rw [List.flatMap_cons]
theorem row_back {l : List Vl} (h : chkRow l = 0) (hw : ∀ x ∈ l, LM.wide x) : KR.kr 8 (KM.row l) = .ok (l, []) := by
  obtain ⟨h8, ha⟩ := WM.chkRow_ok h
  exact kr_back h8 ha hw
theorem row_only {l t : List UInt8} {xs : List Vl} (h : KR.kr 8 l = .ok (xs, t)) : chkRow xs = 0 ∧ (∀ x ∈ xs, LM.wide x) ∧ l = KM.row xs := by
  obtain ⟨h1, h2, h3, h4⟩ := kr_only h
  refine ⟨?_, h3, h4⟩
  unfold chkRow
  rw [if_neg (by omega)]
  exact LM.chkAll_mk h2
end KL
end Go.Proofs.YtoepifbpchpfkaaGreatDoor
