/-
  Which writes land, said by the bits of a number; page by page.
-/
import Derived.Test.YtcgafodaohmcmaaJnU
set_option linter.unusedVariables false
namespace Go.Proofs.Ytcgafodaohmcmaa
namespace JN
def bits (m : Nat) : Nat → Bool := fun i => m.testBit i
theorem land_alike {T : Type} : ∀ (l : List (Wr T)) (p : Pg T) (m m' : Nat → Bool), (∀ i, i < l.length → m i = m' i) → land p l m = land p l m'
  | [], _, _, _, _ => rfl
  | w :: l, p, m, m', h => by
    rw [land, land, h 0 (by simp)]
    exact land_alike l _ _ _ fun i hi => h (i + 1) (by simpa using hi)
theorem bits_all {i : Nat} (h : i < 64) : bits (2 ^ 64 - 1) i = true := by
  simp only [bits, Nat.testBit_two_pow_sub_one]; simpa using h
theorem land_bits_all {T : Type} (l : List (Wr T)) (p : Pg T) (h : l.length ≤ 64) : land p l (bits (2 ^ 64 - 1)) = land p l all :=
  land_alike l p _ _ fun i hi => bits_all (by omega)
theorem land_bits_none {T : Type} (l : List (Wr T)) (p : Pg T) : land p l (bits 0) = land p l (fun _ => false) :=
  land_alike l p _ _ fun i hi => by simp [bits]
theorem bits_zero (m : Nat) : bits m 0 = decide (m % 2 = 1) := by simp [bits, Nat.testBit_zero]
theorem bits_succ (m : Nat) : (fun i => bits m (i + 1)) = bits (m / 2) := by
  funext i; simp [bits, Nat.testBit_succ]
/-- what a page is in the end, write by write -/
def lastP (n : Int) : B → List W → Nat → B
  | v, [], _ => v
  | v, w :: l, m => lastP n (if w.no = n ∧ m % 2 = 1 then w.t else v) l (m / 2)
theorem last_land {n : Int} (hn : 0 ≤ n) : ∀ (l : List W) (p : Pg B) (m : Nat), (∀ w ∈ l, 0 ≤ w.no) →
    lastP n (p n.toNat) l m = land p (l.map wn) (bits m) n.toNat
  | [], _, _, _ => rfl
  | w :: l, p, m, h => by
    have hw := h w (by simp)
    rw [List.map_cons, land, bits_succ, ← last_land hn l _ (m / 2) fun x hx => h x (by simp [hx]), lastP]
    congr 1
    rw [bits_zero]
    by_cases e : m % 2 = 1
    · by_cases f : w.no = n
      · simp [e, f, upd, wn]
      · have : ¬ n.toNat = w.no.toNat := by omega
        simp [e, f, upd, wn, this]
    · simp [e]
/-- the pages up to the last one that is not blank: the loop that counts them -/
def upTo : Nat → Nat → List B → Nat
  | _, n, [] => n
  | i, n, p :: l => upTo (i + 1) (if 0 < p.size then i + 1 else n) l
theorem upTo_trim : ∀ (l : List B) (i n : Nat), n ≤ i → upTo i n l = if trim l = [] then n else i + (trim l).length
  | [], i, n, h => by simp [upTo, trim]
  | p :: l, i, n, h => by
    rw [upTo, trim]
    by_cases hp : 0 < p.size
    · rw [if_pos hp, upTo_trim l (i + 1) (i + 1) (by omega)]
      have hp' : ¬ p.size = 0 := by omega
      cases e : trim l with
      | nil => simp [hp']
      | cons q r => simp; omega
    · rw [if_neg hp, upTo_trim l (i + 1) n (by omega)]
      have hp' : p.size = 0 := by omega
      cases e : trim l with
      | nil => simp [hp']
      | cons q r => simp; omega
theorem trim_take : ∀ (l : List B), l.take (trim l).length = trim l
  | [] => rfl
  | p :: l => by
    have ih := trim_take l
    rw [trim]
    cases e : trim l with
    | nil => by_cases h : p.size = 0 <;> simp [h]
    | cons q r => rw [e] at ih; simpa using ih
theorem upTo_pages (l : List B) : l.take (upTo 0 0 l) = trim l := by
  rw [upTo_trim l 0 0 (Nat.le_refl _)]
  by_cases h : trim l = []
  · simp [h]
  · rw [if_neg h, Nat.zero_add, trim_take]
end JN
end Go.Proofs.Ytcgafodaohmcmaa
