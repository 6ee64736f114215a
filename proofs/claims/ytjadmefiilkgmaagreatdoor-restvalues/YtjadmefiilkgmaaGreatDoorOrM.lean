/-
  The order of values is one; a list in that order.
-/
import Derived.Test.YtjadmefiilkgmaaGreatDoorCMath
namespace Go.Proofs.YtjadmefiilkgmaaGreatDoor
namespace SM
open VM

theorem cb_anti : ∀ l m : List UInt8, Lib.compareBytes m l = - Lib.compareBytes l m
  | [], [] => by simp [Lib.compareBytes]
  | [], _ :: _ => by simp [Lib.compareBytes]
  | _ :: _, [] => by simp [Lib.compareBytes]
  | a :: l, b :: m => by
    have ih := cb_anti l m
    unfold Lib.compareBytes
    by_cases h1 : a < b
    · have h2 : ¬ b < a := by rw [UInt8.lt_iff_toNat_lt] at *; omega
      rw [if_neg h2, if_pos h1, if_pos h1]; rfl
    · by_cases h2 : b < a
      · rw [if_pos h2, if_neg h1, if_pos h2]
      · rw [if_neg h2, if_neg h1, if_neg h1, if_neg h2]
        exact ih
theorem ci_anti (x y : Int) : CM.ci y x = - CM.ci x y := by
  unfold CM.ci
  repeat' split
  all_goals omega
theorem ord_anti (a b : Vl) : CM.ord b a = - CM.ord a b := by
  unfold CM.ord
  rw [ci_anti a.k b.k, ci_anti a.n b.n, cb_anti a.s.data.toList b.s.data.toList]
  unfold CM.or3
  repeat' split
  all_goals omega
theorem chk_two (a b : Vl) : chkAll [a, b] = 0 ↔ chk a = 0 ∧ chk b = 0 := by
  unfold chkAll chkAll chkAll
  by_cases h1 : chk a = 0
  · by_cases h2 : chk b = 0 <;> simp [h1, h2]
  · simp [h1]
theorem cmp_ok {a b : Vl} (h : chkAll [a, b] = 0) : CM.cmp a b = CM.ord a b := if_pos h
theorem cb_eq (a b : UInt8) (l m : List UInt8) : Lib.compareBytes (a :: l) (b :: m) = if a.toNat < b.toNat then -1 else if b.toNat < a.toNat then 1 else Lib.compareBytes l m := by
  rw [Lib.compareBytes]
  simp only [UInt8.lt_iff_toNat_lt]
theorem cb_zero : ∀ {l m : List UInt8}, Lib.compareBytes l m = 0 ↔ l = m := by
  intro l
  induction l with
  | nil => intro m; cases m <;> simp [Lib.compareBytes]
  | cons a t ih =>
    intro m
    cases m with
    | nil => simp [Lib.compareBytes]
    | cons b u =>
      rw [cb_eq]
      by_cases h1 : a.toNat < b.toNat
      · rw [if_pos h1]
        have : a ≠ b := by rintro rfl; omega
        simp [this]
      · rw [if_neg h1]
        by_cases h2 : b.toNat < a.toNat
        · rw [if_pos h2]
          have : a ≠ b := by rintro rfl; omega
          simp [this]
        · rw [if_neg h2]
          obtain rfl : a = b := UInt8.toNat_inj.1 (by omega)
          simp [ih]
theorem cb_trans : ∀ l m n : List UInt8, Lib.compareBytes l m ≤ 0 → Lib.compareBytes m n ≤ 0 → Lib.compareBytes l n ≤ 0
  | [], _, [], _, _ => by simp [Lib.compareBytes]
  | [], _, _ :: _, _, _ => by simp [Lib.compareBytes]
  | _ :: _, [], _, h, _ => by simp [Lib.compareBytes] at h
  | _ :: _, _ :: _, [], _, h => by simp [Lib.compareBytes] at h
  | a :: l, b :: m, c :: n, h1, h2 => by
    rw [cb_eq] at h1 h2 ⊢
    have ih := cb_trans l m n
    split at h1
    · split at h2
      · rw [if_pos (by omega)]; decide
      · split at h2
        · omega
        · rw [if_pos (by omega)]; decide
    · split at h1
      · omega
      · split at h2
        · rw [if_pos (by omega)]; decide
        · split at h2
          · omega
          · rw [if_neg (by omega), if_neg (by omega)]
            exact ih h1 h2
theorem ord_le (a b : Vl) : CM.ord a b ≤ 0 ↔ a.k < b.k ∨ (a.k = b.k ∧ (a.n < b.n ∨ (a.n = b.n ∧ Lib.compareBytes a.s.data.toList b.s.data.toList ≤ 0))) := by
  unfold CM.ord CM.or3 CM.ci
  generalize Lib.compareBytes a.s.data.toList b.s.data.toList = z
  by_cases h1 : a.k < b.k
  · rw [if_pos h1]; simp [h1]
  · by_cases h2 : b.k < a.k
    · rw [if_neg h1, if_pos h2]; simp; omega
    · by_cases h3 : a.n < b.n
      · rw [if_neg h1, if_neg h2, if_pos h3]; simp; omega
      · by_cases h4 : b.n < a.n
        · rw [if_neg h1, if_neg h2, if_neg h3, if_pos h4]; simp; omega
        · rw [if_neg h1, if_neg h2, if_neg h3, if_neg h4]; simp; omega
theorem ord_zero (a b : Vl) : CM.ord a b = 0 ↔ a = b := by
  constructor
  · intro h
    have h1 := (ord_le a b).1 (by omega)
    have h2 := (ord_le b a).1 (by rw [ord_anti]; omega)
    have hk : a.k = b.k := by omega
    have hn : a.n = b.n := by omega
    have h3 : Lib.compareBytes a.s.data.toList b.s.data.toList = 0 := by
      have e := cb_anti a.s.data.toList b.s.data.toList
      have p1 : Lib.compareBytes a.s.data.toList b.s.data.toList ≤ 0 := by
        rcases h1 with h | ⟨_, h | ⟨_, h⟩⟩
        · omega
        · omega
        · exact h
      have p2 : Lib.compareBytes b.s.data.toList a.s.data.toList ≤ 0 := by
        rcases h2 with h | ⟨_, h | ⟨_, h⟩⟩
        · omega
        · omega
        · exact h
      omega
    have hs : a.s = b.s := by
      have := cb_zero.1 h3
      cases ha : a.s; cases hb : b.s
      rw [ha, hb] at this
      simp at this
      rw [this]
    cases a; cases b
    simp only at hk hn hs
    rw [hk, hn, hs]
  · rintro rfl
    have := ord_anti a a
    omega
theorem ord_trans (a b c : Vl) (h1 : CM.ord a b ≤ 0) (h2 : CM.ord b c ≤ 0) : CM.ord a c ≤ 0 := by
  rw [ord_le] at *
  rcases h1 with h1 | ⟨e1, h1 | ⟨e2, h1⟩⟩
  · left; omega
  · rcases h2 with h2 | ⟨e3, h2 | ⟨e4, h2⟩⟩
    · left; omega
    · right; exact ⟨by omega, Or.inl (by omega)⟩
    · right; exact ⟨by omega, Or.inl (by omega)⟩
  · rcases h2 with h2 | ⟨e3, h2 | ⟨e4, h2⟩⟩
    · left; omega
    · right; exact ⟨by omega, Or.inl (by omega)⟩
    · right; exact ⟨by omega, Or.inr ⟨by omega, cb_trans _ _ _ h1 h2⟩⟩
/-- of three, in order -/
theorem ord_both (a b c : Vl) (h1 : CM.ord a b ≤ 0) (h2 : CM.ord b c ≤ 0) : CM.ord a c = 0 ↔ CM.ord a b = 0 ∧ CM.ord b c = 0 := by
  constructor
  · intro h
    have := (ord_zero a c).1 h
    subst this
    have := ord_anti a b
    omega
  · rintro ⟨h3, h4⟩
    have e1 := (ord_zero a b).1 h3
    have e2 := (ord_zero b c).1 h4
    subst e1 e2
    exact h3
/-- a list in order -/
def le (x y : Vl) : Bool := decide (CM.ord x y ≤ 0)
def srt (l : List Vl) : List Vl := l.mergeSort le
theorem srt_perm (l : List Vl) : (srt l).Perm l := List.mergeSort_perm l le
theorem le_trans (a b c : Vl) (h1 : le a b = true) (h2 : le b c = true) : le a c = true := by
  unfold le at *
  simp only [decide_eq_true_eq] at *
  exact ord_trans a b c h1 h2
theorem le_total (a b : Vl) : (le a b || le b a) = true := by
  unfold le
  rw [ord_anti a b]
  simp
  omega
theorem srt_sorted (l : List Vl) : (srt l).Pairwise (fun x y => le x y = true) := List.pairwise_mergeSort le_trans le_total l
theorem srt_len (l : List Vl) : (srt l).length = l.length := (srt_perm l).length_eq
/-- two lists of the same values, both in order, are one -/
theorem sorted_one : ∀ {l m : List Vl}, l.Perm m → l.Pairwise (fun x y => le x y = true) → m.Pairwise (fun x y => le x y = true) → l = m := by
  intro l m hp hl hm
  refine List.Perm.eq_of_pairwise (le := fun x y => le x y = true) (fun a b _ _ h1 h2 => ?_) hl hm hp
  unfold le at h1 h2
  simp only [decide_eq_true_eq] at h1 h2
  refine (ord_zero a b).1 ?_
  have := ord_anti a b
  omega
end SM
end Go.Proofs.YtjadmefiilkgmaaGreatDoor
