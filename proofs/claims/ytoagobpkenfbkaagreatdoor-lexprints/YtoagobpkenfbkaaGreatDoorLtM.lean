/-
  The document's way to read a literal, as plain functions, and that it is the program's.
-/
import Derived.Test.YtoagobpkenfbkaaGreatDoorVlM
import Derived.Test.YtoagobpkenfbkaaGreatDoorVsOnly
import Derived.Test.YtoagobpkenfbkaaGreatDoorOfM
namespace Go.Proofs.YtoagobpkenfbkaaGreatDoor
namespace VS

theorem dig_iff {b : UInt8} : dig b = true ↔ 48 ≤ b.toNat ∧ b.toNat ≤ 57 := by
  unfold dig
  rw [Bool.and_eq_true, decide_eq_true_eq, decide_eq_true_eq]
theorem pw (a n : Nat) : a * 10 ^ (n + 1) = a * 10 * 10 ^ n := by rw [Nat.pow_succ, Nat.mul_comm (10 ^ n) 10, ← Nat.mul_assoc]
theorem vl_lo (l : Bs) : ∀ acc : Nat, acc * 10 ^ l.length ≤ vl acc l := by
  induction l with
  | nil => intro acc; rw [List.length_nil, Nat.pow_zero, Nat.mul_one]; exact Nat.le_refl _
  | cons c r ih =>
    intro acc
    have := ih (acc * 10 + (c.toNat - 48))
    rw [vl_cons, List.length_cons, pw]
    exact Nat.le_trans (Nat.mul_le_mul_right _ (by omega)) this
theorem vl_hi (l : Bs) : ∀ acc : Nat, l.all dig = true → vl acc l < (acc + 1) * 10 ^ l.length := by
  induction l with
  | nil => intro acc _; rw [List.length_nil, Nat.pow_zero, Nat.mul_one]; exact Nat.lt_succ_self _
  | cons c r ih =>
    intro acc h
    rw [List.all_cons, Bool.and_eq_true] at h
    have hc := dig_iff.1 h.1
    have := ih (acc * 10 + (c.toNat - 48)) h.2
    rw [vl_cons, List.length_cons, pw]
    exact Nat.lt_of_lt_of_le this (Nat.mul_le_mul_right _ (by omega))
theorem cmp_vl : ∀ (l m : Bs) (acc : Nat), l.length = m.length → l.all dig = true → m.all dig = true → (Lib.compareBytes l m < 0 ↔ vl acc l < vl acc m)
  | [], [], acc, _, _, _ => by
    rw [show Lib.compareBytes [] [] = 0 from rfl]
    exact ⟨fun h => absurd h (by decide), fun h => absurd h (Nat.lt_irrefl _)⟩
  | [], _ :: _, _, h, _, _ => by simp at h
  | _ :: _, [], _, h, _, _ => by simp at h
  | a :: r, b :: s, acc, hl, h1, h2 => by
    rw [List.all_cons, Bool.and_eq_true] at h1 h2
    have ha := dig_iff.1 h1.1
    have hb := dig_iff.1 h2.1
    have hl' : r.length = s.length := by simpa using hl
    have key : ∀ x y : Nat, x < y → ∀ r s : Bs, r.length = s.length → r.all dig = true → vl x r < vl y s := by
      intro x y hxy r s hl hr
      have e1 := vl_hi r x hr
      have e2 := vl_lo s y
      rw [← hl] at e2
      have : (x + 1) * 10 ^ r.length ≤ y * 10 ^ r.length := Nat.mul_le_mul_right _ (by omega)
      omega
    conv => lhs; unfold Lib.compareBytes
    simp only [UInt8.lt_iff_toNat_lt]
    rw [vl_cons, vl_cons]
    by_cases h : a.toNat < b.toNat
    · rw [if_pos h]
      have := key (acc * 10 + (a.toNat - 48)) (acc * 10 + (b.toNat - 48)) (by omega) r s hl' h1.2
      simp [this]
    · rw [if_neg h]
      by_cases h' : b.toNat < a.toNat
      · rw [if_pos h']
        have := key (acc * 10 + (b.toNat - 48)) (acc * 10 + (a.toNat - 48)) (by omega) s r hl'.symm h2.2
        constructor
        · intro h; omega
        · intro h; omega
      · rw [if_neg h', show b.toNat = a.toNat by omega]
        exact cmp_vl r s _ hl' h1.2 h2.2

/-- the document's way to hold digits against digits -/
def lsd (a b : Bs) : Bool := decide (a.length < b.length) || (decide (a.length = b.length) && !decide (Lib.compareBytes b a < 0))
def m7 : Bs := [57, 50, 50, 51, 51, 55, 50, 48, 51, 54, 56, 53, 52, 55, 55, 53, 56, 48, 55]
def m8 : Bs := [57, 50, 50, 51, 51, 55, 50, 48, 51, 54, 56, 53, 52, 55, 55, 53, 56, 48, 56]
theorem lsd_vl (M : Bs) (hM : M.length = 19) (hd : M.all dig = true) (hv1 : 1000000000000000000 ≤ vl 0 M) (hv2 : vl 0 M < 10000000000000000000) (l : Bs) (h : l.all dig = true) (h0 : ∀ b r, l = b :: r → b.toNat = 48 → r = []) : lsd l M = decide (vl 0 l ≤ vl 0 M) := by
  unfold lsd
  rw [hM]
  rcases Nat.lt_trichotomy l.length 19 with hl | hl | hl
  · have e1 := vl_hi l 0 h
    have e2 : 10 ^ l.length ≤ 10 ^ 18 := Nat.pow_le_pow_right (by decide) (by omega)
    have e3 : (10 : Nat) ^ 18 = 1000000000000000000 := by decide
    simp only [hl, decide_true, Bool.true_or]
    symm
    rw [decide_eq_true_eq]
    omega
  · have e := cmp_vl M l 0 (by omega) hd h
    rw [hl]
    by_cases hc : Lib.compareBytes M l < 0
    · have := e.1 hc
      simp only [hc, Nat.lt_irrefl, decide_true, decide_false, Bool.false_or, Bool.true_and, Bool.not_true]
      symm
      rw [decide_eq_false_iff_not]
      omega
    · have h2 : ¬ vl 0 M < vl 0 l := fun h => hc (e.2 h)
      simp only [hc, Nat.lt_irrefl, decide_true, decide_false, Bool.false_or, Bool.true_and, Bool.not_false]
      symm
      rw [decide_eq_true_eq]
      omega
  · have n1 : ¬ l.length < 19 := by omega
    have n2 : ¬ l.length = 19 := by omega
    simp only [n1, n2, decide_false, Bool.false_or, Bool.false_and]
    symm
    rw [decide_eq_false_iff_not]
    match l, h, h0, hl with
    | b :: r, h, h0, hl =>
      rw [List.all_cons, Bool.and_eq_true] at h
      have hb := dig_iff.1 h.1
      have hr : 19 ≤ r.length := by simp only [List.length_cons] at hl; omega
      have hb48 : b.toNat ≠ 48 := by
        intro e
        have := h0 b r rfl e
        subst this
        simp at hr
      have e1 := vl_lo r (0 * 10 + (b.toNat - 48))
      have e2 : 10 ^ 19 ≤ 10 ^ r.length := Nat.pow_le_pow_right (by decide) hr
      have e3 : (10 : Nat) ^ 19 = 10000000000000000000 := by decide
      have e4 : 1 * 10 ^ r.length ≤ (0 * 10 + (b.toNat - 48)) * 10 ^ r.length := Nat.mul_le_mul_right _ (by omega)
      have e5 := vl_cons 0 b r
      omega
theorem vl_m7 : vl 0 m7 = 9223372036854775807 := by decide
theorem vl_m8 : vl 0 m8 = 9223372036854775808 := by decide

/-- the document's allDigits -/
def adg (l : Bs) : Bool := l.all dig && (decide (l.length = 1) || (decide (1 < l.length) && !decide (l.head? = some 48)))
theorem dgs_adg (w : Bool) (l : Bs) : dgs w l = (adg l && !(w && decide (l = [48]))) := by
  unfold adg
  match l with
  | [] => rfl
  | [b] =>
    rw [dgs_cons]
    by_cases hb : b = 48
    · subst hb; cases w <;> decide
    · have h1 : b.toNat ≠ 48 := fun e => hb (UInt8.toNat_inj.1 e)
      cases hq : dig b <;> simp [hb, h1, hq]
  | b :: c :: r =>
    rw [dgs_cons]
    by_cases hb : b = 48
    · subst hb; simp
    · have h1 : b.toNat ≠ 48 := fun e => hb (UInt8.toNat_inj.1 e)
      simp [hb, h1]

def iof (w : Bool) (l : Bs) : Int × Nat :=
  if dgs w l = true then (if vl 0 l ≤ (if w then 9223372036854775808 else 9223372036854775807) then (if w then -(vl 0 l : Int) else (vl 0 l : Int), 0) else (0, 8)) else (0, 1)
def quo (l : Bs) : Option Bs := (unq l).bind undbl
def hexd (l : Bs) : Option Bs := match l with
  | [] => none
  | b :: r => if b.toNat = 120 then (unq r).bind unhx else none
def blw (l : Bs) : Bool := match l with
  | [] => false
  | b :: _ => decide (b.toNat = 45)
def cut (l : Bs) : Bs := if blw l then l.tail else l
def num (p : Int × Nat) : Rd := if p.2 = 0 then ⟨1, p.1, [], 0⟩ else bad p.2
def lit (l : Bs) : Rd :=
  if l = nul then ⟨0, 0, [], 0⟩
  else match quo l with
    | some t => txt 2 (some t)
    | none => match hexd l with
      | some t => txt 3 (some t)
      | none => num (iof (blw l) (cut l))
theorem isDec_blw (l : Bs) : isDec l = dgs (blw l) (cut l) := by
  cases l with
  | nil => rfl
  | cons b r =>
    rw [isDec_cons]
    unfold cut blw
    by_cases h : b.toNat = 45
    · simp [h]
    · simp [h]
theorem int_dec {l : Bs} (h : isDec l = true) : int l = num (iof (blw l) (cut l)) := by
  have hd := h
  rw [isDec_blw] at hd
  have hu : ∀ (w : Bool) (r : Bs), dgs w r = true → Lib.parseUintB 64 r = if vl 0 r ≤ 18446744073709551615 then .ok (vl 0 r) else .range := by
    intro w r hr
    obtain ⟨h1, h2, _⟩ := (dgs_iff w r).1 hr
    unfold Lib.parseUintB
    rw [if_neg h1]
    by_cases hv : vl 0 r ≤ 18446744073709551615
    · rw [if_pos hv]; exact parse_ok _ (by decide) r 0 h2 hv
    · rw [if_neg hv]; exact parse_over _ r 0 h2 (by show 18446744073709551615 < _; omega) (by omega)
  have e63 : (2 ^ (64 - 1) : Nat) = 9223372036854775808 := rfl
  cases l with
  | nil => exact absurd h (by decide)
  | cons b r =>
    unfold int Lib.parseIntB iof
    rw [if_pos hd]
    simp only
    by_cases h45 : b.toNat = 45
    · have e1 : blw (b :: r) = true := by simp [blw, h45]
      have e2 : cut (b :: r) = r := by simp [cut, e1]
      rw [e1, e2] at hd ⊢
      rw [if_pos (Or.inr h45), hu _ _ hd]
      by_cases hv : vl 0 r ≤ 9223372036854775808
      · rw [if_pos (show vl 0 r ≤ 18446744073709551615 by omega)]
        simp only [if_true]
        rw [if_neg (by rintro ⟨h, _⟩; exact h h45), if_neg (by rintro ⟨_, h⟩; omega), if_pos h45, if_pos hv]
        rfl
      · simp only [if_true]
        rw [if_neg hv]
        by_cases hv2 : vl 0 r ≤ 18446744073709551615
        · rw [if_pos hv2]
          simp only
          rw [if_neg (by rintro ⟨h, _⟩; exact h h45), if_pos ⟨h45, by omega⟩]
          rfl
        · rw [if_neg hv2]
          rfl
    · have e1 : blw (b :: r) = false := by simp [blw, h45]
      have e2 : cut (b :: r) = b :: r := by simp [cut, e1]
      rw [e1, e2] at hd ⊢
      have h43 : b.toNat ≠ 43 := by
        obtain ⟨_, h2, _⟩ := (dgs_iff _ _).1 hd
        rw [List.all_cons, Bool.and_eq_true] at h2
        have := dig_iff.1 h2.1
        omega
      rw [if_neg (by omega), hu _ _ hd]
      by_cases hv : vl 0 (b :: r) ≤ 9223372036854775807
      · rw [if_pos (show vl 0 (b :: r) ≤ 18446744073709551615 by omega)]
        simp only [Bool.false_eq_true, if_false]
        rw [if_neg (by rintro ⟨_, h⟩; omega), if_neg (by rintro ⟨h, _⟩; exact h45 h), if_neg h45, if_pos hv]
        rfl
      · simp only [Bool.false_eq_true, if_false]
        rw [if_neg hv]
        by_cases hv2 : vl 0 (b :: r) ≤ 18446744073709551615
        · rw [if_pos hv2]
          simp only
          rw [if_pos ⟨h45, by omega⟩]
          rfl
        · rw [if_neg hv2]
          rfl
theorem num_bad {l : Bs} (h : isDec l = false) : num (iof (blw l) (cut l)) = bad 1 := by
  rw [isDec_blw] at h
  unfold iof
  rw [if_neg (by rw [h]; decide)]
  rfl
theorem lit_rd (l : Bs) : lit l = rd l := by
  unfold lit rd
  by_cases hn : l = nul
  · rw [if_pos hn, if_pos hn]
  · rw [if_neg hn, if_neg hn]
    cases hd : isDec l with
    | true =>
      have e1 : quo l = none ∧ hexd l = none := by
        cases l with
        | nil => exact ⟨rfl, rfl⟩
        | cons b r =>
          have hb : b.toNat ≠ 39 ∧ b.toNat ≠ 120 := by
            rw [isDec_cons] at hd
            split at hd
            · omega
            · obtain ⟨_, h2, _⟩ := (dgs_iff _ _).1 hd
              rw [List.all_cons, Bool.and_eq_true] at h2
              have := dig_iff.1 h2.1
              omega
          refine ⟨?_, if_neg hb.2⟩
          unfold quo
          rw [unq_cons, if_neg (fun h => hb.1 h.1)]
          rfl
      rw [e1.1, e1.2, if_pos rfl]
      exact (int_dec hd).symm
    | false =>
      rw [num_bad hd, if_neg (by decide)]
      unfold quo
      cases hq : unq l with
      | some t =>
        simp only [Option.bind_some]
        cases hu : undbl t with
        | some u => rfl
        | none =>
          have e : hexd l = none := by
            have := unq_some hq
            subst this
            rfl
          simp only [e]
          rfl
      | none =>
        simp only [Option.bind_none]
        cases l with
        | nil => rfl
        | cons b r =>
          rw [trx_cons]
          unfold hexd
          simp only
          by_cases hx : b.toNat = 120
          · rw [if_pos hx, if_pos hx]
            cases hr : unq r with
            | none => rfl
            | some t =>
              simp only [Option.bind_some]
              cases unhx t <;> rfl
          · rw [if_neg hx, if_neg hx, hq]
end VS
end Go.Proofs.YtoagobpkenfbkaaGreatDoor
