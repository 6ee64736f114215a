/-
  Bytes of keys stand in the order of their rows.
-/
import Derived.Test.YtpalikdnpchdeaaCMath
import Derived.Test.YtpalikdnpchdeaaLMath
import Derived.Test.YtpalikdnpchdeaaKMath
namespace Go.Proofs.Ytpalikdnpchdeaa
namespace OM
open VM

theorem cb_eq (a b : UInt8) (l m : List UInt8) : Lib.compareBytes (a :: l) (b :: m) = if a.toNat < b.toNat then -1 else if b.toNat < a.toNat then 1 else Lib.compareBytes l m := by
  rw [Lib.compareBytes]
  simp only [UInt8.lt_iff_toNat_lt]
theorem cb_lt {a b : UInt8} (h : a.toNat < b.toNat) (l m : List UInt8) : Lib.compareBytes (a :: l) (b :: m) = -1 := by rw [cb_eq, if_pos h]
theorem cb_gt {a b : UInt8} (h : b.toNat < a.toNat) (l m : List UInt8) : Lib.compareBytes (a :: l) (b :: m) = 1 := by rw [cb_eq, if_neg (by omega), if_pos h]
theorem cb_same (a : UInt8) (l m : List UInt8) : Lib.compareBytes (a :: l) (a :: m) = Lib.compareBytes l m := by rw [cb_eq, if_neg (by omega), if_neg (by omega)]

/-- one comparison, then another -/
def thn (x y : Int) : Int := if x ≠ 0 then x else y

theorem be_ord : ∀ (k u v : Nat) (r q : List UInt8), u < 256 ^ k → v < 256 ^ k → Lib.compareBytes (KM.be k u ++ r) (KM.be k v ++ q) = thn (CM.ci u v) (Lib.compareBytes r q) := by
  intro k
  induction k with
  | zero =>
    intro u v r q hu hv
    simp at hu hv
    subst hu hv
    rfl
  | succ k ih =>
    intro u v r q hu hv
    rw [Nat.pow_succ] at hu hv
    have hp : 0 < 256 ^ k := Nat.pow_pos (by decide)
    have hdu : u / 256 ^ k < 256 := Nat.div_lt_of_lt_mul hu
    have hdv : v / 256 ^ k < 256 := Nat.div_lt_of_lt_mul hv
    have eu := Nat.div_add_mod u (256 ^ k)
    have ev := Nat.div_add_mod v (256 ^ k)
    have lu := Nat.mod_lt u hp
    have lv := Nat.mod_lt v hp
    simp only [KM.be, List.cons_append]
    rw [cb_eq, UInt8.toNat_ofNat', UInt8.toNat_ofNat', Nat.mod_eq_of_lt hdu, Nat.mod_eq_of_lt hdv]
    generalize u / 256 ^ k = a at *
    generalize v / 256 ^ k = b at *
    by_cases h1 : a < b
    · rw [if_pos h1]
      have := Nat.mul_le_mul_left (256 ^ k) (show a + 1 ≤ b by omega)
      rw [Nat.mul_add] at this
      have hl : u < v := by omega
      unfold thn CM.ci
      rw [if_pos (show (u : Int) < v by omega)]
      rfl
    · rw [if_neg h1]
      by_cases h2 : b < a
      · rw [if_pos h2]
        have := Nat.mul_le_mul_left (256 ^ k) (show b + 1 ≤ a by omega)
        rw [Nat.mul_add] at this
        have hl : v < u := by omega
        unfold thn CM.ci
        rw [if_neg (show ¬ (u : Int) < v by omega), if_pos (show (v : Int) < u by omega)]
        rfl
      · rw [if_neg h2]
        obtain rfl : a = b := by omega
        rw [ih _ _ r q lu lv]
        congr 1
        unfold CM.ci
        generalize u % 256 ^ k = c at *
        generalize v % 256 ^ k = d at *
        repeat' split
        all_goals omega

theorem esc_nil : KM.esc [] = [0, 1] := rfl
theorem esc_zero {b : UInt8} (h : b.toNat = 0) (t : List UInt8) : KM.esc (b :: t) = b :: 255 :: KM.esc t := by
  rw [KM.esc, if_pos h, show b = 0 from UInt8.toNat_inj.1 h]
theorem esc_pos {b : UInt8} (h : b.toNat ≠ 0) (t : List UInt8) : KM.esc (b :: t) = b :: KM.esc t := by
  rw [KM.esc, if_neg h]
theorem esc_ord : ∀ (s t r q : List UInt8), Lib.compareBytes (KM.esc s ++ r) (KM.esc t ++ q) = thn (Lib.compareBytes s t) (Lib.compareBytes r q) := by
  intro s
  induction s with
  | nil =>
    intro t r q
    cases t with
    | nil =>
      show Lib.compareBytes (0 :: 1 :: r) (0 :: 1 :: q) = _
      rw [cb_same, cb_same]
      rfl
    | cons b t =>
      show Lib.compareBytes (0 :: 1 :: r) (KM.esc (b :: t) ++ q) = -1
      by_cases hb : b.toNat = 0
      · rw [esc_zero hb, show b = 0 from UInt8.toNat_inj.1 hb]
        show Lib.compareBytes (0 :: 1 :: r) (0 :: 255 :: (KM.esc t ++ q)) = -1
        rw [cb_same, cb_lt (by decide)]
      · rw [esc_pos hb]
        show Lib.compareBytes (0 :: 1 :: r) (b :: (KM.esc t ++ q)) = -1
        rw [cb_lt (show UInt8.toNat 0 < b.toNat by show 0 < b.toNat; omega)]
  | cons a s ih =>
    intro t r q
    cases t with
    | nil =>
      show Lib.compareBytes (KM.esc (a :: s) ++ r) (0 :: 1 :: q) = 1
      by_cases ha : a.toNat = 0
      · rw [esc_zero ha, show a = 0 from UInt8.toNat_inj.1 ha]
        show Lib.compareBytes (0 :: 255 :: (KM.esc s ++ r)) (0 :: 1 :: q) = 1
        rw [cb_same, cb_gt (by decide)]
      · rw [esc_pos ha]
        show Lib.compareBytes (a :: (KM.esc s ++ r)) (0 :: 1 :: q) = 1
        rw [cb_gt (show UInt8.toNat 0 < a.toNat by show 0 < a.toNat; omega)]
    | cons b t =>
      have key : ∃ c d, KM.esc (a :: s) ++ r = a :: c ∧ KM.esc (b :: t) ++ q = b :: d ∧ (a = b → Lib.compareBytes c d = Lib.compareBytes (KM.esc s ++ r) (KM.esc t ++ q)) := by
        by_cases ha : a.toNat = 0
        · by_cases hb : b.toNat = 0
          · refine ⟨255 :: (KM.esc s ++ r), 255 :: (KM.esc t ++ q), by rw [esc_zero ha]; rfl, by rw [esc_zero hb]; rfl, fun _ => cb_same _ _ _⟩
          · refine ⟨255 :: (KM.esc s ++ r), KM.esc t ++ q, by rw [esc_zero ha]; rfl, by rw [esc_pos hb]; rfl, fun h => ?_⟩
            subst h
            exact absurd ha hb
        · by_cases hb : b.toNat = 0
          · refine ⟨KM.esc s ++ r, 255 :: (KM.esc t ++ q), by rw [esc_pos ha]; rfl, by rw [esc_zero hb]; rfl, fun h => ?_⟩
            subst h
            exact absurd hb ha
          · exact ⟨KM.esc s ++ r, KM.esc t ++ q, by rw [esc_pos ha]; rfl, by rw [esc_pos hb]; rfl, fun _ => rfl⟩
      obtain ⟨c, d, h1, h2, h3⟩ := key
      rw [h1, h2]
      by_cases hl : a.toNat < b.toNat
      · rw [cb_lt hl, cb_lt hl]
        rfl
      · by_cases hg : b.toNat < a.toNat
        · rw [cb_gt hg, cb_gt hg]
          rfl
        · obtain rfl : a = b := UInt8.toNat_inj.1 (by omega)
          rw [cb_same, cb_same, h3 rfl, ih]

theorem thn_or {x y z : Int} (q : Int) : thn (CM.or3 x y z) q = thn x (thn y (thn z q)) := by
  unfold thn CM.or3
  by_cases hx : x = 0
  · by_cases hy : y = 0
    · simp [hx, hy]
    · simp [hx, hy]
  · simp [hx]
theorem thn_zero (q : Int) : thn 0 q = q := rfl
theorem ci_self (x : Int) : CM.ci x x = 0 := by unfold CM.ci; rw [if_neg (by omega), if_neg (by omega)]
theorem kb_at {x : Vl} (h : chk x = 0) : (x.k = 0 ∧ x.n = 0 ∧ x.s = ⟨#[]⟩ ∧ KM.kb x = [5]) ∨ (x.k = 1 ∧ x.s = ⟨#[]⟩ ∧ KM.kb x = 16 :: KM.be 8 (KM.turn x.n)) ∨ (x.k = 2 ∧ x.n = 0 ∧ KM.kb x = 32 :: KM.esc x.s.data.toList) ∨ (x.k = 3 ∧ x.n = 0 ∧ KM.kb x = 48 :: KM.esc x.s.data.toList) := by
  rcases LM.kinds h with rfl | ⟨h1, h2⟩ | ⟨h1 | h1, h2, h3⟩
  · exact Or.inl ⟨rfl, rfl, rfl, rfl⟩
  · refine Or.inr (Or.inl ⟨h1, h2, ?_⟩)
    unfold KM.kb
    rw [if_neg (by omega), if_pos h1]
  · refine Or.inr (Or.inr (Or.inl ⟨h1, h2, ?_⟩))
    unfold KM.kb
    rw [if_neg (by omega), if_neg (by omega), if_pos h1]
  · refine Or.inr (Or.inr (Or.inr ⟨h1, h2, ?_⟩))
    unfold KM.kb
    rw [if_neg (by omega), if_neg (by omega), if_neg (by omega)]
theorem ord_lt {x y : Vl} (h : x.k < y.k) (q : Int) : thn (CM.ord x y) q = -1 := by
  unfold CM.ord
  rw [thn_or]
  unfold CM.ci
  rw [if_pos h]
  rfl
theorem ord_gt {x y : Vl} (h : y.k < x.k) (q : Int) : thn (CM.ord x y) q = 1 := by
  unfold CM.ord
  rw [thn_or]
  unfold CM.ci
  rw [if_neg (by omega), if_pos h]
  rfl
theorem turn_ord {x y : Vl} (hx : LM.wide x) (hy : LM.wide y) : CM.ci (KM.turn x.n : Nat) (KM.turn y.n : Nat) = CM.ci x.n y.n := by
  unfold LM.wide at hx hy
  unfold CM.ci KM.turn
  repeat' split
  all_goals omega
theorem kb_ord {x y : Vl} (hx : chk x = 0) (hy : chk y = 0) (wx : LM.wide x) (wy : LM.wide y) (r q : List UInt8) :
    Lib.compareBytes (KM.kb x ++ r) (KM.kb y ++ q) = thn (CM.ord x y) (Lib.compareBytes r q) := by
  have tx : KM.turn x.n < 256 ^ 8 := by unfold LM.wide at wx; unfold KM.turn; omega
  have ty : KM.turn y.n < 256 ^ 8 := by unfold LM.wide at wy; unfold KM.turn; omega
  rcases kb_at hx with ⟨a1, a2, a3, ea⟩ | ⟨a1, a3, ea⟩ | ⟨a1, a2, ea⟩ | ⟨a1, a2, ea⟩ <;>
    rcases kb_at hy with ⟨b1, b2, b3, eb⟩ | ⟨b1, b3, eb⟩ | ⟨b1, b2, eb⟩ | ⟨b1, b2, eb⟩ <;>
    rw [ea, eb] <;> simp only [List.cons_append, List.nil_append]
  case inl.inl =>
    rw [cb_same]
    unfold CM.ord
    rw [thn_or, a1, b1, a2, b2, a3, b3, ci_self]
    rfl
  case inr.inl.inr.inl =>
    rw [cb_same, be_ord 8 _ _ r q tx ty, turn_ord wx wy]
    unfold CM.ord
    rw [thn_or, a1, b1, a3, b3, ci_self, thn_zero]
    rfl
  case inr.inr.inl.inr.inr.inl =>
    rw [cb_same, esc_ord]
    unfold CM.ord
    rw [thn_or, a1, b1, a2, b2, ci_self, ci_self, thn_zero, thn_zero]
  case inr.inr.inr.inr.inr.inr =>
    rw [cb_same, esc_ord]
    unfold CM.ord
    rw [thn_or, a1, b1, a2, b2, ci_self, ci_self, thn_zero, thn_zero]
  all_goals first
    | (rw [cb_lt (by decide), ord_lt (by omega)])
    | (rw [cb_gt (by decide), ord_gt (by omega)])
theorem rows_ord : ∀ (a b : List Vl), (∀ x ∈ a, chk x = 0) → (∀ x ∈ b, chk x = 0) → (∀ x ∈ a, LM.wide x) → (∀ x ∈ b, LM.wide x) → Lib.compareBytes (KM.row a) (KM.row b) = CM.rows a b := by
  intro a
  induction a with
  | nil =>
    intro b _ hb _ _
    cases b with
    | nil => rfl
    | cons y t =>
      have : ∃ c u, KM.row (y :: t) = c :: u := by
        unfold KM.row
        rw [List.flatMap_cons]
        rcases kb_at (hb y (by simp)) with ⟨_, _, _, e⟩ | ⟨_, _, e⟩ | ⟨_, _, e⟩ | ⟨_, _, e⟩ <;> rw [e] <;> exact ⟨_, _, rfl⟩
      obtain ⟨c, u, e⟩ := this
      rw [e]
      rfl
  | cons x s ih =>
    intro b ha hb wa wb
    cases b with
    | nil =>
      have : ∃ c u, KM.row (x :: s) = c :: u := by
        unfold KM.row
        rw [List.flatMap_cons]
        rcases kb_at (ha x (by simp)) with ⟨_, _, _, e⟩ | ⟨_, _, e⟩ | ⟨_, _, e⟩ | ⟨_, _, e⟩ <;> rw [e] <;> exact ⟨_, _, rfl⟩
      obtain ⟨c, u, e⟩ := this
      rw [e]
      rfl
    | cons y t =>
      have e1 : KM.row (x :: s) = KM.kb x ++ KM.row s := by unfold KM.row; rw [List.flatMap_cons]
      have e2 : KM.row (y :: t) = KM.kb y ++ KM.row t := by unfold KM.row; rw [List.flatMap_cons]
      have hc : CM.cmp x y = CM.ord x y := by
        unfold CM.cmp
        rw [if_pos (LM.chkAll_mk (by intro z hz; simp at hz; rcases hz with rfl | rfl; exact ha _ (by simp); exact hb _ (by simp)))]
      rw [e1, e2, kb_ord (ha x (by simp)) (hb y (by simp)) (wa x (by simp)) (wb y (by simp)), ih t (fun z hz => ha z (by simp [hz])) (fun z hz => hb z (by simp [hz])) (fun z hz => wa z (by simp [hz])) (fun z hz => wb z (by simp [hz])), CM.rows, hc]
      rfl
theorem cb_zero : ∀ {l m : List UInt8}, Lib.compareBytes l m = 0 ↔ l = m := by
  intro l
  induction l with
  | nil => intro m; cases m <;> simp [Lib.compareBytes]
  | cons a t ih =>
    intro m
    cases m with
    | nil => simp [Lib.compareBytes]
    | cons b u =>
      rw [cb_eq]
      by_cases h1 : a.toNat < b.toNat
      · rw [if_pos h1]
        have : a ≠ b := by rintro rfl; omega
        simp [this]
      · rw [if_neg h1]
        by_cases h2 : b.toNat < a.toNat
        · rw [if_pos h2]
          have : a ≠ b := by rintro rfl; omega
          simp [this]
        · rw [if_neg h2]
          obtain rfl : a = b := UInt8.toNat_inj.1 (by omega)
          simp [ih]
theorem cb_neg : ∀ {l m : List UInt8}, Lib.compareBytes l m < 0 ↔ l < m := by
  intro l
  induction l with
  | nil => intro m; cases m <;> simp [Lib.compareBytes]
  | cons a t ih =>
    intro m
    cases m with
    | nil => simp [Lib.compareBytes]
    | cons b u =>
      rw [cb_eq, List.cons_lt_cons_iff]
      simp only [UInt8.lt_iff_toNat_lt]
      by_cases h1 : a.toNat < b.toNat
      · rw [if_pos h1]
        simp [h1]
      · rw [if_neg h1]
        by_cases h2 : b.toNat < a.toNat
        · rw [if_pos h2]
          have : a ≠ b := by rintro rfl; omega
          simp [h1, this]
        · rw [if_neg h2]
          obtain rfl : a = b := UInt8.toNat_inj.1 (by omega)
          simp [ih]
end OM
end Go.Proofs.Ytpalikdnpchdeaa
