/-
  Literals: what the code's own steps say of a text, as plain facts.
-/
import Derived.Test.YtoagobpkenfbkaaGreatDoorVsBack
import Derived.Lib.Strings
import Derived.Lib.Bytealg
namespace Go.Proofs.YtoagobpkenfbkaaGreatDoor
namespace VS
theorem hasPre1 (b c : UInt8) (r : Bs) : Lib.hasPrefix (b :: r) [c] = (c == b) := by
  unfold Lib.hasPrefix
  simp [List.isPrefixOf]
theorem trimPre1 (b c : UInt8) (r : Bs) : Lib.trimPrefix (b :: r) [c] = if c = b then r else b :: r := by
  unfold Lib.trimPrefix
  rw [hasPre1]
  by_cases h : c = b
  · subst h; simp
  · simp [h]
theorem pre_nil (c : UInt8) : Lib.hasPrefix [] [c] = false ∧ Lib.trimPrefix [] [c] = [] := by
  constructor
  · rfl
  · rfl
theorem isDec_by (l : Bs) : isDec l = dgs (Lib.hasPrefix l [45]) (Lib.trimPrefix l [45]) := by
  cases l with
  | nil => rfl
  | cons b r =>
    rw [isDec_cons, hasPre1, trimPre1]
    by_cases h : (45 : UInt8) = b
    · subst h; simp
    · have h2 : b.toNat ≠ 45 := fun e => h (UInt8.toNat_inj.1 e.symm)
      rw [if_neg h2, if_neg h, show ((45 : UInt8) == b) = false from beq_false_of_ne h]
theorem trx_by (l : Bs) : trx l = Lib.trimPrefix l [120] := by
  cases l with
  | nil => rfl
  | cons b r =>
    rw [trx_cons, trimPre1]
    by_cases h : (120 : UInt8) = b
    · subst h; simp
    · have h2 : b.toNat ≠ 120 := fun e => h (UInt8.toNat_inj.1 e.symm)
      rw [if_neg h2, if_neg h]
theorem unq_by (l : Bs) : unq l = if (Lib.hasPrefix l [39] && Lib.hasSuffix (Lib.trimPrefix l [39]) [39]) = true then some (Lib.trimSuffix (Lib.trimPrefix l [39]) [39]) else none := by
  cases l with
  | nil => rfl
  | cons b r =>
    rw [unq_cons, hasPre1, trimPre1]
    by_cases h : (39 : UInt8) = b
    · subst h
      rw [if_pos rfl]
      have e : Lib.hasSuffix r [39] = decide (r.getLast? = some 39) := by
        unfold Lib.hasSuffix
        rcases List.eq_nil_or_concat r with rfl | ⟨a, c, rfl⟩
        · rfl
        · rw [List.concat_eq_append, show (a ++ [c]).getLast? = some c by simp]
          simp only [Option.some.injEq]
          rw [Bool.eq_iff_iff, decide_eq_true_eq, List.isSuffixOf_iff_suffix]
          constructor
          · rintro ⟨t, ht⟩
            have := congrArg List.getLast? ht
            simp at this
            exact this.symm
          · rintro rfl
            exact ⟨a, rfl⟩
      by_cases h2 : r.getLast? = some 39
      · have e2 : Lib.hasSuffix r [39] = true := by rw [e]; simp [h2]
        rw [if_pos ⟨rfl, h2⟩, if_pos (by rw [e2]; rfl)]
        unfold Lib.trimSuffix
        rw [if_pos e2]
        rw [List.dropLast_eq_take]
        rfl
      · have e2 : Lib.hasSuffix r [39] = false := by rw [e]; simp [h2]
        rw [if_neg (fun h => h2 h.2), if_neg (by rw [e2]; simp)]
    · have h2 : b.toNat ≠ 39 := fun e => h (UInt8.toNat_inj.1 e.symm)
      rw [if_neg (fun h => h2 h.1), if_neg (by simp [h])]
/-- digits alone: a number, or one that is too large -/
theorem parse_dec {l : Bs} (h : isDec l = true) : Lib.parseIntB 64 l = .range ∨ ∃ n, Lib.parseIntB 64 l = .ok n := by
  have key : ∀ (w : Bool) (r : Bs), dgs w r = true → Lib.parseUintB 64 r = .range ∨ ∃ n, Lib.parseUintB 64 r = .ok n := by
    intro w r hr
    obtain ⟨h1, h2, _⟩ := (dgs_iff w r).1 hr
    unfold Lib.parseUintB
    rw [if_neg h1]
    by_cases hv : vl 0 r ≤ 2 ^ 64 - 1
    · exact Or.inr ⟨_, parse_ok _ (by decide) r 0 h2 hv⟩
    · exact Or.inl (parse_over _ r 0 h2 (by omega) (by omega))
  cases l with
  | nil => exact absurd h (by decide)
  | cons b r =>
    rw [isDec_cons] at h
    have fin : ∀ (o : Lib.NumEnd Nat), (o = .range ∨ ∃ n, o = .ok n) → ((match o with
      | .syntax => Lib.NumEnd.syntax
      | .range => .range
      | .ok u => if ¬ b.toNat = 45 ∧ 2 ^ (64 - 1) ≤ u then .range else if b.toNat = 45 ∧ 2 ^ (64 - 1) < u then .range else .ok (if b.toNat = 45 then -(u : Int) else u)) = .range ∨ ∃ n : Int, (match o with
      | .syntax => Lib.NumEnd.syntax
      | .range => .range
      | .ok u => if ¬ b.toNat = 45 ∧ 2 ^ (64 - 1) ≤ u then .range else if b.toNat = 45 ∧ 2 ^ (64 - 1) < u then .range else .ok (if b.toNat = 45 then -(u : Int) else u)) = .ok n) := by
      rintro o (rfl | ⟨n, rfl⟩)
      · exact Or.inl rfl
      · simp only
        split
        · exact Or.inl rfl
        · split
          · exact Or.inl rfl
          · exact Or.inr ⟨_, rfl⟩
    unfold Lib.parseIntB
    simp only
    refine fin _ ?_
    by_cases h45 : b.toNat = 45
    · rw [if_pos h45] at h
      rw [if_pos (Or.inr h45)]
      exact key _ _ h
    · rw [if_neg h45] at h
      have h43 : b.toNat ≠ 43 := by
        obtain ⟨_, h2, _⟩ := (dgs_iff _ _).1 h
        rw [List.all_cons, Bool.and_eq_true] at h2
        have := h2.1
        unfold dig at this
        simp at this
        omega
      rw [if_neg (by omega)]
      exact key _ _ h
/-- no quote in it -/
theorem undbl_none : ∀ {p : Bs}, (39 : UInt8) ∉ p → undbl p = some p
  | [], _ => rfl
  | b :: r, h => by
    have hb : b.toNat ≠ 39 := fun e => h (by rw [show b = 39 from UInt8.toNat_inj.1 e]; exact List.mem_cons_self)
    rw [undbl_n b hb, undbl_none (fun e => h (List.mem_cons_of_mem _ e))]
    rfl
theorem undbl_skip (q : Bs) : ∀ {p : Bs}, (39 : UInt8) ∉ p → undbl (p ++ q) = (undbl q).map (p ++ ·)
  | [], _ => by simp
  | b :: r, h => by
    have hb : b.toNat ≠ 39 := fun e => h (by rw [show b = 39 from UInt8.toNat_inj.1 e]; exact List.mem_cons_self)
    rw [List.cons_append, undbl_n b hb, undbl_skip q (fun e => h (List.mem_cons_of_mem _ e))]
    cases undbl q <;> rfl
theorem undbl_odd (q : Bs) (h : Lib.hasPrefix q [39] = false) : undbl (39 :: q) = none := by
  cases q with
  | nil => rfl
  | cons b r =>
    rw [hasPre1] at h
    have hb : b.toNat ≠ 39 := fun e => by
      rw [show b = 39 from UInt8.toNat_inj.1 e] at h
      exact absurd h (by decide)
    conv => lhs; unfold undbl
    rw [if_pos (show UInt8.toNat 39 = 39 from rfl), if_neg hb]
theorem pre_true {q : Bs} (h : Lib.hasPrefix q [39] = true) : ∃ r, q = 39 :: r := by
  cases q with
  | nil => exact absurd h (by decide)
  | cons b r =>
    rw [hasPre1] at h
    exact ⟨r, by rw [← eq_of_beq h]⟩
theorem index_none : ∀ {l : Bs} {c : UInt8}, Lib.indexByte l c = -1 → c ∉ l
  | [], _, _ => by simp
  | b :: l, c, h => by
    unfold Lib.indexByte at h
    have nn : ∀ l : Bs, -1 ≤ Lib.indexByte l c := by
      intro l
      induction l with
      | nil => exact Int.le_refl _
      | cons x r ih =>
        unfold Lib.indexByte
        split
        · decide
        · split
          · decide
          · omega
    split at h
    · omega
    · rename_i hb
      split at h
      · rename_i h2
        have := index_none (eq_of_beq h2)
        intro hm
        rcases List.mem_cons.1 hm with e | e
        · exact hb (by rw [e]; simp)
        · exact this e
      · rename_i h2
        have := nn l
        exfalso
        have : Lib.indexByte l c ≠ -1 := fun e => h2 (by rw [e]; rfl)
        omega
theorem index_some : ∀ {l : Bs} {c : UInt8} {i : Int}, Lib.indexByte l c = i → i ≠ -1 → 0 ≤ i ∧ i.toNat < l.length ∧ l = l.take i.toNat ++ c :: l.drop (i.toNat + 1) ∧ c ∉ l.take i.toNat
  | [], c, i, h, hi => absurd h.symm hi
  | b :: l, c, i, h, hi => by
    unfold Lib.indexByte at h
    split at h
    · rename_i hb
      subst h
      refine ⟨by decide, by simp, ?_, by simp⟩
      rw [eq_of_beq hb]
      simp
    · rename_i hb
      split at h
      · exact absurd h.symm hi
      · rename_i h2
        have h3 : Lib.indexByte l c ≠ -1 := fun e => h2 (by rw [e]; rfl)
        obtain ⟨h4, h5, h6, h7⟩ := index_some (l := l) (c := c) rfl h3
        obtain ⟨n, hn⟩ : ∃ n : Nat, Lib.indexByte l c = n := ⟨_, (Int.toNat_of_nonneg h4).symm⟩
        rw [hn] at h h5 h6 h7
        simp only [Int.toNat_natCast] at h5 h6 h7
        subst h
        have e : ((n : Int) + 1).toNat = n + 1 := by omega
        rw [e]
        refine ⟨by omega, by simp; omega, ?_, ?_⟩
        · rw [List.take_succ_cons, List.drop_succ_cons, List.cons_append, ← h6]
        · rw [List.take_succ_cons]
          intro hm
          rcases List.mem_cons.1 hm with e | e
          · exact hb (by rw [e]; simp)
          · exact h7 e
def hexT : Bs := [48, 49, 50, 51, 52, 53, 54, 55, 56, 57, 97, 98, 99, 100, 101, 102]
def ix (b : UInt8) : Int := match hxv b with
  | some n => n
  | none => -1
theorem ix_by (b : UInt8) : Lib.indexByte hexT ((b.toNat : Int).toNat.toUInt8) = ix b := by
  have h : ∀ n : Fin 256, Lib.indexByte hexT (UInt8.ofNat n.val) = ix (UInt8.ofNat n.val) := by decide +kernel
  have := h ⟨b.toNat, b.toNat_lt⟩
  simp only at this
  rw [UInt8.ofNat_toNat] at this
  rw [show ((b.toNat : Int).toNat.toUInt8) = b by rw [Int.toNat_natCast]; exact UInt8.ofNat_toNat]
  exact this
theorem hxv_lt {b : UInt8} {n : Nat} (h : hxv b = some n) : n < 16 := by
  unfold hxv at h
  split at h
  · simp at h; omega
  · split at h
    · simp at h; omega
    · cases h
theorem unhx_odd : ∀ (n : Nat) (l : Bs), l.length ≤ n → l.length % 2 = 1 → unhx l = none
  | _, [], _, h => by simp at h
  | _, [_], _, _ => rfl
  | 0, _ :: _ :: _, h, _ => by simp at h
  | n + 1, a :: b :: r, h, h2 => by
    unfold unhx
    have := unhx_odd n r (by simp at h; omega) (by simp at h2; omega)
    split
    · rw [this]; rfl
    · rfl
theorem unhx_bad (a b : UInt8) (r : Bs) (h : ix a < 0 ∨ ix b < 0) : unhx (a :: b :: r) = none := by
  unfold unhx
  unfold ix at h
  split
  · rename_i h1 h2
    rw [h1, h2] at h
    simp at h
    omega
  · rfl
theorem unhx_good (a b : UInt8) (r : Bs) (h1 : 0 ≤ ix a) (h2 : 0 ≤ ix b) : unhx (a :: b :: r) = (unhx r).map (UInt8.ofNat (16 * ix a + ix b).toNat :: ·) ∧ ix a ≤ 15 ∧ ix b ≤ 15 := by
  conv => enter [1, 1]; unfold unhx
  unfold ix at *
  cases ha : hxv a with
  | none => rw [ha] at h1; exact absurd h1 (by decide)
  | some x =>
    cases hb : hxv b with
    | none => rw [hb] at h2; exact absurd h2 (by decide)
    | some y =>
      have := hxv_lt ha
      have := hxv_lt hb
      simp only
      exact ⟨by rw [show (16 * (x : Int) + (y : Int)).toNat = 16 * x + y by omega], by omega, by omega⟩
end VS
end Go.Proofs.YtoagobpkenfbkaaGreatDoor
