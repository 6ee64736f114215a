/-
  Escapes byte by byte; a pattern's beginning piece by piece.
-/
import Derived.Test.YtgjgmaadogkjfaaDoorLkCat
namespace Go.Proofs.YtgjgmaadogkjfaaDoor
namespace LK

def bk (b : UInt8) : Bool := b.toNat == 37 || (b.toNat == 95 || b.toNat == 92)
def be (b : UInt8) : Bs := if bk b = true then [92, b] else [b]
def besc (l : Bs) : Bs := l.flatMap be
theorem besc_app (a b : Bs) : besc (a ++ b) = besc a ++ besc b := by simp [besc]

/-- behind its first byte a letter has goers-on alone -/
theorem sz_tail (l : Bs) : ∀ b ∈ (l.take (sz l)).tail, 128 ≤ b.toNat := by
  have key : ∀ i b, 1 ≤ i → i < sz l → l[i]? = some b → 128 ≤ b.toNat := by
    intro i b h1 h2 hb
    have hin : ∀ lo hi, 128 ≤ lo → inr l i lo hi = true → 128 ≤ b.toNat := by
      intro lo hi hlo h
      unfold inr at h
      rw [hb] at h
      simp only [Bool.and_eq_true, decide_eq_true_eq] at h
      omega
    unfold sz at h2
    split at h2
    · rename_i h
      rw [Bool.and_eq_true] at h
      obtain rfl : i = 1 := by omega
      exact hin _ _ (by decide) h.2
    · split at h2
      · rename_i h
        rw [Bool.and_eq_true] at h
        by_cases hi : i = 1
        · subst hi
          have h' := h.1
          unfold sec3 at h'
          simp only [Bool.or_eq_true, Bool.and_eq_true] at h'
          rcases h' with ((h' | h') | h') | h'
          all_goals exact hin _ _ (by decide) h'.2
        · obtain rfl : i = 2 := by omega
          exact hin _ _ (by decide) h.2
      · split at h2
        · rename_i h
          rw [Bool.and_eq_true, Bool.and_eq_true] at h
          by_cases hi : i = 1
          · subst hi
            have h' := h.1.1
            unfold sec4 at h'
            simp only [Bool.or_eq_true, Bool.and_eq_true] at h'
            rcases h' with (h' | h') | h'
            all_goals exact hin _ _ (by decide) h'.2
          · by_cases hi2 : i = 2
            · subst hi2; exact hin _ _ (by decide) h.1.2
            · obtain rfl : i = 3 := by omega
              exact hin _ _ (by decide) h.2
        · omega
  intro b hb
  obtain ⟨j, hj⟩ := List.mem_iff_getElem?.1 hb
  rw [List.getElem?_tail, List.getElem?_take] at hj
  split at hj
  · exact key (j + 1) b (by omega) (by assumption) hj
  · cases hj
theorem be_high {b : UInt8} (h : 128 ≤ b.toNat) : be b = [b] := by
  unfold be bk
  rw [if_neg]
  simp only [Bool.or_eq_true, beq_iff_eq]
  omega
theorem besc_high (l : Bs) (h : ∀ b ∈ l, 128 ≤ b.toNat) : besc l = l := by
  induction l with
  | nil => rfl
  | cons b l ih =>
    show be b ++ besc l = _
    rw [be_high (h b List.mem_cons_self), ih (fun c hc => h c (List.mem_cons_of_mem _ hc))]
    rfl
theorem kd_bk (b : UInt8) (r : Bs) : kd (b :: r) = 97 ↔ bk b = false := by
  unfold kd bk
  simp only [Bool.or_eq_false_iff, beq_eq_false_iff_ne]
  constructor
  · intro h
    split at h
    · cases h
    · split at h
      · cases h
      · split at h
        · cases h
        · omega
  · intro h
    rw [if_neg h.1, if_neg h.2.1, if_neg h.2.2]
/-- escapes byte by byte are escapes piece by piece -/
theorem besc_eq (l : Bs) : besc l = esc (pc l) := by
  refine pc_ind (Q := fun l => besc l = esc (pc l)) rfl (fun l hl ih => ?_) l
  rw [pc_cons hl, esc_cons, ← ih]
  conv => lhs; rw [← List.take_append_drop (sz l) l]
  rw [besc_app]
  congr 1
  have ht := sz_tail l
  obtain ⟨b, r, hx⟩ : ∃ b r, l.take (sz l) = b :: r := by
    cases l with
    | nil => exact absurd rfl hl
    | cons b l =>
      obtain ⟨k, hk⟩ : ∃ k, sz (b :: l) = k + 1 := ⟨sz (b :: l) - 1, by have := sz_pos (b :: l); omega⟩
      exact ⟨b, l.take k, by rw [hk, List.take_succ_cons]⟩
  rw [hx] at ht ⊢
  show be b ++ besc r = _
  rw [besc_high r ht]
  unfold be
  cases hb : bk b with
  | false => rw [if_neg (by decide), if_pos ((kd_bk b r).2 hb)]; rfl
  | true =>
    rw [if_pos rfl, if_neg (fun h => by rw [(kd_bk b r).1 h] at hb; cases hb)]
    rfl
theorem besc_len (l : Bs) : (besc l).length ≤ 2 * l.length := by
  induction l with
  | nil => simp [besc]
  | cons b l ih =>
    show (be b ++ besc l).length ≤ _
    rw [List.length_append, List.length_cons]
    have : (be b).length ≤ 2 := by unfold be; split <;> simp
    omega
theorem besc_snoc (l : Bs) (b : UInt8) : besc (l ++ [b]) = besc l ++ be b := by simp [besc]

/-- a piece that is its only piece, by its kind -/
theorem kd_lit (x : Bs) (hx : pc x = [x]) (c : UInt8) (hc : c.toNat < 128) (hk : kd [c] = c.toNat) (h97 : (c.toNat : Int) ≠ 97) : kd x = c.toNat ↔ x = [c] := by
  constructor
  · intro h
    cases x with
    | nil => exact absurd h (by show (97 : Int) ≠ _; omega)
    | cons b r =>
      have hb : b.toNat = c.toNat := by
        unfold kd at h
        simp only at h
        split at h
        · omega
        · split at h
          · omega
          · split at h
            · omega
            · omega
      have hb2 : b = c := UInt8.toNat_inj.1 hb
      subst hb2
      rw [pc_low b r (by omega)] at hx
      simp only [List.cons.injEq] at hx
      rw [← hx.1.2]
  · intro h; subst h; exact hk
theorem pre_cons_plain (x : Bs) (ps : List Part) : pre ((97, x) :: ps) = x ++ pre ps ∧ whole ((97, x) :: ps) = whole ps := ⟨by simp [pre], by simp [whole]⟩
theorem pre_cons_stop (k : Int) (x : Bs) (ps : List Part) (h : k ≠ 97) : pre ((k, x) :: ps) = [] ∧ whole ((k, x) :: ps) = false := ⟨by simp [pre, h], by simp [whole, h]⟩
end LK
end Go.Proofs.YtgjgmaadogkjfaaDoor
