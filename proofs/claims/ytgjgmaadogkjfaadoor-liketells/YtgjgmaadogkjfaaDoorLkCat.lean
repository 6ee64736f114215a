/-
  Two patterns, one behind the other; a star more.
-/
import Derived.Test.YtgjgmaadogkjfaaDoorLkEsc
namespace Go.Proofs.YtgjgmaadogkjfaaDoor
namespace LK

theorem isEmpty_iff {α : Type} (l : List α) : l.isEmpty = true ↔ l = [] := by cases l <;> simp
theorem mt_append : ∀ (P Q : List Part) (t : List Bs), mt (P ++ Q) t = true ↔ ∃ i, i ≤ t.length ∧ mt P (t.take i) = true ∧ mt Q (t.drop i) = true
  | [], Q, t => by
    constructor
    · intro h; exact ⟨0, Nat.zero_le _, rfl, by simpa using h⟩
    · rintro ⟨i, hi, h1, h2⟩
      have e : t.take i = [] := (isEmpty_iff _).1 h1
      have e2 := List.take_append_drop i t
      rw [e, List.nil_append] at e2
      rw [List.nil_append, ← e2]; exact h2
  | p :: ps, Q, t => by
    rw [List.cons_append]
    by_cases hp : p.1 = 37
    · rw [mt_star hp, anyTail_iff]
      constructor
      · rintro ⟨j, hj, h⟩
        obtain ⟨i, hi, h1, h2⟩ := (mt_append ps Q (t.drop j)).1 h
        rw [List.length_drop] at hi
        refine ⟨j + i, by omega, ?_, by rw [List.drop_drop] at h2; exact h2⟩
        rw [mt_star hp]
        refine (anyTail_iff _ _).2 ⟨j, by rw [List.length_take]; omega, ?_⟩
        rw [List.drop_take, Nat.add_sub_cancel_left]
        exact h1
      · rintro ⟨k, hk, h1, h2⟩
        rw [mt_star hp] at h1
        obtain ⟨j, hj, h3⟩ := (anyTail_iff _ _).1 h1
        rw [List.length_take] at hj
        refine ⟨j, by omega, (mt_append ps Q (t.drop j)).2 ⟨k - j, by rw [List.length_drop]; omega, ?_, ?_⟩⟩
        · rw [List.drop_take] at h3; exact h3
        · rw [List.drop_drop, show j + (k - j) = k by omega]; exact h2
    · cases t with
      | nil =>
        rw [mt_one_nil hp]
        constructor
        · intro h; cases h
        · rintro ⟨i, _, h1, _⟩
          rw [List.take_nil, mt_one_nil hp] at h1
          cases h1
      | cons x t =>
        rw [mt_one hp, Bool.and_eq_true, mt_append ps Q t]
        constructor
        · rintro ⟨h0, i, hi, h1, h2⟩
          refine ⟨i + 1, by simpa using hi, ?_, h2⟩
          rw [List.take_succ_cons, mt_one hp, h0, h1]; rfl
        · rintro ⟨k, hk, h1, h2⟩
          cases k with
          | zero => rw [List.take_zero, mt_one_nil hp] at h1; cases h1
          | succ i =>
            rw [List.take_succ_cons, mt_one hp, Bool.and_eq_true] at h1
            exact ⟨h1.1, i, by simpa using hk, h1.2, h2⟩

def st : Part := (37, [37])
theorem mt_st (Q : List Part) (t : List Bs) (h : mt Q t = true) : mt (st :: Q) t = true := by
  rw [mt_star rfl]
  exact (anyTail_iff _ _).2 ⟨0, Nat.zero_le _, h⟩
theorem mt_stst (Q : List Part) (t : List Bs) : mt (st :: st :: Q) t = mt (st :: Q) t := by
  have h : mt (st :: st :: Q) t = true ↔ mt (st :: Q) t = true := by
    constructor
    · intro h
      rw [mt_star rfl] at h
      obtain ⟨i, hi, h1⟩ := (anyTail_iff _ _).1 h
      rw [mt_star rfl] at h1 ⊢
      obtain ⟨j, hj, h2⟩ := (anyTail_iff _ _).1 h1
      rw [List.length_drop] at hj
      exact (anyTail_iff _ _).2 ⟨i + j, by omega, by rw [List.drop_drop] at h2; exact h2⟩
    · exact mt_st _ _
  cases h1 : mt (st :: Q) t with
  | true => exact h.2 h1
  | false =>
    cases h2 : mt (st :: st :: Q) t with
    | false => rfl
    | true => rw [h.1 h2] at h1; cases h1
/-- what a pattern stands for, it stands for with a star more -/
theorem more (P Q : List Part) (t : List Bs) (h : mt (P ++ Q) t = true) : mt (P ++ st :: Q) t = true := by
  obtain ⟨i, hi, h1, h2⟩ := (mt_append P Q t).1 h
  exact (mt_append P (st :: Q) t).2 ⟨i, hi, h1, mt_st _ _ h2⟩
theorem more_two (P Q : List Part) (t : List Bs) : mt (P ++ st :: st :: Q) t = mt (P ++ st :: Q) t := by
  have h : mt (P ++ st :: st :: Q) t = true ↔ mt (P ++ st :: Q) t = true := by
    rw [mt_append, mt_append]
    constructor
    · rintro ⟨i, hi, h1, h2⟩; exact ⟨i, hi, h1, by rw [← mt_stst]; exact h2⟩
    · rintro ⟨i, hi, h1, h2⟩; exact ⟨i, hi, h1, by rw [mt_stst]; exact h2⟩
  cases h1 : mt (P ++ st :: Q) t with
  | true => exact h.2 h1
  | false =>
    cases h2 : mt (P ++ st :: st :: Q) t with
    | false => rfl
    | true => rw [h.1 h2] at h1; cases h1
theorem all_st (t : List Bs) : mt [st] t = true := by
  rw [mt_star rfl]
  exact (anyTail_iff _ _).2 ⟨t.length, Nat.le_refl _, by rw [List.drop_length]; rfl⟩

/-- pieces of a text whose first part is of bytes below 128 -/
theorem pc_asc : ∀ (p q : Bs), (∀ b ∈ p, b.toNat < 128) → pc (p ++ q) = pc p ++ pc q
  | [], q, _ => rfl
  | b :: p, q, h => by
    have hb := h b List.mem_cons_self
    rw [List.cons_append, pc_low b _ (by omega), pc_low b _ (by omega), pc_asc p q (fun c hc => h c (List.mem_cons_of_mem _ hc))]
    rfl
theorem prs_append : ∀ (A B : List Bs) (e : Bool), (prs e (A ++ B)) = ((prs (prs e A).1 B).1, (prs e A).2 ++ (prs (prs e A).1 B).2)
  | [], B, e => by simp [prs]
  | x :: A, B, e => by
    rw [List.cons_append]
    by_cases h : kdE e x = 92
    · have e1 : prs e (x :: (A ++ B)) = prs true (A ++ B) := by conv => lhs; unfold prs; rw [if_pos h]
      have e2 : prs e (x :: A) = prs true A := by conv => lhs; unfold prs; rw [if_pos h]
      rw [e1, e2]
      exact prs_append A B true
    · have e1 : prs e (x :: (A ++ B)) = ((prs false (A ++ B)).1, (kdE e x, x) :: (prs false (A ++ B)).2) := by conv => lhs; unfold prs; rw [if_neg h]
      have e2 : prs e (x :: A) = ((prs false A).1, (kdE e x, x) :: (prs false A).2) := by conv => lhs; unfold prs; rw [if_neg h]
      rw [e1, e2, prs_append A B false]
      rfl
/-- two patterns, one behind the other, the first one of bytes below 128 and not open at its end -/
theorem run_cat (p q : Bs) (h : ∀ b ∈ p, b.toNat < 128) (ho : (run (pc p)).1 = false) : run (pc (p ++ q)) = ((run (pc q)).1, (run (pc p)).2 ++ (run (pc q)).2) := by
  rw [pc_asc p q h, run_eq, run_eq, run_eq, prs_append]
  rw [run_eq] at ho
  rw [ho]

/-- pieces of a text's beginning -/
theorem inr_le {l l' : Bs} (h : ∃ r, l = l' ++ r) (i lo hi : Nat) (hl : inr l' i lo hi = true) : inr l i lo hi = true := by
  obtain ⟨r, rfl⟩ := h
  have := inr_lt hl
  unfold inr at hl ⊢
  rw [List.getElem?_append_left this]
  exact hl
theorem sz_one_le {l l' : Bs} (h : ∃ r, l = l' ++ r) (h1 : sz l = 1) : sz l' = 1 := by
  have m : ∀ i lo hi, inr l' i lo hi = true → inr l i lo hi = true := fun i lo hi => inr_le h i lo hi
  unfold sz at h1 ⊢
  split at h1
  · omega
  · rename_i n1
    split at h1
    · omega
    · rename_i n2
      split at h1
      · omega
      · rename_i n3
        rw [if_neg (fun e => n1 ?_), if_neg (fun e => n2 ?_), if_neg (fun e => n3 ?_)]
        · unfold sec4 at e ⊢
          simp only [Bool.and_eq_true, Bool.or_eq_true] at e ⊢
          exact ⟨⟨e.1.1.imp (Or.imp (And.imp (m _ _ _) (m _ _ _)) (And.imp (m _ _ _) (m _ _ _))) (And.imp (m _ _ _) (m _ _ _)), m _ _ _ e.1.2⟩, m _ _ _ e.2⟩
        · unfold sec3 at e ⊢
          simp only [Bool.and_eq_true, Bool.or_eq_true] at e ⊢
          exact ⟨e.1.imp (Or.imp (Or.imp (And.imp (m _ _ _) (m _ _ _)) (And.imp (m _ _ _) (m _ _ _))) (And.imp (m _ _ _) (m _ _ _))) (And.imp (m _ _ _) (m _ _ _)), m _ _ _ e.2⟩
        · simp only [Bool.and_eq_true] at e ⊢
          exact ⟨m _ _ _ e.1, m _ _ _ e.2⟩
theorem pc_take (l : Bs) : ∀ i, pc ((pc l).take i).flatten = (pc l).take i := by
  refine pc_ind (Q := fun l => ∀ i, pc ((pc l).take i).flatten = (pc l).take i) (by intro i; simp [pc_nil]) (fun l hl ih i => ?_) l
  cases i with
  | zero => simp [pc_nil]
  | succ i =>
    rw [pc_cons hl, List.take_succ_cons, List.flatten_cons]
    obtain ⟨m, hm⟩ : ∃ m, ((pc (l.drop (sz l))).take i).flatten = m := ⟨_, rfl⟩
    have hpre : ∃ r, l.drop (sz l) = m ++ r := by
      refine ⟨((pc (l.drop (sz l))).drop i).flatten, ?_⟩
      rw [← hm, ← List.flatten_append, List.take_append_drop, pc_flat]
    rw [hm]
    have hlen : (l.take (sz l)).length = sz l := by have := sz_len hl; rw [List.length_take]; omega
    have hs : sz (l.take (sz l) ++ m) = sz l := by
      by_cases h2 : 2 ≤ sz l
      · exact sz_keep h2 m
      · have e1 : sz l = 1 := by have := sz_pos l; omega
        obtain ⟨r, hr⟩ := hpre
        rw [e1]
        refine sz_one_le (l := l) ⟨r, ?_⟩ e1
        rw [e1] at hr
        rw [List.append_assoc, ← hr, List.take_append_drop]
    have hne : l.take (sz l) ++ m ≠ [] := by
      intro e
      have := congrArg List.length e
      rw [List.length_append, hlen] at this
      have := sz_pos l
      simp at *
      omega
    rw [pc_cons hne, hs, List.take_append_of_le_length (by omega), List.take_of_length_le (by omega), List.drop_append_of_le_length (by omega), List.drop_eq_nil_of_le (by omega), List.nil_append, ← hm, ih i]
theorem pc_drop (l : Bs) : ∀ i, pc ((pc l).drop i).flatten = (pc l).drop i := by
  refine pc_ind (Q := fun l => ∀ i, pc ((pc l).drop i).flatten = (pc l).drop i) (by intro i; simp [pc_nil]) (fun l hl ih i => ?_) l
  cases i with
  | zero => rw [List.drop_zero, pc_flat]
  | succ i => rw [pc_cons hl, List.drop_succ_cons]; exact ih i
end LK
end Go.Proofs.YtgjgmaadogkjfaaDoor
