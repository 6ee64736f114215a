/-
  What is true of filled lists: together they are all; each can be packed; with the next one's first entry more it can't be.
-/
import Derived.Test.YthpcdhnaibpjnaaLfFN
import Derived.Test.YthpcdhnaibpjnaaLfPk
namespace Go.Proofs.Ythpcdhnaibpjnaa
namespace LF
open VM
theorem chkE_low : ∀ {x y : Int} {l : List En}, chkE x l = 0 → y ≤ x → chkE y l = 0
  | _, _, [], _, _ => rfl
  | x, y, e :: l, h, hy => by
    rw [chkE_cons] at h ⊢
    split at h
    · rename_i h1
      obtain ⟨a, b, c⟩ := one_ok h1
      have h2 : one y e = 0 := by unfold one; rw [if_neg (by omega), if_neg (by omega)]; exact c
      rw [if_pos h2]
      exact h
    · rename_i h1; exact absurd h h1
theorem chkE_take : ∀ {x : Int} {l : List En} (n : Nat), chkE x l = 0 → chkE x (l.take n) = 0
  | _, [], n, _ => by simp [chkE]
  | _, e :: l, 0, _ => rfl
  | x, e :: l, n + 1, h => by
    rw [chkE_cons] at h
    rw [List.take_succ_cons, chkE_cons]
    split at h
    · rename_i h1
      rw [if_pos h1]
      exact chkE_take n h
    · rename_i h1; exact absurd h h1
theorem lst_ge : ∀ {x : Int} {l : List En}, chkE x l = 0 → x ≤ lst x l
  | _, [], _ => Int.le_refl _
  | x, e :: l, h => by
    rw [chkE_cons] at h
    split at h
    · rename_i h1
      obtain ⟨a, b, c⟩ := one_ok h1
      have := lst_ge h
      show x ≤ lst e.1 l
      omega
    · rename_i h1; exact absurd h h1
theorem chkE_drop : ∀ {x : Int} {l : List En} (n : Nat), chkE x l = 0 → chkE x (l.drop n) = 0
  | _, [], n, _ => by simp [chkE]
  | _, e :: l, 0, h => h
  | x, e :: l, n + 1, h => by
    rw [chkE_cons] at h
    rw [List.drop_succ_cons]
    split at h
    · rename_i h1
      obtain ⟨a, b, c⟩ := one_ok h1
      exact chkE_low (chkE_drop n h) (by omega)
    · rename_i h1; exact absurd h h1
theorem fill_flat : ∀ (l : List En), (fill l).flatten = l := by
  have key : ∀ N (l : List En), l.length ≤ N → (fill l).flatten = l := by
    intro N
    induction N with
    | zero =>
      intro l hl
      obtain rfl := List.eq_nil_of_length_eq_zero (Nat.le_zero.1 hl)
      rfl
    | succ N ih =>
      intro l hl
      by_cases h : l = []
      · subst h; rfl
      · have h1 := nx_pos h
        rw [fill_nx h, List.flatten_cons, ih _ (by rw [List.length_drop]; omega), List.take_append_drop]
  exact fun l => key l.length l (Nat.le_refl _)
theorem pk_fits {l : List En} (h : chkE 0 l = 0) (h40 : l.length ≤ 40) (hs : sm l ≤ 244) : pkE l = 0 := by
  have hc : chk l = 0 := by unfold chk; rw [if_neg (by omega)]; exact h
  unfold pkE
  rw [if_pos hc, if_neg (by rw [bytes_len h40]; omega)]
theorem pk_many {l : List En} (h : chkE 0 l = 0) (h40 : l.length ≤ 40) (hs : 244 < sm l) : pkE l = 2 := by
  have hc : chk l = 0 := by unfold chk; rw [if_neg (by omega)]; exact h
  unfold pkE
  rw [if_pos hc, if_pos (by rw [bytes_len h40]; omega)]
/-- what is asked of each of the lists -/
def Nice (L : List (List En)) : Prop := ∀ i (h : i < L.length), L[i] ≠ [] ∧ pkE L[i] = 0 ∧ ∀ (h2 : i + 1 < L.length), ∃ e, L[i + 1].head? = some e ∧ pkE (L[i] ++ [e]) = 2
theorem fill_head {l : List En} (h : l ≠ []) : ∃ p L, fill l = p :: L ∧ p.head? = l.head? := by
  refine ⟨_, _, fill_nx h, ?_⟩
  have h1 := nx_pos h
  cases l with
  | nil => exact absurd rfl h
  | cons e l =>
    cases hn : nx (e :: l) with
    | zero => omega
    | succ n => rfl
theorem fill_nice : ∀ (l : List En), chkE 0 l = 0 → l.length ≤ 40 → (∀ e ∈ l, (eb e).length ≤ 244) → Nice (fill l) := by
  have key : ∀ N (l : List En), l.length ≤ N → chkE 0 l = 0 → l.length ≤ 40 → (∀ e ∈ l, (eb e).length ≤ 244) → Nice (fill l) := by
    intro N
    induction N with
    | zero =>
      intro l hl _ _ _
      obtain rfl := List.eq_nil_of_length_eq_zero (Nat.le_zero.1 hl)
      intro i h
      simp [fill, fl] at h
    | succ N ih =>
      intro l hl hc h40 he
      by_cases h : l = []
      · subst h
        intro i h
        simp [fill, fl] at h
      · have h1 := nx_pos h
        have h2 := nx_le l
        have h3 := nx_fits he
        have ih2 := ih (l.drop (nx l)) (by rw [List.length_drop]; omega) (chkE_drop _ hc) (by rw [List.length_drop]; omega) (fun e hm => he e (List.mem_of_mem_drop hm))
        rw [fill_nx h]
        intro i hi
        cases i with
        | zero =>
          refine ⟨?_, ?_, ?_⟩
          · intro e
            have := congrArg List.length e
            simp only [List.getElem_cons_zero, List.length_take, List.length_nil] at this
            omega
          · exact pk_fits (chkE_take _ hc) (by simp only [List.getElem_cons_zero, List.length_take]; omega) h3
          · intro h4
            have hd : l.drop (nx l) ≠ [] := by
              intro e
              rw [e] at h4
              simp [fill, fl] at h4
            have hlt : nx l < l.length := by
              have := List.length_pos_iff.2 hd
              rw [List.length_drop] at this
              omega
            obtain ⟨p, L, hp, hh⟩ := fill_head hd
            refine ⟨l[nx l], ?_, ?_⟩
            · simp only [List.getElem_cons_succ]
              have e1 : (fill (l.drop (nx l)))[0]'(by simpa using h4) = p := by simp [hp]
              rw [e1, hh, List.head?_drop, List.getElem?_eq_getElem hlt]
            · simp only [List.getElem_cons_zero]
              rw [← List.take_succ_eq_append_getElem hlt]
              exact pk_many (chkE_take _ hc) (by rw [List.length_take]; omega) (nx_max he (by omega) (by omega))
        | succ i =>
          have hi2 : i < (fill (l.drop (nx l))).length := by simpa using hi
          obtain ⟨a, b, c⟩ := ih2 i hi2
          refine ⟨by simpa using a, by simpa using b, ?_⟩
          intro h4
          have := c (by simpa using h4)
          simpa using this
  exact fun l => key l.length l (Nat.le_refl _)
end LF
end Go.Proofs.Ythpcdhnaibpjnaa
