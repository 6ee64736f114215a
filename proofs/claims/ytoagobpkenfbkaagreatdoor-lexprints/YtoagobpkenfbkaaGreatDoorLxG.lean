/-
  Tokens stand one behind the other; blanks and remarks at both ends are no matter.
-/
import Derived.Test.YtoagobpkenfbkaaGreatDoorLxF
namespace Go.Proofs.YtoagobpkenfbkaaGreatDoor
namespace LX
open VS (Bs dig)
set_option linter.unusedVariables false

theorem sk_t (b : UInt8) (r : Bs) : sk true (b :: r) = if b.toNat = 10 then sk false r + 1 else sk true r + 1 := by conv => lhs; unfold sk
theorem sk_f (b : UInt8) (r : Bs) : sk false (b :: r) = if blank b = true then sk false r + 1 else if b.toNat = 45 ∧ r.head? = some 45 then sk true r + 1 else 0 := by conv => lhs; unfold sk
theorem sk_nil (m : Bool) : sk m [] = 0 := by cases m <;> rfl
theorem sk_pos (b : UInt8) (r : Bs) : 0 < sk true (b :: r) := by rw [sk_t]; split <;> omega
theorem sk_cut : ∀ (u v : Bs) (m : Bool), sk m (u ++ v) ≤ u.length → sk m u = sk m (u ++ v)
  | [], v, m, h => by
    rw [List.nil_append] at h ⊢
    rw [sk_nil]
    simp at h
    exact h.symm
  | b :: u, v, true, h => by
    rw [List.cons_append, sk_t] at h ⊢
    rw [sk_t]
    split
    · rename_i hb
      rw [if_pos hb] at h
      rw [sk_cut u v false (by simp at h; omega)]
    · rename_i hb
      rw [if_neg hb] at h
      rw [sk_cut u v true (by simp at h; omega)]
  | b :: u, v, false, h => by
    rw [List.cons_append, sk_f] at h ⊢
    rw [sk_f]
    by_cases hb : blank b = true
    · rw [if_pos hb] at h ⊢
      rw [if_pos hb, sk_cut u v false (by simp at h; omega)]
    · rw [if_neg hb] at h ⊢
      rw [if_neg hb]
      by_cases hc : b.toNat = 45 ∧ (u ++ v).head? = some 45
      · rw [if_pos hc] at h
        cases u with
        | nil =>
          exfalso
          cases v with
          | nil => simp at hc
          | cons c v =>
            have := sk_pos c v
            rw [List.nil_append] at h
            simp at h
            omega
        | cons c u =>
          have hc' : b.toNat = 45 ∧ (c :: u).head? = some 45 := hc
          rw [if_pos hc', if_pos hc, sk_cut (c :: u) v true (by simp only [List.length_cons] at h ⊢; omega)]
      · have hc' : ¬ (b.toNat = 45 ∧ u.head? = some 45) := by
          rintro ⟨h1, h2⟩
          apply hc
          refine ⟨h1, ?_⟩
          cases u with
          | nil => cases h2
          | cons c u => exact h2
        rw [if_neg hc, if_neg hc']
/-- all of it skipped, and then what is behind it -/
theorem sk_all : ∀ (u v : Bs) (m : Bool), sk m u = u.length → sk true v = sk false v → (v.head? ≠ some 45) → sk m (u ++ v) = u.length + sk false v
  | [], v, m, _, hv, _ => by
    rw [List.nil_append]
    cases m
    · simp
    · rw [hv]; simp
  | b :: u, v, true, h, hv, h45 => by
    rw [sk_t] at h
    rw [List.cons_append, sk_t]
    split
    · rename_i hb
      rw [if_pos hb] at h
      rw [sk_all u v false (by simp at h; omega) hv h45]
      simp; omega
    · rename_i hb
      rw [if_neg hb] at h
      rw [sk_all u v true (by simp at h; omega) hv h45]
      simp; omega
  | b :: u, v, false, h, hv, h45 => by
    rw [sk_f] at h
    rw [List.cons_append, sk_f]
    by_cases hb : blank b = true
    · rw [if_pos hb] at h ⊢
      rw [sk_all u v false (by simp at h; omega) hv h45]
      simp; omega
    · rw [if_neg hb] at h ⊢
      by_cases hc : b.toNat = 45 ∧ u.head? = some 45
      · rw [if_pos hc] at h
        have hc' : b.toNat = 45 ∧ (u ++ v).head? = some 45 := by
          refine ⟨hc.1, ?_⟩
          cases u with
          | nil => cases hc.2
          | cons c u => exact hc.2
        rw [if_pos hc', sk_all u v true (by simp at h; omega) hv h45]
        simp; omega
      · rw [if_neg hc] at h
        simp at h
theorem sk_some : ∀ (u v : Bs) (m : Bool), sk m u < u.length → (v.head? ≠ some 45) → sk m (u ++ v) = sk m u
  | [], v, m, h, _ => by simp at h
  | b :: u, v, true, h, h45 => by
    rw [sk_t] at h ⊢
    rw [List.cons_append, sk_t]
    split
    · rename_i hb
      rw [if_pos hb] at h
      rw [sk_some u v false (by simp at h; omega) h45]
    · rename_i hb
      rw [if_neg hb] at h
      rw [sk_some u v true (by simp at h; omega) h45]
  | b :: u, v, false, h, h45 => by
    rw [sk_f] at h ⊢
    rw [List.cons_append, sk_f]
    by_cases hb : blank b = true
    · rw [if_pos hb] at h ⊢
      rw [if_pos hb, sk_some u v false (by simp at h; omega) h45]
    · rw [if_neg hb] at h ⊢
      rw [if_neg hb]
      by_cases hc : b.toNat = 45 ∧ u.head? = some 45
      · rw [if_pos hc] at h ⊢
        have hc' : b.toNat = 45 ∧ (u ++ v).head? = some 45 := by
          refine ⟨hc.1, ?_⟩
          cases u with
          | nil => cases hc.2
          | cons c u => exact hc.2
        rw [if_pos hc', sk_some u v true (by simp at h; omega) h45]
      · rw [if_neg hc]
        have hc' : ¬ (b.toNat = 45 ∧ (u ++ v).head? = some 45) := by
          rintro ⟨h1, h2⟩
          cases u with
          | nil => exact h45 h2
          | cons c u => exact hc ⟨h1, h2⟩
        rw [if_neg hc']
/-- where the skipping ends, nothing is to be skipped -/
theorem sk_stop : ∀ (l : Bs) (m : Bool), sk false (l.drop (sk m l)) = 0
  | [], m => by rw [sk_nil]; rfl
  | b :: r, true => by
    rw [sk_t]
    split
    · rw [List.drop_succ_cons]; exact sk_stop r false
    · rw [List.drop_succ_cons]; exact sk_stop r true
  | b :: r, false => by
    by_cases hb : blank b = true
    · rw [sk_f, if_pos hb, List.drop_succ_cons]; exact sk_stop r false
    · by_cases hc : b.toNat = 45 ∧ r.head? = some 45
      · rw [sk_f, if_neg hb, if_pos hc, List.drop_succ_cons]; exact sk_stop r true
      · have e : sk false (b :: r) = 0 := by rw [sk_f, if_neg hb, if_neg hc]
        rw [e, List.drop_zero, e]
/-- one step of reading -/
theorem go_step (f at_ : Nat) (l : Bs) (room : Nat) : go (f + 1) at_ l room = match l.drop (sk false l) with
    | [] => .ok []
    | b :: r => if room = 0 then .error (at_ + sk false l, 2)
      else match first (b :: r) with
        | .error e => .error (at_ + sk false l, e)
        | .ok (t, n) => match go f (at_ + sk false l + n) ((b :: r).drop n) (room - 1) with
          | .error e => .error e
          | .ok ts => .ok ((at_ + sk false l, t) :: ts) := by
  conv => lhs; unfold go
  simp only
  rw [skp_sk (l.length + 1) l (by omega)]
  rfl
theorem first_le {l : Bs} {t : Tk} {n : Nat} (h : first l = .ok (t, n)) : n ≤ l.length := by
  cases l with
  | nil => cases h
  | cons b r =>
    unfold first at h
    simp only at h
    split at h
    · obtain ⟨_, hs, hz⟩ := lit_ok (Or.inl rfl) h
      unfold qsize at *
      cases hx : qend r with
      | none => rw [hx] at hz; exact absurd rfl hz
      | some m =>
        rw [hx] at hs
        simp only at hs
        have := qend_le r.length r m (Nat.le_refl _) hx
        simp; omega
    · split at h
      · rename_i hx
        obtain ⟨_, hs, hz⟩ := lit_ok (Or.inr rfl) h
        have := bsize_is hz
        have h1 : r.tail.length < r.length := by
          cases r with
          | nil => simp at hx
          | cons c r => simp
        simp; omega
      · split at h
        · unfold word at h
          split at h
          · cases h
          · simp only [Except.ok.injEq, Prod.mk.injEq] at h
            have := run_le inWord (b :: r)
            omega
        · split at h
          · have := number_size h
            have := run_le dig (b :: r)
            omega
          · unfold sign at h
            split at h
            · rename_i p hp
              simp only [Except.ok.injEq, Prod.mk.injEq] at h
              have := List.find?_some hp
              unfold pre at this
              rw [List.isPrefixOf_iff_prefix] at this
              have := this.length_le
              omega
            · cases h
/-- a token read, taken apart -/
theorem go_cons {f at_ : Nat} {l : Bs} {room : Nat} {ps : List (Nat × Tk)} (h : go f at_ l room = .ok ps) :
    (ps = [] ∧ sk false l = l.length) ∨ ∃ f' t n ps', f = f' + 1 ∧ 0 < room ∧ sk false l + n ≤ l.length ∧ 0 < n ∧ first (l.drop (sk false l)) = .ok (t, n) ∧ go f' (at_ + sk false l + n) (l.drop (sk false l + n)) (room - 1) = .ok ps' ∧ ps = (at_ + sk false l, t) :: ps' := by
  cases f with
  | zero => cases h
  | succ f =>
    rw [go_step] at h
    have hle := sk_le false l
    split at h
    · rename_i hd
      cases h
      have := List.drop_eq_nil_iff.1 hd
      exact Or.inl ⟨rfl, by omega⟩
    · rename_i b r hd
      split at h
      · cases h
      · rename_i hroom
        split at h
        · cases h
        · rename_i t n hf
          split at h
          · cases h
          · rename_i ts hts
            cases h
            have hn := first_le hf
            rw [← hd, List.length_drop] at hn
            rw [← hd, List.drop_drop] at hts
            exact Or.inr ⟨f, t, n, ts, rfl, by omega, by omega, (first_ok hf).2, by rw [hd]; exact hf, hts, rfl⟩
theorem go_mk {f at_ : Nat} {l : Bs} {room : Nat} {t : Tk} {n : Nat} {ps : List (Nat × Tk)} (hr : 0 < room) (hf : first (l.drop (sk false l)) = .ok (t, n)) (h : go f (at_ + sk false l + n) (l.drop (sk false l + n)) (room - 1) = .ok ps) : go (f + 1) at_ l room = .ok ((at_ + sk false l, t) :: ps) := by
  rw [go_step]
  cases hd : l.drop (sk false l) with
  | nil => rw [hd] at hf; cases hf
  | cons b r =>
    simp only
    rw [if_neg (by omega), ← hd, hf]
    simp only
    rw [List.drop_drop, h]
theorem go_end {f at_ : Nat} {l : Bs} {room : Nat} (h : sk false l = l.length) : go (f + 1) at_ l room = .ok [] := by
  rw [go_step, h, List.drop_length]
/-- place, room and fuel are no matter for the tokens -/
theorem go_any : ∀ (ps : List (Nat × Tk)) (f at_ : Nat) (l : Bs) (room f' at' room' : Nat), go f at_ l room = .ok ps → ps.length ≤ room' → ps.length < f' → ∃ qs, go f' at' l room' = .ok qs ∧ qs.map (·.2) = ps.map (·.2)
  | [], f, at_, l, room, f', at', room', h, _, hf => by
    rcases go_cons h with ⟨_, h1⟩ | ⟨_, _, _, _, _, _, _, _, _, _, h1⟩
    · cases f' with
      | zero => simp at hf
      | succ f' => exact ⟨[], go_end h1, rfl⟩
    · cases h1
  | p :: ps, f, at_, l, room, f', at', room', h, hr, hf => by
    rcases go_cons h with ⟨h1, _⟩ | ⟨g, t, n, ps', _, _, _, _, h5, h6, h7⟩
    · cases h1
    · cases h7
      cases f' with
      | zero => simp at hf
      | succ f' =>
        simp only [List.length_cons] at hr hf
        obtain ⟨qs, q1, q2⟩ := go_any ps g _ _ _ f' (at' + sk false l + n) (room' - 1) h6 (by omega) (by omega)
        exact ⟨_, go_mk (by omega) h5 q1, by simp [q2]⟩
/-- from a token's place on -/
theorem go_from : ∀ (k : Nat) (ps : List (Nat × Tk)) (f at_ : Nat) (l : Bs) (room : Nat), go f at_ l room = .ok ps → (hk : k < ps.length) → ∃ f', at_ ≤ ps[k].1 ∧ ps[k].1 - at_ < l.length ∧ go f' ps[k].1 (l.drop (ps[k].1 - at_)) (room - k) = .ok (ps.drop k)
  | 0, ps, f, at_, l, room, h, hk => by
    rcases go_cons h with ⟨h1, _⟩ | ⟨g, t, n, ps', rfl, h2, h3, h4, h5, h6, h7⟩
    · subst h1; simp at hk
    · subst h7
      simp only [List.getElem_cons_zero, List.drop_zero]
      refine ⟨g + 1, by omega, by omega, ?_⟩
      have e : at_ + sk false l - at_ = sk false l := by omega
      rw [e]
      have hs := sk_stop l false
      have := go_mk (f := g) (at_ := at_ + sk false l) (l := l.drop (sk false l)) (room := room) (t := t) (n := n) (ps := ps') h2 (by rw [hs, List.drop_zero]; exact h5) (by rw [hs, Nat.add_zero, Nat.zero_add, List.drop_drop]; exact h6)
      rw [hs, Nat.add_zero] at this
      exact this
  | k + 1, ps, f, at_, l, room, h, hk => by
    rcases go_cons h with ⟨h1, _⟩ | ⟨g, t, n, ps', rfl, h2, h3, h4, h5, h6, h7⟩
    · subst h1; simp at hk
    · subst h7
      simp only [List.getElem_cons_succ, List.drop_succ_cons]
      obtain ⟨f', a1, a2, a3⟩ := go_from k ps' g _ _ _ h6 (by simpa using hk)
      rw [List.length_drop] at a2
      refine ⟨f', by omega, by omega, ?_⟩
      rw [List.drop_drop] at a3
      rw [show sk false l + n + ((ps'[k]'(by simpa using hk)).1 - (at_ + sk false l + n)) = (ps'[k]'(by simpa using hk)).1 - at_ by omega, show room - 1 - k = room - (k + 1) by omega] at a3
      exact a3
/-- up to a token's place -/
theorem go_upto : ∀ (k : Nat) (ps : List (Nat × Tk)) (f at_ : Nat) (l : Bs) (room : Nat), go f at_ l room = .ok ps → (hk : k < ps.length) → go f at_ (l.take (ps[k].1 - at_)) room = .ok (ps.take k)
  | 0, ps, f, at_, l, room, h, hk => by
    rcases go_cons h with ⟨h1, _⟩ | ⟨g, t, n, ps', rfl, h2, h3, h4, h5, h6, h7⟩
    · subst h1; simp at hk
    · subst h7
      simp only [List.getElem_cons_zero, List.take_zero]
      have e : at_ + sk false l - at_ = sk false l := by omega
      rw [e]
      apply go_end
      have hl : (l.take (sk false l)).length = sk false l := by rw [List.length_take]; omega
      have := sk_cut (l.take (sk false l)) (l.drop (sk false l)) false (by rw [List.take_append_drop, hl]; exact Nat.le_refl _)
      rw [List.take_append_drop] at this
      rw [this, hl]
  | k + 1, ps, f, at_, l, room, h, hk => by
    rcases go_cons h with ⟨h1, _⟩ | ⟨g, t, n, ps', rfl, h2, h3, h4, h5, h6, h7⟩
    · subst h1; simp at hk
    · subst h7
      simp only [List.getElem_cons_succ, List.take_succ_cons]
      have hk' : k < ps'.length := by simpa using hk
      have ih := go_upto k ps' g _ _ _ h6 hk'
      obtain ⟨_, a1, a2, _⟩ := go_from k ps' g _ _ _ h6 hk'
      rw [List.length_drop] at a2
      generalize (ps'[k]).1 = P at *
      have hl : (l.take (P - at_)).length = P - at_ := by rw [List.length_take]; omega
      have hsk : sk false (l.take (P - at_)) = sk false l := by
        have := sk_cut (l.take (P - at_)) (l.drop (P - at_)) false (by rw [List.take_append_drop, hl]; omega)
        rw [List.take_append_drop] at this
        exact this
      have hfst : first ((l.take (P - at_)).drop (sk false l)) = .ok (t, n) := by
        have e : l.drop (sk false l) = (l.take (P - at_)).drop (sk false l) ++ l.drop (P - at_) := by
          rw [← List.drop_append_of_le_length (by rw [hl]; omega), List.take_append_drop]
        rw [e] at h5
        exact first_cut h5 (by rw [List.length_drop, hl]; omega)
      have := go_mk (f := g) (at_ := at_) (l := l.take (P - at_)) (room := room) (t := t) (n := n) (ps := ps'.take k) h2 (by rw [hsk]; exact hfst) (by
        rw [hsk, List.drop_take, show P - at_ - (sk false l + n) = P - (at_ + sk false l + n) by omega]
        exact ih)
      rw [hsk] at this
      exact this
end LX
end Go.Proofs.YtoagobpkenfbkaaGreatDoor
