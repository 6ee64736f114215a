/-
  A token that is shown is read as it was.
-/
import Derived.Test.YtoagobpkenfbkaaGreatDoorLxM
namespace Go.Proofs.YtoagobpkenfbkaaGreatDoor
namespace LX
open VS (Bs dig)
set_option linter.unusedVariables false

/-- nothing, or a blank -/
def Ends (r : Bs) : Prop := r = [] ∨ ∃ b t, r = b :: t ∧ blank b = true
theorem blank_iff {b : UInt8} : blank b = true ↔ b.toNat = 32 ∨ b.toNat = 9 ∨ b.toNat = 10 ∨ b.toNat = 13 := by
  unfold blank
  rw [Bool.or_eq_true, Bool.or_eq_true, Bool.or_eq_true, decide_eq_true_eq, decide_eq_true_eq, decide_eq_true_eq, decide_eq_true_eq]
  omega
theorem dig_iff {b : UInt8} : dig b = true ↔ 48 ≤ b.toNat ∧ b.toNat ≤ 57 := by
  unfold VS.dig
  rw [Bool.and_eq_true, decide_eq_true_eq, decide_eq_true_eq]
theorem small_iff {b : UInt8} : small b = true ↔ (97 ≤ b.toNat ∧ b.toNat ≤ 122) ∨ b.toNat = 95 := by
  unfold small
  rw [Bool.or_eq_true, Bool.and_eq_true, decide_eq_true_eq, decide_eq_true_eq, decide_eq_true_eq]
theorem great_iff {b : UInt8} : great b = true ↔ 65 ≤ b.toNat ∧ b.toNat ≤ 90 := by
  unfold great
  rw [Bool.and_eq_true, decide_eq_true_eq, decide_eq_true_eq]
theorem letter_iff {b : UInt8} : letter b = true ↔ (97 ≤ b.toNat ∧ b.toNat ≤ 122) ∨ b.toNat = 95 ∨ (65 ≤ b.toNat ∧ b.toNat ≤ 90) := by
  unfold letter
  rw [Bool.or_eq_true, small_iff, great_iff]
  omega
theorem inWord_iff {b : UInt8} : inWord b = true ↔ (97 ≤ b.toNat ∧ b.toNat ≤ 122) ∨ b.toNat = 95 ∨ (65 ≤ b.toNat ∧ b.toNat ≤ 90) ∨ (48 ≤ b.toNat ∧ b.toNat ≤ 57) := by
  unfold inWord
  rw [Bool.or_eq_true, letter_iff, dig_iff]
  omega
theorem hexd_iff {b : UInt8} : hexd b = true ↔ (48 ≤ b.toNat ∧ b.toNat ≤ 57) ∨ (97 ≤ b.toNat ∧ b.toNat ≤ 102) ∨ (65 ≤ b.toNat ∧ b.toNat ≤ 70) := by
  unfold hexd
  rw [Bool.or_eq_true, Bool.or_eq_true, Bool.and_eq_true, Bool.and_eq_true, dig_iff, decide_eq_true_eq, decide_eq_true_eq, decide_eq_true_eq, decide_eq_true_eq]
  omega
theorem low_same {b : UInt8} (h : great b = false) : low b = b := by
  unfold low
  rw [if_neg (by rw [h]; decide)]
theorem not_true {b : Bool} (h : ¬ b = true) : b = false := by cases b; rfl; exact absurd rfl h
/-- a run of what is wanted, and what is behind it is not -/
theorem run_all (p : UInt8 → Bool) : ∀ (l r : Bs), (∀ b ∈ l, p b = true) → (r = [] ∨ ∃ b t, r = b :: t ∧ p b = false) → run p (l ++ r) = l.length
  | [], r, _, hr => by
    rcases hr with rfl | ⟨b, t, rfl, hb⟩
    · rfl
    · show (if p b = true then run p t + 1 else 0) = 0
      rw [if_neg (by rw [hb]; decide)]
  | b :: l, r, hl, hr => by
    show (if p b = true then run p (l ++ r) + 1 else 0) = (b :: l).length
    rw [if_pos (hl b (by simp)), run_all p l r (fun c hc => hl c (by simp [hc])) hr]
    rfl
theorem ends_not {r : Bs} (h : Ends r) (p : UInt8 → Bool) (hp : ∀ b, blank b = true → p b = false) : r = [] ∨ ∃ b t, r = b :: t ∧ p b = false := by
  rcases h with h | ⟨b, t, h, hb⟩
  · exact Or.inl h
  · exact Or.inr ⟨b, t, h, hp b hb⟩
theorem ends_head {r : Bs} (h : Ends r) : r.head? ≠ some 39 := by
  rcases h with rfl | ⟨b, t, rfl, hb⟩
  · simp
  · simp only [List.head?_cons, ne_eq, Option.some.injEq]
    rintro rfl
    revert hb
    decide

theorem qend_dbl (s r : Bs) (h : r.head? ≠ some 39) : qend (s.flatMap VS.dbl ++ 39 :: r) = some ((s.flatMap VS.dbl).length + 1) := by
  induction s with
  | nil =>
    show qend (39 :: r) = some 1
    cases r with
    | nil => rfl
    | cons c t =>
      have hc : c.toNat ≠ 39 := fun e => h (by rw [UInt8.toNat_inj.1 (show c.toNat = (39 : UInt8).toNat from e)]; rfl)
      unfold qend
      rw [if_pos (by rfl), if_neg hc]
  | cons b s ih =>
    rw [List.flatMap_cons]
    by_cases hb : b.toNat = 39
    · have e : VS.dbl b = [39, 39] := if_pos hb
      rw [e]
      show qend (39 :: 39 :: (s.flatMap VS.dbl ++ 39 :: r)) = _
      unfold qend
      rw [if_pos (by rfl), if_pos (by rfl), ih]
      simp
    · have e : VS.dbl b = [b] := if_neg hb
      rw [e]
      have : ∃ c u, s.flatMap VS.dbl ++ 39 :: r = c :: u := by
        cases hq : s.flatMap VS.dbl ++ 39 :: r with
        | nil => simp at hq
        | cons c u => exact ⟨c, u, rfl⟩
      obtain ⟨c, u, hcu⟩ := this
      show qend (b :: (s.flatMap VS.dbl ++ 39 :: r)) = _
      rw [hcu]
      unfold qend
      rw [if_neg hb, ← hcu, ih]
      simp
theorem hx_hexd (b c : UInt8) (h : c ∈ VS.hx b) : hexd c = true ∧ great c = false := by
  have key : ∀ n : Fin 16, hexd (VS.hxd n.val) = true ∧ great (VS.hxd n.val) = false := by decide
  unfold VS.hx at h
  have hb := b.toNat_lt
  rcases List.mem_cons.1 h with rfl | h
  · exact key ⟨b.toNat / 16, by omega⟩
  · simp at h
    subst h
    exact key ⟨b.toNat % 16, by omega⟩

theorem back_text (s r : Bs) (hl : s.length ≤ 16) (h : Ends r) : first (VS.shw 2 0 s ++ r) = .ok (⟨3, 0, s⟩, (VS.shw 2 0 s).length) := by
  have e : VS.shw 2 0 s = 39 :: (s.flatMap VS.dbl ++ [39]) := rfl
  have hrd := VS.rd_shw 2 0 s (by omega) (fun _ => rfl) (fun h => absurd (Or.inl rfl) h) hl (by omega) (by omega)
  have hq : qsize (s.flatMap VS.dbl ++ [39] ++ r) = (VS.shw 2 0 s).length := by
    unfold qsize
    rw [List.append_assoc, List.singleton_append, qend_dbl s r (ends_head h), e]
    simp
  have e2 : VS.shw 2 0 s ++ r = 39 :: (s.flatMap VS.dbl ++ [39] ++ r) := by rw [e]; rfl
  rw [e2]
  unfold first
  simp only
  rw [if_pos (by rfl), hq, ← e2]
  unfold lit
  simp only
  rw [if_neg (show ¬ (3 : Int) = 4 by decide), List.take_left' rfl, hrd]
  rfl
theorem back_blob (s r : Bs) (hl : s.length ≤ 16) (h : Ends r) : first (VS.shw 3 0 s ++ r) = .ok (⟨4, 0, s⟩, (VS.shw 3 0 s).length) := by
  have e : VS.shw 3 0 s = 120 :: 39 :: (s.flatMap VS.hx ++ [39]) := rfl
  have hrd := VS.rd_shw 3 0 s (by omega) (fun _ => rfl) (fun h => absurd (Or.inr rfl) h) hl (by omega) (by omega)
  have hall : ∀ c ∈ s.flatMap VS.hx, hexd c = true ∧ great c = false := by
    intro c hc
    obtain ⟨b, _, hb⟩ := List.mem_flatMap.1 hc
    exact hx_hexd b c hb
  have hr : run hexd (s.flatMap VS.hx ++ 39 :: r) = (s.flatMap VS.hx).length := run_all hexd _ _ (fun c hc => (hall c hc).1) (Or.inr ⟨39, r, rfl, by decide⟩)
  have hq : bsize (s.flatMap VS.hx ++ [39] ++ r) = (VS.shw 3 0 s).length := by
    unfold bsize
    rw [List.append_assoc, List.singleton_append, hr, List.drop_left' rfl, e]
    simp
  have e2 : VS.shw 3 0 s ++ r = 120 :: (39 :: (s.flatMap VS.hx ++ [39] ++ r)) := by rw [e]; rfl
  have hlow : (VS.shw 3 0 s).map low = VS.shw 3 0 s := by
    have : ∀ c ∈ VS.shw 3 0 s, low c = c := by
      intro c hc
      apply low_same
      rw [e] at hc
      rcases List.mem_cons.1 hc with rfl | hc
      · decide
      · rcases List.mem_cons.1 hc with rfl | hc
        · decide
        · rcases List.mem_append.1 hc with hc | hc
          · exact (hall c hc).2
          · simp at hc; subst hc; decide
    calc (VS.shw 3 0 s).map low = (VS.shw 3 0 s).map id := List.map_congr_left this
      _ = _ := by simp
  rw [e2]
  unfold first
  simp only
  rw [if_neg (by decide), if_pos ⟨Or.inl (by rfl), rfl⟩, List.tail_cons, hq, ← e2]
  unfold lit
  simp only [if_true]
  rw [List.take_left' rfl, hlow, hrd]
  rfl
theorem back_number (n : Int) (r : Bs) (h0 : 0 ≤ n) (h1 : n ≤ 9223372036854775807) (h : Ends r) : first (VS.shw 1 n [] ++ r) = .ok (⟨2, n, []⟩, (VS.shw 1 n []).length) := by
  have e : VS.shw 1 n [] = Lib.decDigits n.toNat := by
    show Lib.itoa n = _
    unfold Lib.itoa
    rw [if_neg (by omega)]
  have hrd := VS.rd_shw 1 n [] (by omega) (fun h => absurd rfl h) (fun _ => rfl) (by simp) (by omega) h1
  obtain ⟨hd, _, b, t, hbt, _⟩ := VS.dec_facts n.toNat
  have hall : ∀ c ∈ VS.shw 1 n [], dig c = true := by rw [e]; exact fun c hc => (List.all_eq_true.1 hd) c hc
  have hb := dig_iff.1 (hall b (by rw [e, hbt]; simp))
  have hrun : run dig (VS.shw 1 n [] ++ r) = (VS.shw 1 n []).length := run_all dig _ _ hall (ends_not h _ (fun c hc => not_true (fun hd => by have := dig_iff.1 hd; have := blank_iff.1 hc; omega)))
  have e2 : ∃ u, VS.shw 1 n [] ++ r = b :: u := ⟨t ++ r, by rw [e, hbt]; rfl⟩
  obtain ⟨u, hu⟩ := e2
  have hf : first (VS.shw 1 n [] ++ r) = number (VS.shw 1 n [] ++ r) := by
    rw [hu]
    unfold first
    simp only
    rw [if_neg (by omega), if_neg (by rintro ⟨h, _⟩; omega), if_neg (fun hl => by have := letter_iff.1 hl; omega), if_pos (dig_iff.2 hb)]
  rw [hf]
  unfold number
  rw [hrun, List.drop_left' rfl, List.take_left' rfl, hrd]
  rcases h with rfl | ⟨c, t', rfl, hc⟩
  · rfl
  · simp only
    rw [if_neg (fun hl => by have := letter_iff.1 hl; have := blank_iff.1 hc; omega)]
    rfl
theorem back_word (s r : Bs) (hc : chkWord s = 0) (h : Ends r) : first (s ++ r) = .ok (⟨1, 0, s⟩, s.length) := by
  cases s with
  | nil => exact absurd hc (by decide)
  | cons b s =>
    unfold chkWord at hc
    simp only at hc
    split at hc
    · rename_i hb
      obtain ⟨hb, hall⟩ := hb
      split at hc
      · cases hc
      · rename_i hlen
        rw [List.all_eq_true] at hall
        have hw : ∀ c ∈ b :: s, inWord c = true ∧ low c = c := by
          intro c hc
          have := hall c hc
          rw [Bool.or_eq_true, small_iff, dig_iff] at this
          refine ⟨inWord_iff.2 (by omega), low_same (not_true (fun hg => by have := great_iff.1 hg; omega))⟩
        have hrun : run inWord (b :: s ++ r) = (b :: s).length := run_all inWord _ _ (fun c hc => (hw c hc).1) (ends_not h _ (fun c hc => not_true (fun hd => by have := inWord_iff.1 hd; have := blank_iff.1 hc; omega)))
        have hbs := small_iff.1 hb
        have hh : ¬ ((b.toNat = 120 ∨ b.toNat = 88) ∧ (s ++ r).head? = some 39) := by
          rintro ⟨_, hh⟩
          cases s with
          | nil => exact ends_head h hh
          | cons c s =>
            simp only [List.cons_append, List.head?_cons, Option.some.injEq] at hh
            subst hh
            have := inWord_iff.1 (hw 39 (by simp)).1
            revert this
            decide
        show first (b :: (s ++ r)) = _
        unfold first
        simp only
        rw [if_neg (by omega), if_neg hh, if_pos (letter_iff.2 (by omega))]
        show word (b :: s ++ r) = _
        unfold word
        rw [hrun, if_neg hlen, List.take_left' rfl]
        have : (b :: s).map low = b :: s := by
          calc (b :: s).map low = (b :: s).map id := List.map_congr_left (fun c hc => (hw c hc).2)
            _ = _ := by simp
        rw [this]
    · cases hc
theorem blank_is {b : UInt8} (h : blank b = true) : b = 32 ∨ b = 9 ∨ b = 10 ∨ b = 13 := by
  rcases blank_iff.1 h with h | h | h | h
  · exact Or.inl (UInt8.toNat_inj.1 h)
  · exact Or.inr (Or.inl (UInt8.toNat_inj.1 h))
  · exact Or.inr (Or.inr (Or.inl (UInt8.toNat_inj.1 h)))
  · exact Or.inr (Or.inr (Or.inr (UInt8.toNat_inj.1 h)))
theorem back_sign (s r : Bs) (hs : s ∈ signs) (h : Ends r) : first (s ++ r) = .ok (⟨5, 0, s⟩, s.length) := by
  have key : ∀ u : Bs, (u = [] ∨ (∃ t, u = 32 :: t) ∨ (∃ t, u = 9 :: t) ∨ (∃ t, u = 10 :: t) ∨ ∃ t, u = 13 :: t) → first (s ++ u) = .ok (⟨5, 0, s⟩, s.length) := by
    unfold signs at hs
    simp only [List.mem_cons, List.not_mem_nil, or_false] at hs
    rcases hs with rfl | rfl | rfl | rfl | rfl | rfl | rfl | rfl | rfl | rfl | rfl | rfl | rfl | rfl | rfl <;>
      (rintro u (rfl | ⟨t, rfl⟩ | ⟨t, rfl⟩ | ⟨t, rfl⟩ | ⟨t, rfl⟩) <;> rfl)
  rcases h with rfl | ⟨b, t, rfl, hb⟩
  · exact key [] (Or.inl rfl)
  · rcases blank_is hb with rfl | rfl | rfl | rfl
    · exact key _ (Or.inr (Or.inl ⟨t, rfl⟩))
    · exact key _ (Or.inr (Or.inr (Or.inl ⟨t, rfl⟩)))
    · exact key _ (Or.inr (Or.inr (Or.inr (Or.inl ⟨t, rfl⟩))))
    · exact key _ (Or.inr (Or.inr (Or.inr (Or.inr ⟨t, rfl⟩))))
/-- a right token -/
def Ok (t : Tk) : Prop := chk t = 0 ∧ t.n ≤ 9223372036854775807
theorem back_one (t : Tk) (r : Bs) (ht : Ok t) (h : Ends r) : first (shw t ++ r) = .ok (t, (shw t).length) := by
  obtain ⟨hc, hn⟩ := ht
  obtain ⟨k, n, s⟩ := t
  simp only at hn
  unfold chk at hc
  simp only at hc
  split at hc
  · cases hc
  · rename_i hk
    split at hc
    · cases hc
    · rename_i hf
      unfold shw
      simp only
      split at hc
      · rename_i h1
        subst h1
        obtain rfl : n = 0 := by
          by_cases h0 : n = 0
          · exact h0
          · exact absurd (Or.inl ⟨h0, by decide⟩) hf
        rw [if_pos (Or.inl rfl)]
        exact back_word s r hc h
      · rename_i h1
        split at hc
        · rename_i h2
          subst h2
          obtain rfl : s = [] := by
            by_cases h0 : s = []
            · exact h0
            · exact absurd (Or.inr ⟨h0, rfl⟩) hf
          split at hc
          · cases hc
          · rename_i hn0
            rw [if_neg (by decide), if_pos rfl]
            exact back_number n r (by omega) hn h
        · rename_i h2
          obtain rfl : n = 0 := by
            by_cases h0 : n = 0
            · exact h0
            · exact absurd (Or.inl ⟨h0, h2⟩) hf
          split at hc
          · rename_i h5
            subst h5
            split at hc
            · rename_i hs
              rw [if_pos (Or.inr rfl)]
              exact back_sign s r hs h
            · cases hc
          · rename_i h5
            split at hc
            · cases hc
            · rename_i h16
              rw [if_neg (by omega), if_neg h2]
              obtain rfl | rfl : k = 3 ∨ k = 4 := by omega
              · rw [if_pos rfl]
                exact back_text s r (by omega) h
              · rw [if_neg (by decide)]
                exact back_blob s r (by omega) h
end LX
end Go.Proofs.YtoagobpkenfbkaaGreatDoor
