/-
  The pieces of an escaped text, and of a part of a text.
-/
import Derived.Test.YtgjgmaadogkjfaaDoorLkMath2
namespace Go.Proofs.YtgjgmaadogkjfaaDoor
namespace LK

/-- a byte that goes on with a letter -/
def ct (b : UInt8) : Bool := decide (128 ≤ b.toNat) && decide (b.toNat ≤ 191)
def cr (l : Bs) : Bs := l.takeWhile ct

theorem inr_zero (b : UInt8) (l : Bs) (lo hi : Nat) : inr (b :: l) 0 lo hi = (decide (lo ≤ b.toNat) && decide (b.toNat ≤ hi)) := rfl
theorem inr_succ (b : UInt8) (l : Bs) (i lo hi : Nat) : inr (b :: l) (i + 1) lo hi = inr l i lo hi := by simp [inr]
theorem inr_s1 (b : UInt8) (l : Bs) (lo hi : Nat) : inr (b :: l) 1 lo hi = inr l 0 lo hi := inr_succ b l 0 lo hi
theorem inr_s2 (b : UInt8) (l : Bs) (lo hi : Nat) : inr (b :: l) 2 lo hi = inr l 1 lo hi := inr_succ b l 1 lo hi
theorem inr_s3 (b : UInt8) (l : Bs) (lo hi : Nat) : inr (b :: l) 3 lo hi = inr l 2 lo hi := inr_succ b l 2 lo hi
theorem inr_nil (i lo hi : Nat) : inr [] i lo hi = false := rfl
theorem inr_nct {b : UInt8} (h : ct b = false) (l : Bs) (lo hi : Nat) (h1 : 128 ≤ lo) (h2 : hi ≤ 191) : inr (b :: l) 0 lo hi = false := by
  rw [inr_zero]
  unfold ct at h
  simp only [Bool.and_eq_false_iff, decide_eq_false_iff_not] at h ⊢
  omega
/-- a test at the first byte behind sees the run of goers-on alone -/
theorem inr_cr0 (l : Bs) (lo hi : Nat) (h1 : 128 ≤ lo) (h2 : hi ≤ 191) : inr (cr l) 0 lo hi = inr l 0 lo hi := by
  cases l with
  | nil => rfl
  | cons b l =>
    cases hb : ct b with
    | true => simp [cr, hb, inr]
    | false =>
      rw [inr_nct hb l lo hi h1 h2]
      simp [cr, hb, inr]
theorem ct_of_inr {b : UInt8} {l : Bs} {lo hi : Nat} (h1 : 128 ≤ lo) (h2 : hi ≤ 191) (h : inr (b :: l) 0 lo hi = true) : ct b = true := by
  cases hb : ct b with
  | true => rfl
  | false => rw [inr_nct hb l lo hi h1 h2] at h; cases h
theorem inr_cr1 (l : Bs) (lo hi lo' hi' : Nat) (h1 : 128 ≤ lo) (h2 : hi ≤ 191) (h3 : 128 ≤ lo') (h4 : hi' ≤ 191) : (inr (cr l) 0 lo hi && inr (cr l) 1 lo' hi') = (inr l 0 lo hi && inr l 1 lo' hi') := by
  rw [inr_cr0 l lo hi h1 h2]
  cases l with
  | nil => rfl
  | cons b l =>
    cases h : inr (b :: l) 0 lo hi with
    | false => rfl
    | true =>
      have hb := ct_of_inr h1 h2 h
      have e : cr (b :: l) = b :: cr l := by simp [cr, hb]
      rw [e, inr_succ, inr_succ, inr_cr0 l lo' hi' h3 h4]
theorem inr_cr2 (l : Bs) (lo hi lo' hi' lo'' hi'' : Nat) (h1 : 128 ≤ lo) (h2 : hi ≤ 191) (h3 : 128 ≤ lo') (h4 : hi' ≤ 191) (h5 : 128 ≤ lo'') (h6 : hi'' ≤ 191) :
    (inr (cr l) 0 lo hi && (inr (cr l) 1 lo' hi' && inr (cr l) 2 lo'' hi'')) = (inr l 0 lo hi && (inr l 1 lo' hi' && inr l 2 lo'' hi'')) := by
  rw [inr_cr0 l lo hi h1 h2]
  cases l with
  | nil => rfl
  | cons b l =>
    cases h : inr (b :: l) 0 lo hi with
    | false => rfl
    | true =>
      have hb := ct_of_inr h1 h2 h
      have e : cr (b :: l) = b :: cr l := by simp [cr, hb]
      rw [e, inr_succ, inr_succ, inr_succ, inr_succ, inr_cr1 l lo' hi' lo'' hi'' h3 h4 h5 h6]
theorem sz_if (l : Bs) : sz l = if (inr l 0 194 223 && inr l 1 128 191) = true then 2
    else if ((inr l 0 224 224 && (inr l 1 160 191 && inr l 2 128 191)) || (inr l 0 225 236 && (inr l 1 128 191 && inr l 2 128 191)) || (inr l 0 237 237 && (inr l 1 128 159 && inr l 2 128 191)) || (inr l 0 238 239 && (inr l 1 128 191 && inr l 2 128 191))) = true then 3
    else if ((inr l 0 240 240 && (inr l 1 144 191 && (inr l 2 128 191 && inr l 3 128 191))) || (inr l 0 241 243 && (inr l 1 128 191 && (inr l 2 128 191 && inr l 3 128 191))) || (inr l 0 244 244 && (inr l 1 128 143 && (inr l 2 128 191 && inr l 3 128 191)))) = true then 4 else 1 := by
  unfold sz sec3 sec4
  simp only [Bool.and_eq_true, Bool.or_eq_true, or_and_right, and_assoc]
/-- how long a piece is hangs on its first byte and the goers-on behind it -/
theorem sz_cr (b : UInt8) (l : Bs) : sz (b :: cr l) = sz (b :: l) := by
  rw [sz_if, sz_if]
  simp only [inr_zero, inr_s1, inr_s2, inr_s3]
  rw [inr_cr2 l 144 191 128 191 128 191 (by decide) (by decide) (by decide) (by decide) (by decide) (by decide), inr_cr2 l 128 191 128 191 128 191 (by decide) (by decide) (by decide) (by decide) (by decide) (by decide), inr_cr2 l 128 143 128 191 128 191 (by decide) (by decide) (by decide) (by decide) (by decide) (by decide), inr_cr1 l 160 191 128 191 (by decide) (by decide) (by decide) (by decide), inr_cr1 l 128 191 128 191 (by decide) (by decide) (by decide) (by decide), inr_cr1 l 128 159 128 191 (by decide) (by decide) (by decide) (by decide), inr_cr0 l 128 191 (by decide) (by decide)]

/-- a byte that begins no letter is a piece by itself -/
theorem sz_low (b : UInt8) (l : Bs) (h : b.toNat < 194) : sz (b :: l) = 1 := by
  have hz : ∀ lo hi : Nat, 194 ≤ lo → inr (b :: l) 0 lo hi = false := fun lo hi hl => by
    rw [inr_zero]
    simp only [Bool.and_eq_false_iff, decide_eq_false_iff_not]
    omega
  rw [sz_if]
  rw [hz 194 223 (by decide), hz 224 224 (by decide), hz 225 236 (by decide), hz 237 237 (by decide), hz 238 239 (by decide), hz 240 240 (by decide), hz 241 243 (by decide), hz 244 244 (by decide)]
  rfl
theorem pc_low (b : UInt8) (l : Bs) (h : b.toNat < 194) : pc (b :: l) = [b] :: pc l := by
  rw [pc_cons (by simp), sz_low b l h]; rfl

theorem inr_app {l m : Bs} {k i : Nat} (hi : i < k) (hk : k ≤ l.length) (lo hi' : Nat) : inr (l.take k ++ m) i lo hi' = inr l i lo hi' := by
  unfold inr
  rw [List.getElem?_append_left (by rw [List.length_take]; omega), List.getElem?_take, if_pos hi]
/-- a letter stays one, whatever stands behind it -/
theorem sz_keep {l : Bs} (h : 2 ≤ sz l) (m : Bs) : sz (l.take (sz l) ++ m) = sz l := by
  have hne : l ≠ [] := by intro e; subst e; exact absurd h (by decide)
  have hk := sz_len hne
  have key : ∀ k, sz l = k → sz (l.take k ++ m) = k := by
    intro k hkk
    rw [hkk] at h hk
    have a0 : ∀ lo hi, inr (l.take k ++ m) 0 lo hi = inr l 0 lo hi := fun lo hi => inr_app (by omega) hk lo hi
    have a1 : ∀ lo hi, inr (l.take k ++ m) 1 lo hi = inr l 1 lo hi := fun lo hi => inr_app (by omega) hk lo hi
    unfold sz at hkk ⊢
    unfold sec3 sec4 at hkk ⊢
    simp only [a0, a1]
    split at hkk
    · rename_i h1; rw [if_pos h1]; exact hkk
    · rename_i h1
      rw [if_neg h1]
      split at hkk
      · rename_i h2
        have a2 : ∀ lo hi, inr (l.take k ++ m) 2 lo hi = inr l 2 lo hi := fun lo hi => inr_app (by omega) hk lo hi
        simp only [a2]
        rw [if_pos h2]; exact hkk
      · rename_i h2
        split at hkk
        · rename_i h3
          have a2 : ∀ lo hi, inr (l.take k ++ m) 2 lo hi = inr l 2 lo hi := fun lo hi => inr_app (by omega) hk lo hi
          have a3 : ∀ lo hi, inr (l.take k ++ m) 3 lo hi = inr l 3 lo hi := fun lo hi => inr_app (by omega) hk lo hi
          simp only [a2, a3]
          rw [if_neg h2, if_pos h3]; exact hkk
        · omega
  exact key _ rfl
theorem sz_alone (l : Bs) (h : l ≠ []) : sz (l.take (sz l)) = sz l := by
  by_cases h2 : 2 ≤ sz l
  · have := sz_keep h2 []
    rwa [List.append_nil] at this
  · have h1 := sz_pos l
    obtain ⟨e⟩ : Nonempty (sz l = 1) := ⟨by omega⟩
    rw [e]
    cases l with
    | nil => exact absurd rfl h
    | cons b l =>
      show sz [b] = 1
      rw [sz_if]
      simp [inr]
/-- a piece is its only piece -/
theorem pc_one {l x : Bs} (h : x ∈ pc l) : pc x = [x] ∧ 1 ≤ x.length := by
  have key : ∀ l, ∀ x ∈ pc l, pc x = [x] ∧ 1 ≤ x.length := by
    refine pc_ind (Q := fun l => ∀ x ∈ pc l, pc x = [x] ∧ 1 ≤ x.length) (by simp [pc_nil]) (fun l hl ih x hx => ?_)
    rw [pc_cons hl, List.mem_cons] at hx
    rcases hx with rfl | hx
    · have h1 := sz_pos l
      have h2 := sz_len hl
      have hlen : (l.take (sz l)).length = sz l := by rw [List.length_take]; omega
      have hne : l.take (sz l) ≠ [] := by intro e; rw [e] at hlen; simp at hlen; omega
      rw [pc_cons hne, sz_alone l hl]
      refine ⟨?_, by omega⟩
      rw [List.take_of_length_le (by omega), List.drop_eq_nil_of_le (by omega), pc_nil]
    · exact ih x hx
  exact key l x h

theorem kd_ne {x : Bs} (h : kd x ≠ 97) : ∃ b r, x = b :: r ∧ b.toNat < 128 := by
  cases x with
  | nil => exact absurd rfl h
  | cons b r =>
    refine ⟨b, r, rfl, ?_⟩
    unfold kd at h
    simp only at h
    split at h
    · omega
    · split at h
      · omega
      · split at h
        · omega
        · exact absurd rfl h
theorem esc_cons (x : Bs) (l : List Bs) : esc (x :: l) = (if kd x = 97 then x else 92 :: x) ++ esc l := by simp [esc]
/-- escapes leave the goers-on at the beginning as they are -/
theorem cr_esc (l : Bs) : cr (esc (pc l)) = cr l := by
  refine pc_ind (Q := fun l => cr (esc (pc l)) = cr l) rfl (fun l hl ih => ?_) l
  obtain ⟨b, r, rfl⟩ : ∃ b r, l = b :: r := by
    cases l with
    | nil => exact absurd rfl hl
    | cons b r => exact ⟨b, r, rfl⟩
  rw [pc_cons hl, esc_cons]
  cases hb : ct b with
  | true =>
    have hlow : b.toNat < 194 := by unfold ct at hb; simp at hb; omega
    have e1 : sz (b :: r) = 1 := sz_low b r hlow
    rw [e1] at ih ⊢
    have hk : kd ((b :: r).take 1) = 97 := by
      have hb2 : 128 ≤ b.toNat := by unfold ct at hb; simp at hb; omega
      show kd [b] = 97
      unfold kd
      simp only
      rw [if_neg (by omega), if_neg (by omega), if_neg (by omega)]
    rw [if_pos hk]
    show cr (b :: esc (pc r)) = cr (b :: r)
    have ih' : cr (esc (pc r)) = cr r := ih
    have e2 : cr (b :: esc (pc r)) = b :: cr (esc (pc r)) := by simp [cr, hb]
    have e3 : cr (b :: r) = b :: cr r := by simp [cr, hb]
    rw [e2, e3, ih']
  | false =>
    have e3 : cr (b :: r) = [] := by simp [cr, hb]
    rw [e3]
    obtain ⟨k, hk⟩ : ∃ k, sz (b :: r) = k + 1 := ⟨sz (b :: r) - 1, by have := sz_pos (b :: r); omega⟩
    rw [hk, List.take_succ_cons]
    split
    · simp [cr, hb]
    · have : ct 92 = false := by decide
      simp [cr, this]
/-- the pieces of an escaped text -/
theorem pc_esc (l : Bs) : pc (esc (pc l)) = (pc l).flatMap fun x => if kd x = 97 then [x] else [[92], x] := by
  refine pc_ind (Q := fun l => pc (esc (pc l)) = (pc l).flatMap fun x => if kd x = 97 then [x] else [[92], x]) rfl (fun l hl ih => ?_) l
  obtain ⟨E, hE⟩ : ∃ E, esc (pc (l.drop (sz l))) = E := ⟨_, rfl⟩
  have hcr : cr E = cr (l.drop (sz l)) := by rw [← hE]; exact cr_esc _
  rw [hE] at ih
  rw [pc_cons hl, esc_cons, hE, List.flatMap_cons, ← ih]
  by_cases hk : kd (l.take (sz l)) = 97
  · rw [if_pos hk, if_pos hk]
    have hlen : (l.take (sz l)).length = sz l := by have := sz_len hl; rw [List.length_take]; omega
    have hs : sz (l.take (sz l) ++ E) = sz l := by
      by_cases h2 : 2 ≤ sz l
      · exact sz_keep h2 E
      · have e1 : sz l = 1 := by have := sz_pos l; omega
        cases l with
        | nil => exact absurd rfl hl
        | cons b r =>
          rw [e1] at hcr ⊢
          show sz (b :: E) = 1
          rw [← sz_cr, hcr]
          show sz (b :: cr r) = 1
          rw [sz_cr, e1]
    have hne : l.take (sz l) ++ E ≠ [] := by
      intro e
      have := congrArg List.length e
      rw [List.length_append, hlen] at this
      have := sz_pos l
      simp at *
      omega
    rw [pc_cons hne, hs, List.take_append_of_le_length (by omega), List.take_of_length_le (by omega), List.drop_append_of_le_length (by omega), List.drop_eq_nil_of_le (by omega)]
    rfl
  · rw [if_neg hk, if_neg hk]
    obtain ⟨b, r, hx, hb⟩ := kd_ne hk
    have hl1 : ∃ r', l = b :: r' := by
      cases l with
      | nil => exact absurd rfl hl
      | cons c r' =>
        obtain ⟨k, hk⟩ : ∃ k, sz (c :: r') = k + 1 := ⟨sz (c :: r') - 1, by have := sz_pos (c :: r'); omega⟩
        rw [hk, List.take_succ_cons] at hx
        simp only [List.cons.injEq] at hx
        exact ⟨r', by rw [hx.1]⟩
    obtain ⟨r', rfl⟩ := hl1
    rw [sz_low b r' (by omega)]
    show pc (92 :: b :: E) = [92] :: [b] :: pc E
    rw [pc_low 92 _ (by decide), pc_low b _ (by omega)]
theorem prs_esc : ∀ l : List Bs, prs false (l.flatMap fun x => if kd x = 97 then [x] else [[92], x]) = (false, l.map fun x => ((97 : Int), x))
  | [] => rfl
  | x :: l => by
    rw [List.flatMap_cons, List.map_cons]
    by_cases hk : kd x = 97
    · rw [if_pos hk, List.cons_append, List.nil_append]
      unfold prs
      have e : kdE false x = 97 := by simp [kdE, hk]
      rw [e, if_neg (by decide), prs_esc l]
    · rw [if_neg hk, List.cons_append, List.cons_append, List.nil_append]
      unfold prs
      rw [if_pos (by decide)]
      unfold prs
      have e : kdE true x = 97 := by simp [kdE]
      rw [e, if_neg (by decide), prs_esc l]
theorem mt_plain : ∀ (xs t : List Bs), mt (xs.map fun x => ((97 : Int), x)) t = (xs == t)
  | [], [] => rfl
  | [], _ :: _ => rfl
  | x :: xs, [] => by rw [List.map_cons, mt_one_nil (by show (97 : Int) ≠ 37; decide)]; rfl
  | x :: xs, y :: t => by
    rw [List.map_cons, mt_one (by show (97 : Int) ≠ 37; decide), mt_plain xs t]
    show ((false || x == y) && _) = _
    rw [Bool.false_or]
    rfl
theorem pre_plain (xs : List Bs) : pre (xs.map fun x => ((97 : Int), x)) = xs.flatten ∧ whole (xs.map fun x => ((97 : Int), x)) = true := by
  induction xs with
  | nil => exact ⟨rfl, rfl⟩
  | cons x xs ih =>
    constructor
    · have e : pre ((x :: xs).map fun x => ((97 : Int), x)) = x ++ pre (xs.map fun x => ((97 : Int), x)) := by simp [pre]
      rw [e, ih.1]; rfl
    · have e : whole ((x :: xs).map fun x => ((97 : Int), x)) = whole (xs.map fun x => ((97 : Int), x)) := by simp [whole]
      rw [e, ih.2]
theorem esc_two (l : Bs) : (esc (pc l)).length ≤ 2 * l.length := by
  refine pc_ind (Q := fun l => (esc (pc l)).length ≤ 2 * l.length) (by simp [pc_nil, esc]) (fun l hl ih => ?_) l
  rw [pc_cons hl, esc_cons, List.length_append]
  have h1 := sz_len hl
  have h2 := sz_pos l
  rw [List.length_drop] at ih
  have h3 : (l.take (sz l)).length = sz l := by rw [List.length_take]; omega
  split
  · omega
  · rw [List.length_cons]; omega
theorem pc_inj {a b : Bs} (h : pc a = pc b) : a = b := by rw [← pc_flat a, ← pc_flat b, h]
end LK
end Go.Proofs.YtgjgmaadogkjfaaDoor
