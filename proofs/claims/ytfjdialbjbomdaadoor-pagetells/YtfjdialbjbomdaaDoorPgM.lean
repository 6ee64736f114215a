/-
  Pages as plain functions on lists of bytes: sealed, opened; what is sealed is opened as it was, what is opened is sealed as it stood, what was moved or turned is not opened.
-/
import Derived.Test.YtfjdialbjbomdaaDoorBurstMath
namespace Go.Proofs.YtfjdialbjbomdaaDoor.PG
set_option linter.unusedVariables false
set_option linter.unusedSimpArgs false

structure Pg where
  no : Int
  kind : Int
  owner : Int
  body : List UInt8
deriving DecidableEq
def zero : Pg := ⟨0, 0, 0, []⟩
def chk (p : Pg) : Nat := if p.no < 0 ∨ 31 < p.no then 3 else if p.kind < 1 ∨ 4 < p.kind then 7 else if p.owner < 0 ∨ 999 < p.owner then 3 else if 245 < p.body.length then 2 else 0
def two (n : Nat) : List UInt8 := [UInt8.ofNat (n / 256), UInt8.ofNat n]
def four (c : Nat) : List UInt8 := [UInt8.ofNat c, UInt8.ofNat (c / 256), UInt8.ofNat (c / 65536), UInt8.ofNat (c / 16777216)]
def noughts (n : Nat) : List UInt8 := List.replicate n 0
def front (p : Pg) : List UInt8 := two p.no.toNat ++ [UInt8.ofNat p.kind.toNat] ++ two p.owner.toNat ++ two p.body.length ++ p.body ++ noughts (245 - p.body.length)
def sld (p : Pg) : List UInt8 := front p ++ four (SM.more 0 (front p))
def num (s : List UInt8) (i : Nat) : Nat := (s.getD i 0).toNat * 256 + (s.getD (i + 1) 0).toNat
def endOf (s : List UInt8) : Nat := min (7 + num s 5) 256
def told (no : Int) (s : List UInt8) : Pg := ⟨no, ((s.getD 2 0).toNat : Int), (num s 3 : Int), (s.take (endOf s)).drop 7⟩
def opn (no : Int) (s : List UInt8) : Pg × Nat :=
  if no < 0 ∨ 31 < no then (zero, 3)
  else if s.length ≠ 256 then (zero, 1)
  else if s.drop 252 ≠ four (SM.more 0 (s.take 252)) ∨ (num s 0 : Int) ≠ no then (zero, 11)
  else if chk (told no s) ≠ 0 then (zero, chk (told no s))
  else if (s.take 252).drop (endOf s) = noughts (252 - endOf s) then (told no s, 0)
  else (zero, 1)
def sealE (p : Pg) : List UInt8 × Nat := if chk p = 0 then (sld p, 0) else ([], chk p)

theorem chk_ok {p : Pg} (h : chk p = 0) : (0 ≤ p.no ∧ p.no ≤ 31) ∧ (1 ≤ p.kind ∧ p.kind ≤ 4) ∧ (0 ≤ p.owner ∧ p.owner ≤ 999) ∧ p.body.length ≤ 245 := by
  unfold chk at h
  split at h
  · cases h
  · split at h
    · cases h
    · split at h
      · cases h
      · split at h
        · cases h
        · refine ⟨by omega, by omega, by omega, by omega⟩
theorem chk_mk {p : Pg} (h : (0 ≤ p.no ∧ p.no ≤ 31) ∧ (1 ≤ p.kind ∧ p.kind ≤ 4) ∧ (0 ≤ p.owner ∧ p.owner ≤ 999) ∧ p.body.length ≤ 245) : chk p = 0 := by
  unfold chk
  rw [if_neg (by omega), if_neg (by omega), if_neg (by omega), if_neg (by omega)]
theorem front_len {p : Pg} (h : chk p = 0) : (front p).length = 252 := by
  have := (chk_ok h).2.2.2
  simp only [front, two, noughts, List.length_append, List.length_cons, List.length_nil, List.length_replicate]
  omega
theorem seal_len {p : Pg} (h : chk p = 0) : (sld p).length = 256 := by
  unfold sld
  rw [List.length_append, front_len h]
  rfl
theorem seal_take {p : Pg} (h : chk p = 0) : (sld p).take 252 = front p := by
  unfold sld
  rw [List.take_append_of_le_length (by rw [front_len h]; omega), List.take_of_length_le (by rw [front_len h]; omega)]
theorem seal_drop {p : Pg} (h : chk p = 0) : (sld p).drop 252 = four (SM.more 0 (front p)) := by
  unfold sld
  rw [List.drop_append_of_le_length (by rw [front_len h]; omega), List.drop_of_length_le (by rw [front_len h]; omega), List.nil_append]
theorem seal_head (p : Pg) : sld p = UInt8.ofNat (p.no.toNat / 256) :: UInt8.ofNat p.no.toNat :: UInt8.ofNat p.kind.toNat :: UInt8.ofNat (p.owner.toNat / 256) :: UInt8.ofNat p.owner.toNat :: UInt8.ofNat (p.body.length / 256) :: UInt8.ofNat p.body.length :: (p.body ++ (noughts (245 - p.body.length) ++ four (SM.more 0 (front p)))) := by
  unfold sld
  generalize four (SM.more 0 (front p)) = F
  unfold front two
  simp
theorem num_two {n : Nat} (h : n < 65536) : (UInt8.ofNat (n / 256)).toNat * 256 + (UInt8.ofNat n).toNat = n := by
  rw [UInt8.toNat_ofNat', UInt8.toNat_ofNat']
  omega
theorem num_seal0 {p : Pg} (h : chk p = 0) : num (sld p) 0 = p.no.toNat := by
  have := (chk_ok h).1
  rw [seal_head]
  simp only [num, List.getD_cons_zero, List.getD_cons_succ]
  exact num_two (by omega)
theorem num_seal3 {p : Pg} (h : chk p = 0) : num (sld p) 3 = p.owner.toNat := by
  have := (chk_ok h).2.2.1
  rw [seal_head]
  simp only [num, List.getD_cons_zero, List.getD_cons_succ]
  exact num_two (by omega)
theorem num_seal5 {p : Pg} (h : chk p = 0) : num (sld p) 5 = p.body.length := by
  have := (chk_ok h).2.2.2
  rw [seal_head]
  simp only [num, List.getD_cons_zero, List.getD_cons_succ]
  exact num_two (by omega)
theorem end_seal {p : Pg} (h : chk p = 0) : endOf (sld p) = 7 + p.body.length := by
  have := (chk_ok h).2.2.2
  unfold endOf
  rw [num_seal5 h]
  omega
theorem told_seal {p : Pg} (h : chk p = 0) : told p.no (sld p) = p := by
  obtain ⟨h1, h2, h3, h4⟩ := chk_ok h
  unfold told
  rw [num_seal3 h, end_seal h]
  obtain ⟨no, kind, owner, body⟩ := p
  simp only at h1 h2 h3 h4
  congr 1
  · rw [seal_head]
    simp only [List.getD_cons_zero, List.getD_cons_succ]
    rw [UInt8.toNat_ofNat']
    omega
  · simp only; omega
  · rw [seal_head, show 7 + body.length = body.length + 1 + 1 + 1 + 1 + 1 + 1 + 1 by omega]
    simp
theorem open_seal {p : Pg} (h : chk p = 0) : opn p.no (sld p) = (p, 0) := by
  obtain ⟨h1, h2, h3, h4⟩ := chk_ok h
  unfold opn
  rw [if_neg (by omega), if_neg (by rw [seal_len h]; decide), if_neg (by
    rw [seal_take h, seal_drop h, num_seal0 h]
    rintro (h | h)
    · exact h rfl
    · omega), told_seal h, if_neg (by rw [h]; decide), if_pos (by
    rw [seal_take h, end_seal h]
    unfold front two
    rw [List.drop_append_of_le_length (by simp; omega), List.drop_of_length_le (by simp; omega), List.nil_append]
    congr 1
    omega)]
theorem ofNat_toNat (b : UInt8) : UInt8.ofNat b.toNat = b := by simp
theorem two_num {s : List UInt8} {i : Nat} : two (num s i) = [s.getD i 0, s.getD (i + 1) 0] := by
  unfold two num
  have h1 := (s.getD i 0).toNat_lt
  have h2 := (s.getD (i + 1) 0).toNat_lt
  rw [show ((s.getD i 0).toNat * 256 + (s.getD (i + 1) 0).toNat) / 256 = (s.getD i 0).toNat by omega, ofNat_toNat]
  congr 2
  apply UInt8.toNat_inj.1
  rw [UInt8.toNat_ofNat']
  omega
theorem open_cases (no : Int) (s : List UInt8) : ((opn no s).2 ≠ 0 ∧ (opn no s).1 = zero) ∨ ((0 ≤ no ∧ no ≤ 31) ∧ s.length = 256 ∧ s.drop 252 = four (SM.more 0 (s.take 252)) ∧ (num s 0 : Int) = no ∧ chk (told no s) = 0 ∧ (s.take 252).drop (endOf s) = noughts (252 - endOf s) ∧ opn no s = (told no s, 0)) := by
  unfold opn
  by_cases h1 : no < 0 ∨ 31 < no
  · rw [if_pos h1]; exact Or.inl ⟨by simp, rfl⟩
  rw [if_neg h1]
  by_cases h2 : s.length ≠ 256
  · rw [if_pos h2]; exact Or.inl ⟨by simp, rfl⟩
  rw [if_neg h2]
  by_cases h3 : s.drop 252 ≠ four (SM.more 0 (s.take 252)) ∨ (num s 0 : Int) ≠ no
  · rw [if_pos h3]; exact Or.inl ⟨by simp, rfl⟩
  rw [if_neg h3]
  by_cases h4 : chk (told no s) ≠ 0
  · rw [if_pos h4]; exact Or.inl ⟨h4, rfl⟩
  rw [if_neg h4]
  by_cases h5 : (s.take 252).drop (endOf s) = noughts (252 - endOf s)
  · rw [if_pos h5]
    have h3' := not_or.1 h3
    exact Or.inr ⟨by omega, by simpa using h2, by simpa using h3'.1, by simpa using h3'.2, by simpa using h4, h5, rfl⟩
  · rw [if_neg h5]; exact Or.inl ⟨by simp, rfl⟩
theorem list7 {s : List UInt8} (h : s.length = 256) : s = s.getD 0 0 :: s.getD 1 0 :: s.getD 2 0 :: s.getD 3 0 :: s.getD 4 0 :: s.getD 5 0 :: s.getD 6 0 :: s.drop 7 := by
  match s, h with
  | a :: b :: c :: d :: e :: f :: g :: r, _ => simp
theorem open_only {no : Int} {s : List UInt8} (h : (opn no s).2 = 0) : chk (opn no s).1 = 0 ∧ sld (opn no s).1 = s ∧ (opn no s).1.no = no := by
  rcases open_cases no s with ⟨h0, _⟩ | ⟨h1, h2, h3, h4, h5, h6, h7⟩
  · exact absurd h h0
  rw [h7]
  refine ⟨h5, ?_, rfl⟩
  have hc := chk_ok h5
  have hb : (told no s).body.length ≤ 245 := hc.2.2.2
  have hbl : (told no s).body.length = endOf s - 7 := by
    show ((s.take (endOf s)).drop 7).length = _
    rw [List.length_drop, List.length_take, h2]
    unfold endOf
    omega
  have hn5 : num s 5 = endOf s - 7 := by
    unfold endOf at hbl ⊢
    omega
  have he : 7 ≤ endOf s ∧ endOf s ≤ 252 := by
    unfold endOf at hbl ⊢
    omega
  have hf : front (told no s) = s.take 252 := by
    have e1 : (s.take 252) = s.getD 0 0 :: s.getD 1 0 :: s.getD 2 0 :: s.getD 3 0 :: s.getD 4 0 :: s.getD 5 0 :: s.getD 6 0 :: ((s.take 252).drop 7) := by
      conv => lhs; rw [list7 h2]
      conv => rhs; rw [List.drop_take]
      simp
    have e2 : (s.take 252).drop 7 = (told no s).body ++ noughts (245 - (told no s).body.length) := by
      rw [hbl, show 245 - (endOf s - 7) = 252 - endOf s by omega, ← h6]
      show _ = (s.take (endOf s)).drop 7 ++ _
      rw [show s.take (endOf s) = (s.take 252).take (endOf s) by rw [List.take_take]; congr 1; omega]
      generalize s.take 252 = q
      rw [List.drop_take]
      conv => lhs; rw [← List.take_append_drop (endOf s - 7) (q.drop 7), List.drop_drop]
      rw [show 7 + (endOf s - 7) = endOf s by omega]
    have f1 : two (told no s).no.toNat = [s.getD 0 0, s.getD 1 0] := by
      have := two_num (s := s) (i := 0)
      rw [← this]
      congr 1
      show no.toNat = _
      omega
    have f2 : UInt8.ofNat (told no s).kind.toNat = s.getD 2 0 := by
      show UInt8.ofNat (((s.getD 2 0).toNat : Int)).toNat = _
      rw [Int.toNat_natCast, ofNat_toNat]
    have f3 : two (told no s).owner.toNat = [s.getD 3 0, s.getD 4 0] := by
      have := two_num (s := s) (i := 3)
      rw [← this]
      rfl
    have f4 : two (told no s).body.length = [s.getD 5 0, s.getD 6 0] := by
      have := two_num (s := s) (i := 5)
      rw [← this, hbl, hn5]
    unfold front
    rw [f1, f2, f3, f4, e1, e2]
    simp
  unfold sld
  rw [hf, ← h3, List.take_append_drop]
theorem open_fail {no : Int} {s : List UInt8} (h : (opn no s).2 ≠ 0) : (opn no s).1 = zero := by
  rcases open_cases no s with ⟨_, h0⟩ | ⟨_, _, _, _, _, _, h7⟩
  · exact h0
  · rw [h7] at h; exact absurd rfl h
theorem moved {p : Pg} (h : chk p = 0) {no : Int} (h0 : 0 ≤ no) (h1 : no ≤ 31) (hn : no ≠ p.no) : opn no (sld p) = (zero, 11) := by
  have := (chk_ok h).1
  unfold opn
  rw [if_neg (by omega), if_neg (by rw [seal_len h]; decide), if_pos (Or.inr (by rw [num_seal0 h]; omega))]
theorem short {no : Int} {s : List UInt8} (h0 : 0 ≤ no) (h1 : no ≤ 31) (hs : s.length ≠ 256) : opn no s = (zero, 1) := by
  unfold opn
  rw [if_neg (by omega), if_pos hs]
theorem blank_sum : four (SM.more 0 (noughts 252)) ≠ noughts 4 := by decide +kernel
theorem blank (no : Int) : (opn no (noughts 256)).2 ≠ 0 := by
  rcases open_cases no (noughts 256) with ⟨h0, _⟩ | ⟨_, _, h3, _⟩
  · exact h0
  · exfalso
    rw [show (noughts 256).drop 252 = noughts 4 from by unfold noughts; rw [List.drop_replicate], show (noughts 256).take 252 = noughts 252 from by unfold noughts; rw [List.take_replicate]; rfl] at h3
    exact blank_sum h3.symm

/-- the bytes of a sum, the least first, behind what it is of, leave the same register always -/
def K : Nat := SM.steps 32 4294967295
theorem four_bits (c : Nat) (hc : c < 4294967296) : SM.word (SM.bitOf (four c)) 32 = c := by
  apply Nat.eq_of_testBit_eq
  intro i
  rw [SM.word_testBit]
  by_cases h : i < 32
  · simp only [h, decide_true, Bool.true_and]
    have key : ∀ (x : Nat) (k : Nat), k < 8 → (UInt8.ofNat x).toNat.testBit k = x.testBit k := by
      intro x k hk
      rw [UInt8.toNat_ofNat', show (2 : Nat) ^ 8 = 2 ^ 8 from rfl, Nat.testBit_mod_two_pow]
      simp [hk]
    have hdiv : ∀ (m k : Nat), (c / 2 ^ m).testBit k = c.testBit (m + k) := fun m k => by rw [Nat.testBit_div_two_pow]; congr 1; omega
    unfold SM.bitOf four
    have h4 : i / 8 = 0 ∨ i / 8 = 1 ∨ i / 8 = 2 ∨ i / 8 = 3 := by omega
    rcases h4 with e | e | e | e <;> rw [e]
    · show (UInt8.ofNat c).toNat.testBit (i % 8) = _
      rw [key _ _ (by omega)]
      congr 1; omega
    · show (UInt8.ofNat (c / 2 ^ 8)).toNat.testBit (i % 8) = _
      rw [key _ _ (by omega), hdiv]
      congr 1; omega
    · show (UInt8.ofNat (c / 2 ^ 16)).toNat.testBit (i % 8) = _
      rw [key _ _ (by omega), hdiv]
      congr 1; omega
    · show (UInt8.ofNat (c / 2 ^ 24)).toNat.testBit (i % 8) = _
      rw [key _ _ (by omega), hdiv]
      congr 1; omega
  · have : c.testBit i = false := Nat.testBit_lt_two_pow (Nat.lt_of_lt_of_le hc (show 2 ^ 32 ≤ 2 ^ i from Nat.pow_le_pow_right (by decide) (by omega)))
    simp [h, this]
theorem run_four (r c : Nat) (hc : c < 4294967296) : SM.run r (four c) = SM.steps 32 (r ^^^ c) := by
  rw [SM.run_bits_all]
  show SM.fbn r (SM.bitOf (four c)) 32 = _
  rw [SM.fbn_word, four_bits c hc]
theorem run_K (l : List UInt8) : SM.run (SM.nt 0) (l ++ four (SM.more 0 l)) = K := by
  have hl := SM.run_lt (SM.nt_lt (show 0 < 4294967296 by decide)) l
  rw [SM.run_append, run_four _ _ (SM.more_lt (by decide) l)]
  unfold SM.more K
  generalize SM.run (SM.nt 0) l = r at *
  congr 1
  unfold SM.nt
  rw [Nat.xor_comm 4294967295 r, SM.xor_cancel']
theorem turned {p : Pg} (h : chk p = 0) (t : List UInt8) (ht : t.length = 256) (at_ : Nat) (hat : at_ ≤ 2048) (hd : ∀ i, i < 2048 → (i < at_ ∨ at_ + 32 ≤ i) → SM.bitOf (sld p) i = SM.bitOf t i) (hne : t ≠ sld p) : opn p.no t = (zero, 11) := by
  have h1 := (chk_ok h).1
  unfold opn
  rw [if_neg (by omega), if_neg (by omega), if_pos]
  by_cases hs : t.drop 252 = four (SM.more 0 (t.take 252))
  · exfalso
    have e1 : SM.run (SM.nt 0) t = K := by
      have := run_K (t.take 252)
      rw [← hs, List.take_append_drop] at this
      exact this
    have e2 : SM.run (SM.nt 0) (sld p) = K := run_K (front p)
    refine hne (SM.burst (c := 0) (by decide) (sld p) t (by rw [seal_len h, ht]) at_ (by rw [seal_len h]; omega) (fun i hi => hd i (by rw [seal_len h] at hi; omega)) ?_).symm
    unfold SM.more
    rw [e1, e2]
  · exact Or.inl hs
end Go.Proofs.YtfjdialbjbomdaaDoor.PG
