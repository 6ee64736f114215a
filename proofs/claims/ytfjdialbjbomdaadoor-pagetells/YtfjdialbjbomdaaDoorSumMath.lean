/-
  Sums as plain functions on numbers: one step of the register is linear and can be undone; so are eight of them; texts of different registers stay apart; bits turned within 32 in a row are told.
-/
namespace Go.Proofs.YtfjdialbjbomdaaDoor.SM
set_option linter.unusedVariables false

/-- what a register is xored with -/
def P : Nat := 2197175160
def M32 : Nat := 4294967296

/-- a bit 0 comes -/
def step (r : Nat) : Nat := if r % 2 = 1 then (r / 2) ^^^ P else r / 2
/-- back from it -/
def unstep (r : Nat) : Nat := if r < 2147483648 then r * 2 else 2 * (r ^^^ P) + 1
def steps : Nat → Nat → Nat
  | 0, r => r
  | k + 1, r => steps k (step r)
def unsteps : Nat → Nat → Nat
  | 0, r => r
  | k + 1, r => unsteps k (unstep r)
def ez (r : Nat) : Nat := steps 8 r
def wez (r : Nat) : Nat := unsteps 8 r
/-- all 32 bits turned -/
def nt (r : Nat) : Nat := 4294967295 ^^^ r

theorem xor_lt {a b : Nat} (ha : a < 4294967296) (hb : b < 4294967296) : a ^^^ b < 4294967296 := by
  have h := Nat.xor_lt_two_pow (n := 32) (show a < 2 ^ 32 by omega) (show b < 2 ^ 32 by omega)
  omega
theorem P_lt : P < 4294967296 := by unfold P; omega
theorem nt_lt {r : Nat} (h : r < 4294967296) : nt r < 4294967296 := xor_lt (by decide) h
theorem xor_cancel (a b : Nat) : (a ^^^ b) ^^^ b = a := by rw [Nat.xor_assoc, Nat.xor_self, Nat.xor_zero]
theorem xor_cancel' (a b : Nat) : a ^^^ (a ^^^ b) = b := by rw [← Nat.xor_assoc, Nat.xor_self, Nat.zero_xor]

theorem nt_nt (r : Nat) : nt (nt r) = r := by
  rw [nt, nt]
  exact xor_cancel' 4294967295 r

theorem step_lt {r : Nat} (h : r < 4294967296) : step r < 4294967296 := by
  unfold step
  split
  · exact xor_lt (by omega) P_lt
  · omega

theorem xor_mod2 (a b : Nat) : (a ^^^ b) % 2 = (a % 2 + b % 2) % 2 := by
  have h := Nat.xor_mod_two_pow (a := a) (b := b) (n := 1)
  simp only [Nat.pow_one] at h
  rw [h]
  rcases Nat.mod_two_eq_zero_or_one a with ha | ha <;> rcases Nat.mod_two_eq_zero_or_one b with hb | hb <;> rw [ha, hb] <;> decide
theorem xor_div2 (a b : Nat) : (a ^^^ b) / 2 = (a / 2) ^^^ (b / 2) := by
  have h := Nat.xor_div_two_pow (a := a) (b := b) (n := 1)
  simpa using h

/-- a bit is linear -/
theorem step_xor (a b : Nat) : step (a ^^^ b) = step a ^^^ step b := by
  unfold step
  rw [xor_mod2, xor_div2]
  rcases Nat.mod_two_eq_zero_or_one a with ha | ha <;> rcases Nat.mod_two_eq_zero_or_one b with hb | hb <;> rw [ha, hb]
  · simp
  · simp [Nat.xor_assoc]
  · simp only [Nat.reduceMod, Nat.reduceAdd, if_true, show ¬ (0 : Nat) = 1 by decide, if_false]
    rw [Nat.xor_assoc, Nat.xor_assoc, Nat.xor_comm (b / 2) P]
  · simp only [Nat.reduceMod, Nat.reduceAdd, if_true, show ¬ (0 : Nat) = 1 by decide, if_false]
    rw [Nat.xor_assoc, Nat.xor_comm P, Nat.xor_assoc, Nat.xor_self, Nat.xor_zero]

theorem top_xor {a b : Nat} (ha : a < 2147483648) (h1 : 2147483648 ≤ b) (h2 : b < 4294967296) : 2147483648 ≤ a ^^^ b := by
  have hb : (a ^^^ b).testBit 31 = true := by
    rw [Nat.testBit_xor, Nat.testBit_lt_two_pow (i := 31) (show a < 2 ^ 31 by omega)]
    have : b.testBit 31 = true := by
      rw [Nat.testBit_eq_decide_div_mod_eq]
      have : b / 2 ^ 31 = 1 := by omega
      rw [this]; rfl
    simp [this]
  have h := Nat.ge_two_pow_of_testBit hb
  omega
theorem top_xor' {a b : Nat} (h1 : 2147483648 ≤ a) (h2 : a < 4294967296) (h3 : 2147483648 ≤ b) (h4 : b < 4294967296) : a ^^^ b < 2147483648 := by
  have e1 : ∀ x : Nat, 2147483648 ≤ x → x < 4294967296 → x.testBit 31 = true := by
    intro x h h'
    rw [Nat.testBit_eq_decide_div_mod_eq]
    have : x / 2 ^ 31 = 1 := by omega
    rw [this]; rfl
  rcases Nat.lt_or_ge (a ^^^ b) 2147483648 with h | h
  · exact h
  · have h5 := e1 _ h (xor_lt h2 h4)
    rw [Nat.testBit_xor, e1 a h1 h2, e1 b h3 h4] at h5
    cases h5

theorem unstep_step {r : Nat} (h : r < 4294967296) : unstep (step r) = r := by
  unfold step
  split
  · have h1 : 2147483648 ≤ (r / 2) ^^^ P := top_xor (by omega) (by decide) P_lt
    unfold unstep
    rw [if_neg (by omega), xor_cancel]
    omega
  · unfold unstep
    rw [if_pos (by omega)]
    omega
theorem unstep_lt {r : Nat} (h : r < 4294967296) : unstep r < 4294967296 := by
  unfold unstep
  split
  · omega
  · have := top_xor' (a := r) (b := P) (by omega) h (by decide) P_lt
    omega
theorem step_unstep {r : Nat} (h : r < 4294967296) : step (unstep r) = r := by
  unfold unstep
  split
  · unfold step
    rw [if_neg (by omega)]
    omega
  · unfold step
    rw [if_pos (by omega), show (2 * (r ^^^ P) + 1) / 2 = r ^^^ P by omega, xor_cancel]

theorem steps_lt {k r : Nat} (h : r < 4294967296) : steps k r < 4294967296 := by
  induction k generalizing r with
  | zero => exact h
  | succ k ih => exact ih (step_lt h)
theorem unsteps_lt {k r : Nat} (h : r < 4294967296) : unsteps k r < 4294967296 := by
  induction k generalizing r with
  | zero => exact h
  | succ k ih => exact ih (unstep_lt h)
theorem steps_xor (k a b : Nat) : steps k (a ^^^ b) = steps k a ^^^ steps k b := by
  induction k generalizing a b with
  | zero => rfl
  | succ k ih => simp only [steps, step_xor, ih]
theorem steps_snoc (k r : Nat) : steps (k + 1) r = step (steps k r) := by
  induction k generalizing r with
  | zero => rfl
  | succ k ih => exact ih (step r)
theorem unsteps_snoc (k r : Nat) : unsteps (k + 1) r = unstep (unsteps k r) := by
  induction k generalizing r with
  | zero => rfl
  | succ k ih => exact ih (unstep r)
theorem unsteps_steps {k r : Nat} (h : r < 4294967296) : unsteps k (steps k r) = r := by
  induction k generalizing r with
  | zero => rfl
  | succ k ih => rw [unsteps_snoc]; simp only [steps]; rw [ih (step_lt h), unstep_step h]
theorem steps_unsteps {k r : Nat} (h : r < 4294967296) : steps k (unsteps k r) = r := by
  induction k generalizing r with
  | zero => rfl
  | succ k ih => rw [steps_snoc]; simp only [unsteps]; rw [ih (unstep_lt h), step_unstep h]
theorem steps_inj {k a b : Nat} (ha : a < 4294967296) (hb : b < 4294967296) (h : steps k a = steps k b) : a = b := by
  rw [← unsteps_steps (k := k) ha, h, unsteps_steps hb]

theorem ez_lt {r : Nat} (h : r < 4294967296) : ez r < 4294967296 := by rw [ez]; exact steps_lt h
theorem wez_lt {r : Nat} (h : r < 4294967296) : wez r < 4294967296 := by rw [wez]; exact unsteps_lt h
theorem byte_lt (b : UInt8) : b.toNat < 4294967296 := Nat.lt_trans b.toNat_lt (by decide)

/-- the register behind a text -/
def run (r : Nat) (l : List UInt8) : Nat := l.foldl (fun r b => ez (r ^^^ b.toNat)) r
theorem run_nil (r : Nat) : run r [] = r := rfl
theorem run_cons (r : Nat) (b : UInt8) (l : List UInt8) : run r (b :: l) = run (ez (r ^^^ b.toNat)) l := by unfold run; rw [List.foldl_cons]
theorem run_append (r : Nat) (l m : List UInt8) : run r (l ++ m) = run (run r l) m := List.foldl_append
theorem run_snoc (r : Nat) (l : List UInt8) (b : UInt8) : run r (l ++ [b]) = ez (run r l ^^^ b.toNat) := by rw [run_append]; rfl
theorem run_lt {r : Nat} (h : r < 4294967296) (l : List UInt8) : run r l < 4294967296 := by
  induction l generalizing r with
  | nil => exact h
  | cons b l ih => exact ih (steps_lt (xor_lt h (byte_lt b)))
theorem run_inj {a b : Nat} (ha : a < 4294967296) (hb : b < 4294967296) (l : List UInt8) (h : run a l = run b l) : a = b := by
  induction l generalizing a b with
  | nil => exact h
  | cons c l ih =>
    have h1 := ih (steps_lt (xor_lt ha (byte_lt c))) (steps_lt (xor_lt hb (byte_lt c))) h
    have h2 := steps_inj (k := 8) (xor_lt ha (byte_lt c)) (xor_lt hb (byte_lt c)) h1
    rw [← xor_cancel a c.toNat, h2, xor_cancel]

/-- the sum of what has the sum c with l behind it -/
def more (c : Nat) (l : List UInt8) : Nat := nt (run (nt c) l)
/-- the sum without the last byte -/
def less (c : Nat) (b : UInt8) : Nat := nt (wez (nt c) ^^^ b.toNat)

theorem more_lt {c : Nat} (h : c < 4294967296) (l : List UInt8) : more c l < 4294967296 := nt_lt (run_lt (nt_lt h) l)
theorem less_lt {c : Nat} (h : c < 4294967296) (b : UInt8) : less c b < 4294967296 := nt_lt (xor_lt (unsteps_lt (nt_lt h)) (byte_lt b))
theorem more_append (c : Nat) (l m : List UInt8) : more (more c l) m = more c (l ++ m) := by
  unfold more; rw [nt_nt, run_append]
theorem nt_inj {a b : Nat} (h : nt a = nt b) : a = b := by rw [← nt_nt a, h, nt_nt]
theorem more_inj {a b : Nat} (ha : a < 4294967296) (hb : b < 4294967296) (l : List UInt8) (h : more a l = more b l) : a = b :=
  nt_inj (run_inj (nt_lt ha) (nt_lt hb) l (nt_inj h))
theorem less_more {c : Nat} (h : c < 4294967296) (b : UInt8) : less (more c [b]) b = c := by
  unfold less more
  rw [nt_nt, run_cons, run_nil]
  unfold wez ez
  rw [unsteps_steps (xor_lt (nt_lt h) (byte_lt b)), xor_cancel, nt_nt]
theorem more_less {c : Nat} (h : c < 4294967296) (b : UInt8) : more (less c b) [b] = c := by
  unfold less more
  rw [nt_nt, run_cons, run_nil]
  unfold wez ez
  rw [xor_cancel, steps_unsteps (nt_lt h), nt_nt]

/-- three texts of one length -/
def xor3 : List UInt8 → List UInt8 → List UInt8 → List UInt8
  | a :: s, b :: t, c :: u => (a ^^^ b ^^^ c) :: xor3 s t u
  | _, _, _ => []
theorem xor_swap3 (a b c x y z : Nat) : (a ^^^ x) ^^^ (b ^^^ y) ^^^ (c ^^^ z) = (a ^^^ b ^^^ c) ^^^ (x ^^^ y ^^^ z) := by
  apply Nat.eq_of_testBit_eq
  intro i
  simp only [Nat.testBit_xor]
  cases a.testBit i <;> cases b.testBit i <;> cases c.testBit i <;> cases x.testBit i <;> cases y.testBit i <;> cases z.testBit i <;> rfl
theorem run_xor3 : ∀ (s t u : List UInt8) (a b c : Nat), s.length = t.length → t.length = u.length →
    run a s ^^^ run b t ^^^ run c u = run (a ^^^ b ^^^ c) (xor3 s t u)
  | [], [], [], a, b, c, _, _ => rfl
  | x :: s, y :: t, z :: u, a, b, c, h1, h2 => by
    simp only [List.length_cons, Nat.add_right_cancel_iff] at h1 h2
    simp only [run_cons, xor3]
    rw [run_xor3 s t u _ _ _ h1 h2]
    congr 1
    unfold ez
    rw [← steps_xor, ← steps_xor, xor_swap3, UInt8.toNat_xor, UInt8.toNat_xor]
theorem xor3_same (m a b c : Nat) : (m ^^^ a) ^^^ (m ^^^ b) ^^^ (m ^^^ c) = m ^^^ (a ^^^ b ^^^ c) := by
  apply Nat.eq_of_testBit_eq
  intro i
  simp only [Nat.testBit_xor]
  cases a.testBit i <;> cases b.testBit i <;> cases c.testBit i <;> cases m.testBit i <;> rfl
theorem nt3 (a b c : Nat) : nt a ^^^ nt b ^^^ nt c = nt (a ^^^ b ^^^ c) := xor3_same _ a b c
theorem more_xor3 (s t u : List UInt8) (h1 : s.length = t.length) (h2 : t.length = u.length) :
    more 0 (xor3 s t u) = more 0 s ^^^ more 0 t ^^^ more 0 u := by
  unfold more
  have h := run_xor3 s t u (nt 0) (nt 0) (nt 0) h1 h2
  have e : ∀ x : Nat, x ^^^ x ^^^ x = x := fun x => by rw [Nat.xor_self, Nat.zero_xor]
  rw [e] at h
  rw [nt3, h]

/-- a byte by itself, and what was ahead of it: one step by the table -/
theorem steps_shift (k x : Nat) : steps k (x * 2 ^ k) = x := by
  induction k with
  | zero => simp [steps]
  | succ k ih =>
    simp only [steps]
    have : step (x * 2 ^ (k + 1)) = x * 2 ^ k := by
      unfold step
      rw [Nat.pow_succ, ← Nat.mul_assoc, if_neg (by omega)]
      omega
    rw [this, ih]
theorem split8 (r : Nat) : r = (r / 256 * 256) ^^^ (r % 256) := by
  apply Nat.eq_of_testBit_eq
  intro i
  rw [Nat.testBit_xor, show (256 : Nat) = 2 ^ 8 by decide, Nat.testBit_mod_two_pow, Nat.testBit_mul_two_pow, Nat.testBit_div_two_pow]
  by_cases h : i < 8
  · simp [h, show ¬ 8 ≤ i by omega]
  · simp [h, show 8 ≤ i by omega, show i - 8 + 8 = i by omega]
theorem ez_split (r : Nat) : ez r = ez (r % 256) ^^^ (r / 256) := by
  have h : steps 8 (r / 256 * 256 ^^^ r % 256) = steps 8 (r / 256 * 256) ^^^ steps 8 (r % 256) := steps_xor 8 _ _
  rw [← split8] at h
  have h2 := steps_shift 8 (r / 256)
  rw [show (2 : Nat) ^ 8 = 256 by decide] at h2
  unfold ez
  rw [h, h2, Nat.xor_comm]

end Go.Proofs.YtfjdialbjbomdaaDoor.SM
