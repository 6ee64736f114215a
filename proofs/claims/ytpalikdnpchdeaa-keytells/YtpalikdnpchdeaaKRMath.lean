/-
  Reading a key, as plain functions on lists.
-/
import Derived.Test.YtpalikdnpchdeaaKMath
namespace Go.Proofs.Ytpalikdnpchdeaa
namespace KR
open VM

/-- bytes as a number, the greatest first -/
def bv (l : List UInt8) : Nat := l.foldl (fun a b => a * 256 + b.toNat) 0
theorem bv_snoc (l : List UInt8) (b : UInt8) : bv (l ++ [b]) = bv l * 256 + b.toNat := by simp [bv]
theorem bv_lt (l : List UInt8) : bv l < 256 ^ l.length := by
  suffices h : ∀ (l : List UInt8) (a : Nat), l.foldl (fun a b => a * 256 + b.toNat) a < (a + 1) * 256 ^ l.length by
    have := h l 0
    simpa [bv] using this
  intro l
  induction l with
  | nil => intro a; simp
  | cons b t ih =>
    intro a
    simp only [List.foldl_cons, List.length_cons]
    have h1 := ih (a * 256 + b.toNat)
    have h2 : b.toNat < 256 := b.toNat_lt
    have h3 : (a * 256 + b.toNat + 1) * 256 ^ t.length ≤ ((a + 1) * 256) * 256 ^ t.length := Nat.mul_le_mul_right _ (by omega)
    rw [Nat.pow_succ, Nat.mul_comm (256 ^ t.length) 256, ← Nat.mul_assoc]
    omega

def ki (l : List UInt8) : Except Nat (Int × List UInt8) :=
  if l.length < 8 then .error 1 else .ok ((bv (l.take 8) : Int) - 9223372036854775808, l.drop 8)
def kt : List UInt8 → List UInt8 → Except Nat (List UInt8 × List UInt8)
  | [], _ => .error 1
  | [_], _ => .error 1
  | b :: c :: u, acc =>
    if b.toNat ≠ 0 then kt (c :: u) (acc ++ [b])
    else if c.toNat = 255 then kt u (acc ++ [0])
    else if c.toNat = 1 then (if 16 < acc.length then .error 2 else .ok (acc, u))
    else .error 1
def kn (l : List UInt8) : Except Nat (Vl × List UInt8) :=
  match ki l with
  | .error e => .error e
  | .ok (n, t) => .ok (⟨1, n, ⟨#[]⟩⟩, t)
def kx (k : Nat) (l : List UInt8) : Except Nat (Vl × List UInt8) :=
  match kt l [] with
  | .error e => .error e
  | .ok (s, t) => .ok (⟨k, 0, ⟨s.toArray⟩⟩, t)
def kv (l : List UInt8) : Except Nat (Vl × List UInt8) :=
  match l with
  | [] => .error 1
  | b :: t =>
    if b.toNat = 5 then .ok (⟨0, 0, ⟨#[]⟩⟩, t)
    else if b.toNat = 16 then kn t
    else if b.toNat = 32 then kx 2 t
    else if b.toNat = 48 then kx 3 t
    else .error 1
def kr : Nat → List UInt8 → Except Nat (List Vl × List UInt8)
  | _, [] => .ok ([], [])
  | 0, _ :: _ => .error 2
  | n + 1, b :: u =>
    match kv (b :: u) with
    | .error e => .error e
    | .ok (x, t) =>
      match kr n t with
      | .error e => .error e
      | .ok (xs, v) => .ok (x :: xs, v)

theorem kr_nil (n : Nat) : kr n [] = .ok ([], []) := by cases n <;> rfl
theorem kr_err {n : Nat} {b : UInt8} {l : List UInt8} {e : Nat} (h : kv (b :: l) = .error e) (xs : List Vl) : RM.pre xs (kr (n + 1) (b :: l)) = .error e := by
  unfold kr RM.pre
  rw [h]
theorem kr_ok {n : Nat} {b : UInt8} {l t : List UInt8} {x : Vl} (h : kv (b :: l) = .ok (x, t)) (xs : List Vl) : RM.pre xs (kr (n + 1) (b :: l)) = RM.pre (xs ++ [x]) (kr n t) := by
  unfold RM.pre
  rw [kr, h]
  simp only
  split <;> rename_i h'
  · split at h'
    · cases h'; rename_i h''; rw [h'']
    · cases h'
  · split at h'
    · cases h'
    · cases h'; rename_i h''; rw [h'']; simp

theorem kt_le : ∀ (n : Nat) (l acc s t : List UInt8), l.length ≤ n → kt l acc = .ok (s, t) → t.length ≤ l.length := by
  intro n
  induction n with
  | zero => intro l acc s t h0 h
            obtain rfl : l = [] := List.length_eq_zero_iff.1 (by omega)
            cases h
  | succ n ih =>
    intro l acc s t h0 h
    match l with
    | [] => cases h
    | [_] => cases h
    | b :: c :: u =>
      unfold kt at h
      simp only [List.length_cons] at h0 ⊢
      split at h
      · have := ih _ _ _ _ (by simp; omega) h
        simp at this
        omega
      · split at h
        · have := ih _ _ _ _ (by omega) h
          omega
        · split at h
          · split at h
            · cases h
            · cases h; omega
          · cases h
theorem kv_le {l t : List UInt8} {x : Vl} (h : kv l = .ok (x, t)) : t.length ≤ l.length := by
  unfold kv at h
  split at h
  · cases h
  · rename_i b u
    simp only [List.length_cons]
    split at h
    · cases h; omega
    · split at h
      · unfold kn at h
        split at h
        · cases h
        · rename_i h'
          cases h
          unfold ki at h'
          split at h'
          · cases h'
          · cases h'; simp; omega
      · split at h
        · unfold kx at h
          split at h
          · cases h
          · rename_i h'
            cases h
            have := kt_le _ _ _ _ _ (Nat.le_refl _) h'
            omega
        · split at h
          · unfold kx at h
            split at h
            · cases h
            · rename_i h'
              cases h
              have := kt_le _ _ _ _ _ (Nat.le_refl _) h'
              omega
          · cases h
theorem kt_err : ∀ (n : Nat) (l acc : List UInt8) (e : Nat), l.length ≤ n → kt l acc = .error e → e ≠ 0 := by
  intro n
  induction n with
  | zero => intro l acc e h0 h
            obtain rfl : l = [] := List.length_eq_zero_iff.1 (by omega)
            cases h
            omega
  | succ n ih =>
    intro l acc e h0 h
    match l with
    | [] => cases h; omega
    | [_] => cases h; omega
    | b :: c :: u =>
      unfold kt at h
      simp only [List.length_cons] at h0
      split at h
      · exact ih _ _ _ (by simp; omega) h
      · split at h
        · exact ih _ _ _ (by omega) h
        · split at h
          · split at h
            · cases h; omega
            · cases h
          · cases h; omega
theorem kv_err {l : List UInt8} {e : Nat} (h : kv l = .error e) : e ≠ 0 := by
  unfold kv at h
  split at h
  · cases h; omega
  · split at h
    · cases h
    · split at h
      · unfold kn at h
        split at h
        · rename_i h'
          cases h
          unfold ki at h'
          split at h'
          · cases h'; omega
          · cases h'
        · cases h
      · split at h
        · unfold kx at h
          split at h
          · rename_i h'; cases h; exact kt_err _ _ _ _ (Nat.le_refl _) h'
          · cases h
        · split at h
          · unfold kx at h
            split at h
            · rename_i h'; cases h; exact kt_err _ _ _ _ (Nat.le_refl _) h'
            · cases h
          · cases h; omega
theorem kr_err0 : ∀ {n : Nat} {l : List UInt8} {e : Nat}, kr n l = .error e → e ≠ 0 := by
  intro n
  induction n with
  | zero =>
    intro l e h
    cases l with
    | nil => cases h
    | cons b t => cases h; omega
  | succ n ih =>
    intro l e h
    cases l with
    | nil => cases h
    | cons b t =>
      unfold kr at h
      split at h
      · rename_i h'; cases h; exact kv_err h'
      · split at h
        · rename_i h'; cases h; exact ih h'
        · cases h
end KR
end Go.Proofs.Ytpalikdnpchdeaa
