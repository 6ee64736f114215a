/-
  Reading a row from bytes, as plain functions on lists.
-/
import Derived.Test.YtefojbfihnnpdaaDoorNumMath
import Derived.Test.YtefojbfihnnpdaaDoorVMath
namespace Go.Proofs.YtefojbfihnnpdaaDoor
namespace RM
open VM

def zag (u : Nat) : Int := if (u : Int) % 2 = 0 then (u : Int) / 2 else -((u : Int) / 2) - 1

/-- a number, and what is behind it -/
def nu (l : List UInt8) : Except Nat (Nat × List UInt8) :=
  if (NM.rd l 0 0).2.2 = 0 then .ok ((NM.rd l 0 0).1, l.drop (NM.rd l 0 0).2.1) else .error (NM.rd l 0 0).2.2
def cnt (most : Nat) (l : List UInt8) : Except Nat (Nat × List UInt8) :=
  match nu l with
  | .error e => .error e
  | .ok (n, t) => if most < n then .error 2 else .ok (n, t)
def tx (k : Nat) (l : List UInt8) : Except Nat (Vl × List UInt8) :=
  match cnt 16 l with
  | .error e => .error e
  | .ok (n, t) => if t.length < n then .error 5 else .ok (⟨k, 0, ⟨(t.take n).toArray⟩⟩, t.drop n)
def nt (l : List UInt8) : Except Nat (Vl × List UInt8) :=
  match nu l with
  | .error e => .error e
  | .ok (n, t) => .ok (⟨1, zag n, ⟨#[]⟩⟩, t)
/-- a value -/
def vl (l : List UInt8) : Except Nat (Vl × List UInt8) :=
  match l with
  | [] => .error 5
  | b :: t =>
    if b.toNat = 0 then .ok (⟨0, 0, ⟨#[]⟩⟩, t)
    else if b.toNat = 1 then nt t
    else if b.toNat = 2 ∨ b.toNat = 3 then tx b.toNat t
    else .error 7
/-- so many values -/
def vls : Nat → List UInt8 → Except Nat (List Vl × List UInt8)
  | 0, l => .ok ([], l)
  | n + 1, l =>
    match vl l with
    | .error e => .error e
    | .ok (x, t) =>
      match vls n t with
      | .error e => .error e
      | .ok (xs, u) => .ok (x :: xs, u)
/-- a row -/
def row (l : List UInt8) : Except Nat (List Vl × List UInt8) :=
  match cnt 8 l with
  | .error e => .error e
  | .ok (n, t) => vls n t

def pre (xs : List Vl) (x : Except Nat (List Vl × List UInt8)) : Except Nat (List Vl × List UInt8) :=
  match x with
  | .error e => .error e
  | .ok (ys, u) => .ok (xs ++ ys, u)
theorem pre_nil (x : Except Nat (List Vl × List UInt8)) : pre [] x = x := by
  unfold pre
  split <;> rfl
theorem vls_err {n : Nat} {l : List UInt8} {e : Nat} (h : vl l = .error e) (xs : List Vl) : pre xs (vls (n + 1) l) = .error e := by
  unfold vls pre
  rw [h]
theorem vls_ok {n : Nat} {l t : List UInt8} {x : Vl} (h : vl l = .ok (x, t)) (xs : List Vl) : pre xs (vls (n + 1) l) = pre (xs ++ [x]) (vls n t) := by
  unfold pre
  rw [vls, h]
  simp only
  split <;> rename_i h'
  · split at h'
    · cases h'; rfl
    · cases h'
  · split at h'
    · cases h'
    · cases h'; simp
theorem rd_le (l : List UInt8) : (NM.rd l 0 0).2.1 ≤ l.length := by
  by_cases h : (NM.rd l 0 0).2.2 = 0
  · obtain ⟨m, _, _, h3, _⟩ := NM.rd_only l 0 0 h
    omega
  · have := (NM.rd_bad l 0 0 h).2
    omega
theorem nu_le {l t : List UInt8} {n : Nat} (h : nu l = .ok (n, t)) : t.length ≤ l.length := by
  unfold nu at h
  split at h
  · cases h; simp
  · cases h
theorem cnt_le {l t : List UInt8} {m n : Nat} (h : cnt m l = .ok (n, t)) : t.length ≤ l.length ∧ n ≤ m := by
  unfold cnt at h
  split at h
  · cases h
  · rename_i n' t' h'
    split at h
    · cases h
    · cases h
      exact ⟨nu_le h', by omega⟩
theorem vl_le {l t : List UInt8} {x : Vl} (h : vl l = .ok (x, t)) : t.length ≤ l.length := by
  unfold vl at h
  split at h
  · cases h
  · rename_i b u
    simp only [List.length_cons]
    split at h
    · cases h; omega
    · split at h
      · unfold nt at h
        split at h
        · cases h
        · rename_i n t' h'
          cases h
          have := nu_le h'
          omega
      · split at h
        · unfold tx at h
          split at h
          · cases h
          · rename_i n t' h'
            split at h
            · cases h
            · cases h
              have := (cnt_le h').1
              simp only [List.length_drop]
              omega
        · cases h
theorem nu_err {l : List UInt8} {e : Nat} (h : nu l = .error e) : e ≠ 0 := by
  unfold nu at h
  split at h
  · cases h
  · cases h; assumption
theorem cnt_err {m : Nat} {l : List UInt8} {e : Nat} (h : cnt m l = .error e) : e ≠ 0 := by
  unfold cnt at h
  split at h
  · rename_i h'; cases h; exact nu_err h'
  · split at h
    · cases h; omega
    · cases h
theorem vl_err {l : List UInt8} {e : Nat} (h : vl l = .error e) : e ≠ 0 := by
  unfold vl at h
  split at h
  · cases h; omega
  · split at h
    · cases h
    · split at h
      · unfold nt at h
        split at h
        · rename_i h'; cases h; exact nu_err h'
        · cases h
      · split at h
        · unfold tx at h
          split at h
          · rename_i h'; cases h; exact cnt_err h'
          · split at h
            · cases h; omega
            · cases h
        · cases h; omega
theorem vls_err0 : ∀ {n : Nat} {l : List UInt8} {e : Nat}, vls n l = .error e → e ≠ 0 := by
  intro n
  induction n with
  | zero => intro l e h; cases h
  | succ n ih =>
    intro l e h
    unfold vls at h
    split at h
    · rename_i h'; cases h; exact vl_err h'
    · split at h
      · rename_i h'; cases h; exact ih h'
      · cases h
theorem row_err {l : List UInt8} {e : Nat} (h : row l = .error e) : e ≠ 0 := by
  unfold row at h
  split at h
  · rename_i h'; cases h; exact cnt_err h'
  · exact vls_err0 h
theorem vls_le : ∀ {n : Nat} {l t : List UInt8} {xs : List Vl}, vls n l = .ok (xs, t) → t.length ≤ l.length := by
  intro n
  induction n with
  | zero => intro l t xs h; cases h; omega
  | succ n ih =>
    intro l t xs h
    unfold vls at h
    split at h
    · cases h
    · rename_i h'
      have h1 := vl_le h'
      split at h
      · cases h
      · rename_i h''
        cases h
        have := ih h''
        omega
theorem row_le {l t : List UInt8} {xs : List Vl} (h : row l = .ok (xs, t)) : t.length ≤ l.length := by
  unfold row at h
  split at h
  · cases h
  · rename_i h'
    have h1 := (cnt_le h').1
    have := vls_le h
    omega
end RM
end Go.Proofs.YtefojbfihnnpdaaDoor
