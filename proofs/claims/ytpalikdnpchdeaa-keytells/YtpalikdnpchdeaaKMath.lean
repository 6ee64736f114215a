/-
  A row as a key, as plain functions on lists: written and read.
-/
import Derived.Test.YtpalikdnpchdeaaWMath
namespace Go.Proofs.Ytpalikdnpchdeaa
namespace KM
open VM

/-- the eight bytes of a number below 2 to the 64, the greatest first -/
def be : Nat → Nat → List UInt8
  | 0, _ => []
  | k + 1, u => UInt8.ofNat (u / 256 ^ k) :: be k (u % 256 ^ k)
/-- a number of 64 bits, its highest bit turned -/
def turn (n : Int) : Nat := (n + 9223372036854775808).toNat
def esc : List UInt8 → List UInt8
  | [] => [0, 1]
  | b :: t => if b.toNat = 0 then 0 :: 255 :: esc t else b :: esc t
/-- the key of a value -/
def kb (x : Vl) : List UInt8 :=
  if x.k = 0 then [5]
  else if x.k = 1 then 16 :: be 8 (turn x.n)
  else if x.k = 2 then 32 :: esc x.s.data.toList
  else 48 :: esc x.s.data.toList
def row (l : List Vl) : List UInt8 := l.flatMap kb

theorem esc_len (l : List UInt8) : (esc l).length ≤ 2 * l.length + 2 := by
  induction l with
  | nil => simp [esc]
  | cons b t ih =>
    unfold esc
    split <;> simp <;> omega
theorem be_len (k u : Nat) : (be k u).length = k := by
  induction k generalizing u with
  | zero => rfl
  | succ k ih => simp [be, ih]
theorem kb_len {x : Vl} (h : x.s.size ≤ 16) : (kb x).length ≤ 35 := by
  have e : x.s.data.toList.length = x.s.size := by rw [Array.length_toList]; rfl
  have := esc_len x.s.data.toList
  unfold kb
  split
  · simp
  · split
    · simp [be_len]
    · split <;> simp <;> omega
end KM
end Go.Proofs.Ytpalikdnpchdeaa
