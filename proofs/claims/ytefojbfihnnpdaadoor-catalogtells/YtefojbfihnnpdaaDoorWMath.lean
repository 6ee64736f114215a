/-
  A row as bytes, as plain functions on lists.
-/
import Derived.Test.YtefojbfihnnpdaaDoorRMath
namespace Go.Proofs.YtefojbfihnnpdaaDoor
namespace WM
open VM

def zig (n : Int) : Nat := (if 0 ≤ n then 2 * n else -2 * n - 1).toNat
/-- what stands behind the kind -/
def body (x : Vl) : List UInt8 :=
  if x.k = 1 then NM.enc (zig x.n) else if x.k = 2 ∨ x.k = 3 then NM.enc x.s.size ++ x.s.data.toList else []
def vb (x : Vl) : List UInt8 := UInt8.ofNat x.k.toNat :: body x
def row (l : List Vl) : List UInt8 := NM.enc l.length ++ l.flatMap vb

theorem chk_ok {x : Vl} (h : chk x = 0) : 0 ≤ x.k ∧ x.k ≤ 3 ∧ (x.n ≠ 0 → x.k = 1) ∧ (x.s.size ≠ 0 → x.k = 2 ∨ x.k = 3) ∧ x.s.size ≤ 16 := by
  unfold chk at h
  split at h
  · cases h
  · split at h
    · cases h
    · split at h
      · cases h
      · rename_i h1 h2 h3
        refine ⟨by omega, by omega, fun hn => ?_, fun hs => ?_, by omega⟩
        · by_cases c : x.k = 1
          · exact c
          · exact absurd (Or.inl ⟨hn, c⟩) h2
        · by_cases c : x.k = 2 ∨ x.k = 3
          · exact c
          · exact absurd (Or.inr ⟨hs, c⟩) h2
theorem chkAll_ok {l : List Vl} (h : chkAll l = 0) : ∀ x ∈ l, chk x = 0 := by
  induction l with
  | nil => intro x hx; simp at hx
  | cons a t ih =>
    unfold chkAll at h
    intro x hx
    split at h
    · rename_i ha
      rcases List.mem_cons.1 hx with rfl | hx
      · exact ha
      · exact ih h x hx
    · rename_i ha
      exact absurd h ha
theorem chkRow_ok {l : List Vl} (h : chkRow l = 0) : l.length ≤ 8 ∧ ∀ x ∈ l, chk x = 0 := by
  unfold chkRow at h
  split at h
  · cases h
  · exact ⟨by omega, chkAll_ok h⟩
theorem body_len {x : Vl} (h : chk x = 0) (hn : -9223372036854775808 ≤ x.n ∧ x.n ≤ 9223372036854775807) : (body x).length ≤ 30 := by
  have hx := chk_ok h
  unfold body
  split
  · have : zig x.n < 18446744073709551616 := by unfold zig; split <;> omega
    have := NM.enc_ten this
    omega
  · split
    · have h1 : x.s.size < 18446744073709551616 := by omega
      have := NM.enc_ten h1
      have e : x.s.data.toList.length = x.s.size := by rw [Array.length_toList]; rfl
      rw [List.length_append, e]
      omega
    · simp
end WM
end Go.Proofs.YtefojbfihnnpdaaDoor
