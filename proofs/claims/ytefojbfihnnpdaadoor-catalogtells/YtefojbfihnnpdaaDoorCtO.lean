/-
  What right forms of tables are; their rows.
-/
import Derived.Test.YtefojbfihnnpdaaDoorCtM
import Derived.Test.YtefojbfihnnpdaaDoorLfMath
set_option linter.unusedVariables false
namespace Go.Proofs.YtefojbfihnnpdaaDoor
namespace CT
def mk (so : Bool) (m : Nat) : Nat := if so then m else 45
/-- a column's marks -/
def mrk (c : Cl) : ByteArray := ⟨#[UInt8.ofNat (48 + c.k.toNat), UInt8.ofNat (mk c.nn 110), UInt8.ofNat (mk c.u 117)]⟩
def ct (c : Cl) : ByteArray := mrk c ++ c.n
def row (s : Sc) : List VM.Vl := ⟨2, 0, s.n⟩ :: s.c.map fun c => ⟨2, 0, ct c⟩
def rows (l : List Sc) : List LF.En := l.map fun s => (s.id, row s)
structure OkC (c : Cl) : Prop where
  nm : nm c.n = true
  lo : 0 ≤ c.k
  hi : c.k ≤ 3
structure OkT (s : Sc) : Prop where
  lo : 1 ≤ s.id
  hi : s.id ≤ 999
  nm : nm s.n = true
  one : s.c ≠ []
  six : s.c.length ≤ 6
  each : ∀ c ∈ s.c, OkC c
theorem chkC_ok : ∀ (l : List Cl) (seen : List Bs), chkC seen l = 0 → ∀ c ∈ l, OkC c
  | [], _, _ => by simp
  | c :: l, seen, h => by
    unfold chkC at h
    by_cases h1 : nm c.n = false
    · rw [if_pos h1] at h; simp at h
    rw [if_neg h1] at h
    by_cases h2 : c.k < 0 ∨ 3 < c.k
    · rw [if_pos h2] at h; simp at h
    rw [if_neg h2] at h
    by_cases h3 : bs c.n ∈ seen
    · rw [if_pos h3] at h; simp at h
    rw [if_neg h3] at h
    intro x hx
    rcases List.mem_cons.1 hx with rfl | hx
    · exact ⟨by simpa using h1, by omega, by omega⟩
    · exact chkC_ok l _ h x hx
theorem chkT_ok {n : ByteArray} {c : List Cl} (h : chkT n c = 0) : nm n = true ∧ c ≠ [] ∧ c.length ≤ 6 ∧ ∀ x ∈ c, OkC x := by
  unfold chkT at h
  by_cases h1 : nm n = false ∨ c = []
  · rw [if_pos h1] at h; simp at h
  rw [if_neg h1] at h
  by_cases h2 : 6 < c.length
  · rw [if_pos h2] at h; simp at h
  rw [if_neg h2] at h
  simp only [not_or, Bool.not_eq_false] at h1
  exact ⟨h1.1, h1.2, by omega, chkC_ok c [] h⟩
theorem chkS_ok : ∀ (l : List Sc) (last : Int) (seen : List Bs), chkS last seen l = 0 → ∀ s ∈ l, OkT s
  | [], _, _, _ => by simp
  | s :: l, last, seen, h => by
    unfold chkS at h
    by_cases h1 : s.id < 1 ∨ 999 < s.id
    · rw [if_pos h1] at h; simp at h
    rw [if_neg h1] at h
    by_cases h2 : s.id ≤ last
    · rw [if_pos h2] at h; simp at h
    rw [if_neg h2] at h
    by_cases h3 : chkT s.n s.c ≠ 0
    · rw [if_pos h3] at h; exact absurd h h3
    rw [if_neg h3] at h
    by_cases h4 : bs s.n ∈ seen
    · rw [if_pos h4] at h; simp at h
    rw [if_neg h4] at h
    intro x hx
    rcases List.mem_cons.1 hx with rfl | hx
    · obtain ⟨a, b, c, d⟩ := chkT_ok (by simpa using h3)
      exact ⟨by omega, by omega, a, b, c, d⟩
    · exact chkS_ok l _ _ h x hx
theorem chk_ok {l : List Sc} (h : chk l = 0) : l.length ≤ 6 ∧ ∀ s ∈ l, OkT s := by
  unfold chk at h
  by_cases h1 : 6 < l.length
  · rw [if_pos h1] at h; simp at h
  rw [if_neg h1] at h
  exact ⟨by omega, chkS_ok l 0 [] h⟩
end CT
end Go.Proofs.YtefojbfihnnpdaaDoor
