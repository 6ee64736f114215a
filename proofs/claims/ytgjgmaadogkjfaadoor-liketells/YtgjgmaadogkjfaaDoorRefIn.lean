/-
  The document's test of a byte, and how many bytes a first piece has.
-/
import Derived.Test.YtgjgmaadogkjfaaDoorBegin
namespace Go.Proofs.YtgjgmaadogkjfaaDoor
open Go.ChangeShapes Go.WideShapes Go.ChangeAt Go.RowKit Go.Shelf
set_option linter.unusedVariables false

theorem byte_at (S : ByteArray) (k : Nat) (h : k < S.size) : S.data.toList[k]? = some S[k] := by
  rw [Array.getElem?_toList]
  exact Array.getElem?_eq_getElem h
theorem wrap_byte (b : UInt8) : wrap64 (b.toNat : Int) = (b.toNat : Int) := by
  have := b.toNat_lt
  unfold wrap64
  omega
theorem in_out (S : ByteArray) (i : Int) (a b : Nat) (h0 : 0 ≤ i) (h : ¬ i < (S.size : Int)) : LK.inr S.data.toList i.toNat a b = false := by
  unfold LK.inr
  rw [List.getElem?_eq_none]
  rw [Array.length_toList]
  have e : S.data.size = S.size := rfl
  omega
theorem in_at (S : ByteArray) (k : Nat) (lo hi : Int) (h1 : 0 ≤ lo) (h2 : 0 ≤ hi) (h : k < S.size) : LK.inr S.data.toList k lo.toNat hi.toNat = (decide (lo ≤ (S[k].toNat : Int)) && decide ((S[k].toNat : Int) ≤ hi)) := by
  unfold LK.inr
  rw [byte_at S k h]
  show (decide (lo.toNat ≤ S[k].toNat) && decide (S[k].toNat ≤ hi.toNat)) = _
  congr 1
  · exact decide_eq_decide.2 (by omega)
  · exact decide_eq_decide.2 (by omega)

set_option maxHeartbeats 1000000 in
theorem in_core (S : ByteArray) (i lo hi : Int) (r : Bool) (w : World) (fit : (¬ i < (S.size : Int) ∧ r = false) ∨ ∃ (k : Nat) (h : k < S.size), i = k ∧ r = (decide (lo ≤ (S[k].toNat : Int)) && decide ((S[k].toNat : Int) ≤ hi))) :
    Calls Tryd.prog 39 #[.string S, .int .i64 i, .int .i64 lo, .int .i64 hi] w fun e w' => e = .returned (.bool r) ∧ w' = w := by
  rcases fit with ⟨h1, rfl⟩ | ⟨k, hk, rfl, rfl⟩
  · go_enter Tryd.func39, Tryd.ntmps39
    go_wp2
    go_ret
    exact ⟨rfl, rfl⟩
  · have hlt : (k : Int) < (S.size : Int) := by omega
    have hw := wrap_byte S[k]
    go_enter Tryd.func39, Tryd.ntmps39
    go_wp2
    · go_ret
      have hh : lo ≤ (S[k].toNat : Int) := by assumption
      exact ⟨by simp [hh], rfl⟩
    · go_ret
      have hh : (S[k].toNat : Int) < lo := by assumption
      exact ⟨by rw [decide_eq_false (by omega)]; rfl, rfl⟩

theorem in_any (S : ByteArray) (i lo hi : Int) (h0 : 0 ≤ i) (h1 : 0 ≤ lo) (h2 : 0 ≤ hi) (w : World) :
    Calls Tryd.prog 39 #[.string S, .int .i64 i, .int .i64 lo, .int .i64 hi] w fun e w' => e = .returned (.bool (LK.inr S.data.toList i.toNat lo.toNat hi.toNat)) ∧ w' = w := by
  refine in_core S i lo hi _ w ?_
  by_cases h : i < (S.size : Int)
  · have hk : i.toNat < S.size := by omega
    exact Or.inr ⟨i.toNat, hk, by omega, in_at S i.toNat lo hi h1 h2 hk⟩
  · exact Or.inl ⟨h, in_out S i _ _ h0 h⟩
end Go.Proofs.YtgjgmaadogkjfaaDoor
