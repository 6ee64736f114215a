/-
  Reserved words: a text without blanks stands between two blanks of the list of all of them just if it is one of them.
-/
import Derived.Test.YtoagobpkenfbkaaGreatDoorLxM
namespace Go.Proofs.YtoagobpkenfbkaaGreatDoor
set_option linter.unusedVariables false
namespace LX
open VS (Bs dig)

def rsv : List Bs := [[97, 110, 100], [97, 110, 121], [97, 115], [97, 115, 99], [98, 101, 103, 105, 110], [98, 101, 116, 119, 101, 101, 110], [98, 108, 111, 98], [98, 121], [99, 111, 109, 109, 105, 116], [99, 111, 117, 110, 116], [99, 114, 101, 97, 116, 101], [100, 101, 108, 101, 116, 101], [100, 101, 115, 99], [100, 105, 115, 116, 105, 110, 99, 116], [100, 114, 111, 112], [102, 114, 111, 109], [103, 114, 111, 117, 112], [105, 110], [105, 110, 115, 101, 114, 116], [105, 110, 116, 101, 103, 101, 114], [105, 110, 116, 111], [105, 115], [108, 105, 107, 101], [108, 105, 109, 105, 116], [109, 97, 120], [109, 105, 110], [110, 111, 116], [110, 117, 108, 108], [111, 102, 102, 115, 101, 116], [111, 114], [111, 114, 100, 101, 114], [114, 111, 108, 108, 98, 97, 99, 107], [115, 101, 108, 101, 99, 116], [115, 101, 116], [115, 117, 109], [116, 97, 98, 108, 101], [116, 101, 120, 116], [117, 110, 105, 113, 117, 101], [117, 112, 100, 97, 116, 101], [118, 97, 108, 117, 101, 115], [119, 104, 101, 114, 101]]
def rall : Bs := 32 :: rsv.flatMap (fun w => w ++ [32])
def isWd (s : Bs) : Bool := match s with
  | [] => false
  | b :: r => small b && (b :: r).all (fun c => small c || dig c)
theorem wd_noblank {s : Bs} (h : isWd s = true) : ∀ b ∈ s, b ≠ 32 := by
  intro b hb h32
  subst h32
  cases s with
  | nil => cases hb
  | cons c r =>
    simp only [isWd, Bool.and_eq_true, List.all_eq_true] at h
    have := h.2 32 hb
    revert this
    decide
theorem take_nb (s : Bs) (r : Bs) (h : ∀ b ∈ s, b ≠ 32) : (s ++ 32 :: r).takeWhile (fun b => b != 32) = s := by
  induction s with
  | nil => simp
  | cons a t ih =>
    have ha := h a (by simp)
    simp only [List.cons_append]
    rw [List.takeWhile_cons, if_pos (by simpa using ha), ih (fun b hb => h b (by simp [hb]))]
theorem rall_runs : ∀ i, i < rall.length → ((rall.drop (i + 1)).takeWhile (fun b => b != 32) ∈ [] :: rsv ∨ rall[i]? ≠ some 32) := by decide +kernel
/-- found in the list of all -/
theorem rsv_of_found {s : Bs} (hw : isWd s = true) (i : Nat) (hi : i + s.length + 2 ≤ rall.length) (h : (rall.drop i).take (s.length + 2) = 32 :: (s ++ [32])) : s ∈ rsv := by
  have hd : rall.drop i = 32 :: (s ++ 32 :: rall.drop (i + (s.length + 2))) := by
    have := List.take_append_drop (s.length + 2) (rall.drop i)
    rw [h, List.drop_drop] at this
    rw [← this]
    simp
  have h0 : rall[i]? = some 32 := by
    have := congrArg (·[0]?) hd
    simpa [List.getElem?_drop] using this
  have h1 : rall.drop (i + 1) = s ++ 32 :: rall.drop (i + (s.length + 2)) := by
    have := congrArg (List.drop 1) hd
    rw [List.drop_drop] at this
    simpa using this
  rcases rall_runs i (by omega) with h2 | h2
  · rw [h1, take_nb _ _ (wd_noblank hw)] at h2
    rcases List.mem_cons.1 h2 with rfl | h3
    · cases hw
    · exact h3
  · exact absurd h0 h2
theorem rsv_wd : ∀ s ∈ rsv, isWd s = true := by decide +kernel
/-- each one is found -/
def at_ (s : Bs) : Nat := ((List.range rall.length).find? (fun i => (rall.drop i).take (s.length + 2) == 32 :: (s ++ [32]))).getD 0
theorem rsv_found : ∀ s ∈ rsv, at_ s + s.length + 2 ≤ rall.length ∧ (rall.drop (at_ s)).take (s.length + 2) = 32 :: (s ++ [32]) := by decide +kernel
end LX
end Go.Proofs.YtoagobpkenfbkaaGreatDoor
