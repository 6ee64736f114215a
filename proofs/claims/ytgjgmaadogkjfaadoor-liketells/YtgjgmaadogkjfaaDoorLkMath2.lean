/-
  More of pieces and parts: sizes, beginnings, escapes.
-/
import Derived.Test.YtgjgmaadogkjfaaDoorLkMath
namespace Go.Proofs.YtgjgmaadogkjfaaDoor
namespace LK

theorem pc_four (l : Bs) : ∀ x ∈ pc l, x.length ≤ 4 := by
  refine pc_ind (Q := fun l => ∀ x ∈ pc l, x.length ≤ 4) (by simp [pc_nil]) (fun l hl ih x hx => ?_) l
  rw [pc_cons hl, List.mem_cons] at hx
  rcases hx with rfl | hx
  · have := sz_four l
    rw [List.length_take]; omega
  · exact ih x hx
theorem prs_mem : ∀ (l : List Bs) (e : Bool) (q : Part), q ∈ (prs e l).2 → q.2 ∈ l
  | [], e, q, h => by simp [prs] at h
  | x :: l, e, q, h => by
    unfold prs at h
    split at h
    · exact List.mem_cons_of_mem _ (prs_mem l true q h)
    · simp only [List.mem_cons] at h
      rcases h with rfl | h
      · exact List.mem_cons_self
      · exact List.mem_cons_of_mem _ (prs_mem l false q h)
theorem run_mem (l : List Bs) (q : Part) (h : q ∈ (run l).2) : q.2 ∈ l := by
  rw [run_eq] at h
  exact prs_mem l false q h

/-- the plain parts that a pattern begins by, put together -/
def pre (P : List Part) : Bs := (P.takeWhile fun q => q.1 == 97).flatMap fun q => q.2
def whole (P : List Part) : Bool := P.all fun q => q.1 == 97
/-- the escaped text of pieces -/
def esc (l : List Bs) : Bs := l.flatMap fun x => if kd x = 97 then x else 92 :: x
theorem esc_snoc (l : List Bs) (x : Bs) : esc (l ++ [x]) = esc l ++ (if kd x = 97 then x else 92 :: x) := by simp [esc]
theorem esc_len (l : List Bs) (h : ∀ x ∈ l, x.length ≤ 4) : (esc l).length ≤ 5 * l.length := by
  induction l with
  | nil => simp [esc]
  | cons x l ih =>
    have h1 := ih (fun y hy => h y (List.mem_cons_of_mem _ hy))
    have h2 := h x List.mem_cons_self
    have e : esc (x :: l) = (if kd x = 97 then x else 92 :: x) ++ esc l := by simp [esc]
    rw [e, List.length_append, List.length_cons]
    split
    · omega
    · simp only [List.length_cons]; omega
end LK
end Go.Proofs.YtgjgmaadogkjfaaDoor
