/-
  Lex, step by step, as a plain function; a row of tokens that a call owns.
-/
import Derived.Test.YtoagobpkenfbkaaGreatDoorLxW
import Derived.Test.YtoagobpkenfbkaaGreatDoorLxH
namespace Go.Proofs.YtoagobpkenfbkaaGreatDoor
open Go.ChangeShapes Go.WideShapes Go.ChangeAt Go.RowKit Go.Shelf
set_option linter.unusedVariables false
set_option linter.unusedSimpArgs false

namespace LX
open VS (Bs)
abbrev Told := Except (Nat × Nat) (List (Nat × Tk))
/-- these tokens ahead of what is told of the rest -/
def pfx (ps : List (Nat × Tk)) (r : Told) : Told := match r with
  | .ok qs => .ok (ps ++ qs)
  | .error e => .error e
theorem pfx_nil (r : Told) : pfx [] r = r := by cases r <;> rfl
def push (p : Nat × Tk) (r : Told) : Told := match r with
  | .error e => .error e
  | .ok ts => .ok (p :: ts)
theorem pfx_cons (ps : List (Nat × Tk)) (p : Nat × Tk) (r : Told) : pfx ps (push p r) = pfx (ps ++ [p]) r := by
  cases r with
  | error e => rfl
  | ok ts => simp [pfx, push]
theorem go_skip (f at_ : Nat) (l : Bs) (room : Nat) : go (f + 1) at_ l room = go (f + 1) (at_ + sk false l) (l.drop (sk false l)) room := by
  rw [go_step, go_step]
  simp only [sk_stop, List.drop_zero, Nat.add_zero]
/-- at a place behind blanks -/
theorem go_here {f at_ : Nat} {b : UInt8} {r : Bs} {room : Nat} (h : sk false (b :: r) = 0) : go (f + 1) at_ (b :: r) room = if room = 0 then .error (at_, 2)
      else match first (b :: r) with
        | .error e => .error (at_, e)
        | .ok (t, n) => push (at_, t) (go f (at_ + n) ((b :: r).drop n) (room - 1)) := by
  rw [go_step]
  simp only [h, List.drop_zero, Nat.add_zero]
  rfl
theorem go_done (f at_ room : Nat) : go (f + 1) at_ [] room = .ok [] := by rw [go_step]; rfl
/-- where the loop of Lex stands -/
structure At (l : Bs) (X : Told) (k : Nat) (ps : List (Nat × Tk)) : Prop where
  le : k ≤ l.length
  gap : sk false (l.drop k) = 0
  few : ps.length ≤ k
  room : ps.length ≤ 120
  rest : X = pfx ps (go (l.length + 1 - ps.length) k (l.drop k) (120 - ps.length))
theorem At.start (l : Bs) : At l (go (l.length + 1) 0 l 120) (sk false l) [] := by
  refine ⟨sk_le _ _, sk_stop _ _, Nat.zero_le _, by decide, ?_⟩
  rw [pfx_nil]
  have := go_skip l.length 0 l 120
  rw [Nat.zero_add] at this
  exact this
theorem At.stop {l : Bs} {X : Told} {k : Nat} {ps : List (Nat × Tk)} (h : At l X k ps) (hk : ¬ k < l.length) : X = .ok ps := by
  have hle := h.le
  have hf := h.few
  rw [h.rest, List.drop_of_length_le (by omega), show l.length + 1 - ps.length = (l.length - ps.length) + 1 by omega, go_done]
  simp [pfx]
theorem At.many {l : Bs} {X : Told} {k : Nat} {ps : List (Nat × Tk)} (h : At l X k ps) (hk : k < l.length) (hp : ps.length = 120) : X = .error (k, 2) := by
  have hf := h.few
  have hg := h.gap
  have hr := h.rest
  rw [show l.length + 1 - ps.length = (l.length - ps.length) + 1 by omega] at hr
  rw [List.drop_eq_getElem_cons hk] at hr hg
  rw [go_here hg, if_pos (by omega)] at hr
  exact hr
theorem At.bad {l : Bs} {X : Told} {k : Nat} {ps : List (Nat × Tk)} {e : Nat} (h : At l X k ps) (hk : k < l.length) (hp : ps.length ≠ 120) (he : first (l.drop k) = .error e) : X = .error (k, e) := by
  have hf := h.few
  have hg := h.gap
  have hr := h.rest
  have h120 := h.room
  rw [show l.length + 1 - ps.length = (l.length - ps.length) + 1 by omega] at hr
  rw [List.drop_eq_getElem_cons hk] at hr hg he
  rw [go_here hg, if_neg (by omega), he] at hr
  exact hr
theorem At.next {l : Bs} {X : Told} {k : Nat} {ps : List (Nat × Tk)} {t : Tk} {n : Nat} (h : At l X k ps) (hk : k < l.length) (hp : ps.length ≠ 120) (he : first (l.drop k) = .ok (t, n)) :
    k + n ≤ l.length ∧ 0 < n ∧ At l X (k + n + sk false (l.drop (k + n))) (ps ++ [(k, t)]) := by
  have hf := h.few
  have hg := h.gap
  have hr := h.rest
  have h120 := h.room
  have hn := first_le he
  rw [List.length_drop] at hn
  have hpos := (first_ok he).2
  have hsk := sk_le false (l.drop (k + n))
  rw [List.length_drop] at hsk
  refine ⟨by omega, hpos, by omega, ?_, by simp; omega, by simp; omega, ?_⟩
  · rw [← List.drop_drop]
    exact sk_stop _ _
  · rw [show l.length + 1 - ps.length = (l.length - ps.length) + 1 by omega] at hr
    have hd := List.drop_eq_getElem_cons hk
    rw [hd] at hr hg he
    rw [go_here hg, if_neg (by omega), he, ← hd] at hr
    simp only at hr
    rw [pfx_cons, List.drop_drop] at hr
    rw [hr]
    congr 1
    rw [List.length_append, List.length_cons, List.length_nil, show l.length + 1 - (ps.length + (0 + 1)) = (l.length - ps.length - 1) + 1 by omega, show l.length - ps.length = (l.length - ps.length - 1) + 1 by omega, go_skip, ← List.drop_drop]
    rw [show 120 - (ps.length + (0 + 1)) = 120 - ps.length - 1 by omega, show l.length - ps.length - 1 + 1 - 1 + 1 = l.length - ps.length - 1 + 1 by omega]
    simp only [List.drop_drop, Nat.add_assoc]
theorem lex_go {l : Bs} (h : ¬ 300 < l.length) : lex l = go (l.length + 1) 0 l 120 := if_neg h
theorem lex_long {l : Bs} (h : 300 < l.length) : lex l = .error (0, 2) := if_pos h
end LX

def tokC (p : Nat × LX.Tk) : List Value := [.int .i64 p.2.k, .int .i64 (p.1 : Int), .int .i64 p.2.n, .string ⟨p.2.s.toArray⟩]
def toksV (l : List (Nat × LX.Tk)) : List Value := l.flatMap tokC
theorem toksV_snoc (l : List (Nat × LX.Tk)) (x : Nat × LX.Tk) : toksV (l ++ [x]) = toksV l ++ tokC x := by simp [toksV]
/-- a row of tokens that the call owns -/
abbrev Ot (B : Nat) (v : Value) (l : List (Nat × LX.Tk)) (w : World) : Prop := w.ownsRow B 29 4 v l.length (toksV l)
theorem Ot.keep {B : Nat} {v : Value} {l : List (Nat × LX.Tk)} {w w' : World} (h : Ot B v l w) (hk : ∀ k, B ≤ k → k < w.heap.size → w'.heap[k]? = w.heap[k]?) : Ot B v l w' := by
  refine ⟨h.1, ?_⟩
  rcases h.2 with h0 | ⟨g, cap, cur, h1, h2, h3, h4⟩
  · exact Or.inl h0
  · exact Or.inr ⟨g, cap, cur, h1, h2, (hk g h2 (Array.getElem?_eq_some_iff.1 h3).1).trans h3, h4⟩
theorem Tryz.infoTok : (Tryz.prog.info? 29).map (fun i => (i.zero, i.size, i.bytes)) = some (some (.agg #[.int .i64 0, .int .i64 0, .int .i64 0, .string ⟨#[]⟩]), 4, 40) := by kernel_rfl
end Go.Proofs.YtoagobpkenfbkaaGreatDoor
