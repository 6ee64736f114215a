/-
  Slices of pages, of writes and of ops in memory, as plain lists.
-/
import Derived.Test.YtcgafodaohmcmaaBase
import Derived.Test.YtcgafodaohmcmaaJnB
namespace Go.Proofs.Ytcgafodaohmcmaa
open Go.ChangeShapes Go.WideShapes Go.ChangeAt Go.RowKit
set_option linter.unusedVariables false
set_option linter.unusedSimpArgs false

theorem hideP {p : Prop} (h : p) : Hid p := h
/-- how one of them lies in memory: so many cells, and these -/
structure Cd (α : Type) where
  k : Nat
  c : α → List Value
  pos : 0 < k
  len : ∀ x, (c x).length = k
  one : ∀ x, ∀ u ∈ c x, u.oneCell' = true
def cdP : Cd JN.B := ⟨1, fun p => [.string p], by decide, fun _ => rfl, fun x u h => by simp at h; subst h; rfl⟩
def cdW : Cd JN.W := ⟨2, fun x => [.int .i64 x.no, .string x.t], by decide, fun _ => rfl, fun x u h => by simp at h; rcases h with rfl | rfl <;> rfl⟩
def cdO : Cd JN.O := ⟨3, fun x => [.int .i64 x.kind, .int .i64 x.no, .string x.t], by decide, fun _ => rfl, fun x u h => by simp at h; rcases h with rfl | rfl | rfl <;> rfl⟩
def flat {α : Type} (E : Cd α) (l : List α) : List Value := l.flatMap E.c
theorem flat_nil {α : Type} (E : Cd α) : flat E [] = [] := rfl
theorem flat_cons {α : Type} (E : Cd α) (x : α) (l : List α) : flat E (x :: l) = E.c x ++ flat E l := by simp [flat]
theorem flat_app {α : Type} (E : Cd α) (l m : List α) : flat E (l ++ m) = flat E l ++ flat E m := by simp [flat]
theorem flat_len {α : Type} (E : Cd α) (l : List α) : (flat E l).length = l.length * E.k := by
  induction l with
  | nil => simp [flat]
  | cons x l ih => rw [flat_cons, List.length_append, ih, E.len, List.length_cons, Nat.succ_mul]; omega
theorem flat_get {α : Type} (E : Cd α) (l : List α) (i j : Nat) (h : i < l.length) (hj : j < E.k) : (flat E l)[i * E.k + j]? = (E.c l[i])[j]? := by
  induction l generalizing i with
  | nil => simp at h
  | cons x l ih =>
    rw [flat_cons]
    cases i with
    | zero => rw [Nat.zero_mul, Nat.zero_add, List.getElem?_append_left (by rw [E.len]; exact hj)]; rfl
    | succ i =>
      rw [List.getElem?_append_right (by rw [E.len, Nat.succ_mul]; omega), E.len]
      have : (i + 1) * E.k + j - E.k = i * E.k + j := by rw [Nat.succ_mul]; omega
      rw [this, ih i (by simpa using h)]; rfl
theorem flat_one {α : Type} (E : Cd α) (l : List α) : ∀ u ∈ flat E l, u.oneCell' = true := by
  intro u hu
  simp only [flat, List.mem_flatMap] at hu
  obtain ⟨x, _, hx⟩ := hu
  exact E.one x u hx
/-- the cells from an address on are these -/
def At {α : Type} (E : Cd α) (w : World) (b o : Nat) (l : List α) : Prop := ∀ j u, (flat E l)[j]? = some u → w.cell? ⟨b, o + j, none⟩ = some u
/-- a slice stands for this list -/
def IsL {α : Type} (E : Cd α) (w : World) (v : Value) (l : List α) : Prop :=
  ∃ (a : Option Addr) (cap : Nat), v = .slice a l.length cap ∧ l.length ≤ cap ∧ (l = [] ∨ ∃ b o, a = some ⟨b, o, none⟩ ∧ b < w.heap.size ∧ At E w b o l)
theorem At.fr {α : Type} {E : Cd α} {w w' : World} {b o : Nat} {l : List α} (h : At E w b o l) (hb : b < w.heap.size) (f : Fr w w') : At E w' b o l :=
  fun j u hu => (Below.cell f hb).trans (h j u hu)
theorem IsL.fr {α : Type} {E : Cd α} {w w' : World} {v : Value} {l : List α} (h : IsL E w v l) (f : Fr w w') : IsL E w' v l := by
  obtain ⟨a, cap, rfl, hc, h0 | ⟨b, o, rfl, hb, hh⟩⟩ := h
  · exact ⟨a, cap, rfl, hc, Or.inl h0⟩
  · exact ⟨_, cap, rfl, hc, Or.inr ⟨b, o, rfl, Nat.lt_of_lt_of_le hb f.size, hh.fr hb f⟩⟩
theorem isL_nil {α : Type} (E : Cd α) (w : World) : IsL E w (.slice none 0 0) [] := ⟨none, 0, rfl, Nat.le_refl _, Or.inl rfl⟩
theorem isL_own {α : Type} {E : Cd α} {w : World} {B T : Nat} {v : Value} {l : List α} (h : w.ownsRow B T E.k v l.length (flat E l)) : IsL E w v l := by
  rcases h.2 with ⟨rfl, h0⟩ | ⟨g, cap, cur, rfl, h2, h3, h4, h5, h6, h7⟩
  · have := List.length_eq_zero_iff.1 h0
    subst this
    exact isL_nil E w
  · refine ⟨_, cap, rfl, h4, Or.inr ⟨g, 0, rfl, (Array.getElem?_eq_some_iff.1 h3).1, ?_⟩⟩
    intro j u hu
    rw [Nat.zero_add, Lib.cell_of_heap h3]
    rw [← h7, List.getElem?_take] at hu
    split at hu
    · rw [← hu, Array.getElem?_toList]
    · cases hu
theorem At.pg {w : World} {b o : Nat} {l : List JN.B} (h : At cdP w b o l) (i : Nat) (hi : i < l.length) : w.cell? ⟨b, o + i, none⟩ = some (.string l[i]) :=
  h i _ (by have := flat_get cdP l i 0 hi (by decide); simpa [cdP] using this)
theorem At.wr {w : World} {b o : Nat} {l : List JN.W} (h : At cdW w b o l) (i : Nat) (hi : i < l.length) :
    w.cell? ⟨b, o + i * 2, none⟩ = some (.int .i64 l[i].no) ∧ w.cell? ⟨b, o + i * 2 + 1, none⟩ = some (.string l[i].t) :=
  ⟨h (i * 2) _ (by have := flat_get cdW l i 0 hi (by decide); simpa [cdW] using this),
   h (i * 2 + 1) _ (by have := flat_get cdW l i 1 hi (by decide); simpa [cdW] using this)⟩
theorem At.op {w : World} {b o : Nat} {l : List JN.O} (h : At cdO w b o l) (i : Nat) (hi : i < l.length) :
    w.cell? ⟨b, o + i * 3, none⟩ = some (.int .i64 l[i].kind) ∧ w.cell? ⟨b, o + i * 3 + 1, none⟩ = some (.int .i64 l[i].no) ∧ w.cell? ⟨b, o + i * 3 + 2, none⟩ = some (.string l[i].t) :=
  ⟨h (i * 3) _ (by have := flat_get cdO l i 0 hi (by decide); simpa [cdO] using this),
   h (i * 3 + 1) _ (by have := flat_get cdO l i 1 hi (by decide); simpa [cdO] using this),
   h (i * 3 + 2) _ (by have := flat_get cdO l i 2 hi (by decide); simpa [cdO] using this)⟩
/-- a disk -/
def IsD (w : World) (p q : Value) (d : JN.D) : Prop := IsL cdP w p d.pg ∧ IsL cdW w q d.wt
theorem IsD.fr {w w' : World} {p q : Value} {d : JN.D} (h : IsD w p q d) (f : Fr w w') : IsD w' p q d := ⟨h.1.fr f, h.2.fr f⟩
theorem isD_none (w : World) : IsD w (.slice none 0 0) (.slice none 0 0) JN.none := ⟨isL_nil _ _, isL_nil _ _⟩
end Go.Proofs.Ytcgafodaohmcmaa
