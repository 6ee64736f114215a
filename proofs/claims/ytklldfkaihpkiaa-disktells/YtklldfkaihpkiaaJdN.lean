/-
  A box of two slices that is written anew: what all other rows and boxes are behind it.
-/
import Derived.Test.YtklldfkaihpkiaaJdK
namespace Go.Proofs.Ytklldfkaihpkiaa
open Go.ChangeShapes Go.WideShapes Go.ChangeAt Go.RowKit
set_option linter.unusedVariables false
set_option linter.unusedSimpArgs false
set_option maxRecDepth 100000

/-- none of its cells is a slice -/
def NoSl {α : Type} (E : Cd α) : Prop := ∀ x, ∀ u ∈ E.c x, ∀ a n c, u ≠ Value.slice a n c
theorem noSl_P : NoSl cdP := by intro x u h a n c e; subst e; simp [cdP] at h
theorem noSl_W : NoSl cdW := by intro x u h a n c e; subst e; simp [cdW] at h
theorem noSl_O : NoSl cdO := by intro x u h a n c e; subst e; simp [cdO] at h
theorem IsL.boxed {α : Type} {E : Cd α} (hE : NoSl E) {w : World} {v : Value} {l : List α} {N : Nat} {T : TypeId} {a1 a2 : Option Addr} {n1 c1 n2 c2 : Nat} (h : IsL E w v l) (hb : Blk w N #[.slice a1 n1 c1, .slice a2 n2 c2] T) : l = [] ∨ Off N v := by
  obtain ⟨a, cap, rfl, hc, h0 | ⟨b, o, rfl, hlt, hh⟩⟩ := h
  · exact .inl h0
  · cases l with
    | nil => exact .inl rfl
    | cons x l =>
      right
      intro a n c e
      cases e
      show b ≠ N
      intro e
      subst e
      obtain ⟨u, hu⟩ : ∃ u, (flat E (x :: l))[0]? = some u := by
        have : 0 < (flat E (x :: l)).length := by
          rw [flat_len]
          exact Nat.mul_pos (by simp) E.pos
        exact ⟨_, List.getElem?_eq_getElem this⟩
      have h1 := hh 0 u hu
      have h2 : u ∈ flat E (x :: l) := List.mem_of_getElem? hu
      obtain ⟨y, _, hy⟩ := List.mem_flatMap.1 h2
      have h3 := hE y u hy
      rw [Lib.cell_of_heap hb] at h1
      have h4 : u ∈ #[Value.slice a1 n1 c1, .slice a2 n2 c2] := Array.mem_of_getElem? h1
      simp at h4
      rcases h4 with h4 | h4
      · exact h3 _ _ _ h4
      · exact h3 _ _ _ h4
theorem IsL.at2 {α : Type} {E : Cd α} (hE : NoSl E) {w : World} {v : Value} {l : List α} {N : Nat} {T : TypeId} {a1 a2 : Option Addr} {n1 c1 n2 c2 : Nat} (h : IsL E w v l) (hb : Blk w N #[.slice a1 n1 c1, .slice a2 n2 c2] T) (x y : Value) : IsL E ((w.setCell ⟨N, 0, none⟩ x).setCell ⟨N, 1, none⟩ y) v l := by
  rcases h.boxed hE hb with h0 | h0
  · obtain ⟨a, cap, e, hc, _⟩ := h
    exact ⟨a, cap, e, hc, .inl h0⟩
  · exact (h.set x h0).set y h0
theorem IsD.at2 {w : World} {p q : Value} {d : JN.D} {N : Nat} {T : TypeId} {a1 a2 : Option Addr} {n1 c1 n2 c2 : Nat} (h : IsD w p q d) (hb : Blk w N #[.slice a1 n1 c1, .slice a2 n2 c2] T) (x y : Value) : IsD ((w.setCell ⟨N, 0, none⟩ x).setCell ⟨N, 1, none⟩ y) p q d := ⟨h.1.at2 noSl_P hb x y, h.2.at2 noSl_W hb x y⟩
theorem Blk.ne {w : World} {a b : Nat} {x y : Array Value} {T U : TypeId} (h : Blk w a x T) (k : Blk w b y U) (hne : T ≠ U) : a ≠ b := by
  intro e
  subst e
  have : some (Obj.cells x T (0, 0)) = some (Obj.cells y U (0, 0)) := h.symm.trans k
  simp only [Option.some.injEq, Obj.cells.injEq] at this
  exact hne this.2.1
theorem SV.at2 {w : World} {b N : Nat} {p q P Q : Value} {s : JN.S} {a1 a2 : Option Addr} {n1 c1 n2 c2 : Nat} (h : SV w b p q P Q s) (hb : Blk w N #[.slice a1 n1 c1, .slice a2 n2 c2] 25) (x y : Value) : SV ((w.setCell ⟨N, 0, none⟩ x).setCell ⟨N, 1, none⟩ y) b p q P Q s :=
  ⟨(h.b.other (hb.ne h.b (by decide)) 0 x).other (hb.ne h.b (by decide)) 1 y, ⟨h.s.1.at2 hb x y, h.s.2.at2 hb x y⟩⟩
theorem DV.at2 {w : World} {b N : Nat} {p q : Value} {d : JN.D} {a1 a2 : Option Addr} {n1 c1 n2 c2 : Nat} (h : DV w b p q d) (hb : Blk w N #[.slice a1 n1 c1, .slice a2 n2 c2] 25) (hne : N ≠ b) (x y : Value) : DV ((w.setCell ⟨N, 0, none⟩ x).setCell ⟨N, 1, none⟩ y) b p q d :=
  ⟨(h.b.other hne 0 x).other hne 1 y, h.d.at2 hb x y⟩
theorem DV.here {w : World} {N : Nat} {p q : Value} {d : JN.D} {a1 a2 : Option Addr} {n1 c1 n2 c2 : Nat} (h : IsD w p q d) (hb : Blk w N #[.slice a1 n1 c1, .slice a2 n2 c2] 25) : DV ((w.setCell ⟨N, 0, none⟩ p).setCell ⟨N, 1, none⟩ q) N p q d :=
  ⟨hb.set2 _ _, h.at2 hb _ _⟩
end Go.Proofs.Ytklldfkaihpkiaa
