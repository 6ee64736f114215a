/-
  What stays where a call writes one block alone; rows from a block on.
-/
import Derived.Test.YtefojbfihnnpdaaDoorRowP
namespace Go.Proofs.YtefojbfihnnpdaaDoor
open Go.ChangeShapes Go.WideShapes Go.ChangeAt Go.RowKit
set_option linter.unusedVariables false
set_option linter.unusedSimpArgs false

theorem alloc_heap (w : World) (o : Obj) : (w.alloc o).heap[w.heap.size]? = some o := by
  show (w.heap.push o)[w.heap.size]? = _
  rw [Array.getElem?_push_size]
theorem alloc_size (w : World) (o : Obj) : (w.alloc o).heap.size = w.heap.size + 1 := by
  show (w.heap.push o).size = _
  rw [Array.size_push]
theorem size_set (w : World) (p : Addr) (v : Value) : (w.setCell p v).heap.size = w.heap.size := by simp [World.setCell]
def Mv (r : Nat) (w w' : World) : Prop := (∀ B, B ≤ r → B ≤ w.heap.size → Below B w w') ∧ ∀ b, b < w.heap.size → b ≠ r → w'.heap[b]? = w.heap[b]?

theorem Mv.refl (r : Nat) (w : World) : Mv r w w := ⟨fun B _ _ => Below.refl B w, fun _ _ _ => rfl⟩
theorem Mv.size {r : Nat} {w w' : World} (h : Mv r w w') : w.heap.size ≤ w'.heap.size := (h.1 0 (Nat.zero_le _) (Nat.zero_le _)).size
theorem Mv.trans {r : Nat} {a b c : World} (h : Mv r a b) (k : Mv r b c) : Mv r a c :=
  ⟨fun B h1 h2 => (h.1 B h1 h2).trans (k.1 B h1 (Nat.le_trans h2 h.size)), fun x h1 h2 => (k.2 x (Nat.lt_of_lt_of_le h1 h.size) h2).trans (h.2 x h1 h2)⟩
theorem Mv.alloc {r : Nat} {a b : World} (h : Mv r a b) (o : Obj) : Mv r a (b.alloc o) :=
  h.trans ⟨fun B h1 h2 => (Below.refl B b).alloc h2 o, fun x h1 _ => Below.heap_alloc b o x h1⟩
theorem Mv.drew {r : Nat} {a b : World} (h : Mv r a b) : Mv r a b.drew :=
  h.trans ⟨fun B h1 h2 => (Below.refl B b).drew, fun x h1 _ => rfl⟩
theorem Mv.set {r : Nat} {a b : World} (h : Mv r a b) (o : Nat) (v : Value) : Mv r a (b.setCell ⟨r, o, none⟩ v) :=
  h.trans ⟨fun B h1 h2 => (Below.refl B b).setCell (p := ⟨r, o, none⟩) h1 v, fun x h1 h2 => Below.heap_setCell b ⟨r, o, none⟩ v x h2⟩
/-- a row in memory from block B on -/
def IsRowB (B : Nat) (w : World) (v : Value) (l : List VM.Vl) : Prop :=
  ∃ (a : Option Addr) (cap : Nat), v = .slice a l.length cap ∧ (l = [] ∨ ∃ b o, a = some ⟨b, o, none⟩ ∧ B ≤ b ∧ b < w.heap.size ∧ CellsAt w b o l ∧ ∃ cur, w.heap[b]? = some (.cells cur 46 (0, 0)))
theorem IsRowB.row {B : Nat} {w : World} {v : Value} {l : List VM.Vl} (h : IsRowB B w v l) : IsRow w v l := by
  obtain ⟨a, cap, rfl, h0 | ⟨b, o, rfl, hB, hb, hc, _⟩⟩ := h
  · exact ⟨a, cap, rfl, Or.inl h0⟩
  · exact ⟨_, cap, rfl, Or.inr ⟨b, o, rfl, hb, hc⟩⟩
theorem IsRowB.setCell {B : Nat} {w : World} {v : Value} {l : List VM.Vl} (h : IsRowB B w v l) (p : Addr) (hp : p.block < B) (u : Value) : IsRowB B (w.setCell p u) v l := by
  obtain ⟨a, cap, rfl, h0 | ⟨b, o, rfl, hB, hb, hc, cur, ht⟩⟩ := h
  · exact ⟨a, cap, rfl, Or.inl h0⟩
  · refine ⟨_, cap, rfl, Or.inr ⟨b, o, rfl, hB, by rw [size_set]; exact hb, ?_, cur, (Below.heap_setCell w p u b (by omega)).trans ht⟩⟩
    intro i hi
    have e : ∀ j, (w.setCell p u).cell? ⟨b, j, none⟩ = w.cell? ⟨b, j, none⟩ := fun j => World.cell?_of_block (w := w) (Below.heap_setCell w p u b (by omega))
    rw [e, e, e]
    exact hc i hi

theorem IsRowB.mono {B C : Nat} {w : World} {v : Value} {l : List VM.Vl} (h : IsRowB B w v l) (hc : C ≤ B) : IsRowB C w v l := by
  obtain ⟨a, cap, rfl, h0 | ⟨b, o, rfl, hB, h2⟩⟩ := h
  · exact ⟨a, cap, rfl, Or.inl h0⟩
  · exact ⟨_, cap, rfl, Or.inr ⟨b, o, rfl, by omega, h2⟩⟩
/-- blocks of values are as they were -/
theorem IsRowB.keep {B : Nat} {w w' : World} {v : Value} {l : List VM.Vl} (h : IsRowB B w v l) (hk : ∀ (k : Nat) (cur : Array Value), w.heap[k]? = some (.cells cur 46 (0, 0)) → w'.heap[k]? = w.heap[k]?) : IsRowB B w' v l := by
  obtain ⟨a, cap, rfl, h0 | ⟨b, o, rfl, hB, hb, hc, cur, ht⟩⟩ := h
  · exact ⟨a, cap, rfl, Or.inl h0⟩
  · have e := hk b cur ht
    have ht' := e.trans ht
    refine ⟨_, cap, rfl, Or.inr ⟨b, o, rfl, hB, (Array.getElem?_eq_some_iff.1 ht').1, ?_, cur, ht'⟩⟩
    intro i hi
    have ec : ∀ j, w'.cell? ⟨b, j, none⟩ = w.cell? ⟨b, j, none⟩ := fun j => World.cell?_of_block (w := w) e
    rw [ec, ec, ec]
    exact hc i hi
theorem IsRowB.fr {B : Nat} {w w' : World} {v : Value} {l : List VM.Vl} (h : IsRowB B w v l) (f : Fr w w') : IsRowB B w' v l :=
  h.keep fun k cur hk => f.block k (Array.getElem?_eq_some_iff.1 hk).1

end Go.Proofs.YtefojbfihnnpdaaDoor
