/-
  The reader of package record: what take and next answer, and with what they give up.
-/
import Derived.Test.YthpcdhnaibpjnaaBase
import Derived.Lib.Strings
namespace Go.Proofs.Ythpcdhnaibpjnaa
open Go.ChangeShapes Go.WideShapes Go.ChangeAt Go.RowKit
set_option linter.unusedVariables false

/-- a reader stands in block r, and this is what it has left -/
def RdAt (w : World) (r : Nat) (l : List UInt8) : Prop := w.heap[r]? = some (.cells #[.string ⟨l.toArray⟩] 91 (0, 0))

/-- nothing has changed but block r, and what is new -/
def Mv (r : Nat) (w w' : World) : Prop := (∀ B, B ≤ r → B ≤ w.heap.size → Below B w w') ∧ ∀ b, b < w.heap.size → b ≠ r → w'.heap[b]? = w.heap[b]?

theorem Mv.refl (r : Nat) (w : World) : Mv r w w := ⟨fun B _ _ => Below.refl B w, fun _ _ _ => rfl⟩
theorem Mv.size {r : Nat} {w w' : World} (h : Mv r w w') : w.heap.size ≤ w'.heap.size := (h.1 0 (Nat.zero_le _) (Nat.zero_le _)).size
theorem Mv.trans {r : Nat} {a b c : World} (h : Mv r a b) (k : Mv r b c) : Mv r a c :=
  ⟨fun B h1 h2 => (h.1 B h1 h2).trans (k.1 B h1 (Nat.le_trans h2 h.size)), fun x h1 h2 => (k.2 x (Nat.lt_of_lt_of_le h1 h.size) h2).trans (h.2 x h1 h2)⟩
theorem Mv.alloc {r : Nat} {a b : World} (h : Mv r a b) (o : Obj) : Mv r a (b.alloc o) :=
  h.trans ⟨fun B h1 h2 => (Below.refl B b).alloc h2 o, fun x h1 _ => Below.heap_alloc b o x h1⟩
theorem Mv.drew {r : Nat} {a b : World} (h : Mv r a b) : Mv r a b.drew :=
  h.trans ⟨fun B h1 h2 => (Below.refl B b).drew, fun x h1 _ => rfl⟩
theorem Mv.set {r : Nat} {a b : World} (h : Mv r a b) (o : Nat) (v : Value) : Mv r a (b.setCell ⟨r, o, none⟩ v) :=
  h.trans ⟨fun B h1 h2 => (Below.refl B b).setCell (p := ⟨r, o, none⟩) h1 v, fun x h1 h2 => Below.heap_setCell b ⟨r, o, none⟩ v x h2⟩
/-- a store into a block that is new -/
theorem Mv.setNew {r : Nat} {a b : World} (h : Mv r a b) (p : Addr) (hp : a.heap.size ≤ p.block) (v : Value) : Mv r a (b.setCell p v) := by
  refine ⟨fun B h1 h2 => (h.1 B h1 h2).setCell (p := p) (Nat.le_trans h2 hp) v, fun x h1 h2 => ?_⟩
  rw [Below.heap_setCell b p v x (by omega)]
  exact h.2 x h1 h2

theorem RdAt.cell {w : World} {r : Nat} {l : List UInt8} (h : RdAt w r l) : w.cell? ⟨r, 0, none⟩ = some (.string ⟨l.toArray⟩) := by
  rw [Lib.cell_of_heap h]; rfl
theorem RdAt.frozen {w : World} {r : Nat} {l : List UInt8} (h : RdAt w r l) : w.frozen? ⟨r, 0, none⟩ = false := Lib.frozen_of_heap h 0
theorem RdAt.lt {w : World} {r : Nat} {l : List UInt8} (h : RdAt w r l) : r < w.heap.size := (Array.getElem?_eq_some_iff.1 h).1
theorem RdAt.set {w : World} {r : Nat} {l : List UInt8} (h : RdAt w r l) (t : List UInt8) : RdAt (w.setCell ⟨r, 0, none⟩ (.string ⟨t.toArray⟩)) r t := by
  unfold RdAt at *
  simp only [World.setCell, Array.getElem?_modify, if_pos, h]
  rfl
theorem RdAt.other {w w' : World} {r : Nat} {l : List UInt8} (h : RdAt w r l) (e : w'.heap[r]? = w.heap[r]?) : RdAt w' r l := e.trans h
theorem RdAt.alloc {w : World} {r : Nat} {l : List UInt8} (h : RdAt w r l) (o : Obj) : RdAt (w.alloc o) r l := h.other (Below.heap_alloc w o r h.lt)
theorem RdAt.setOther {w : World} {r : Nat} {l : List UInt8} (h : RdAt w r l) (p : Addr) (v : Value) (hp : r ≠ p.block) : RdAt (w.setCell p v) r l := h.other (Below.heap_setCell w p v r hp)

/-- how a reader gives up -/
abbrev gave (e : Int) : Ending := .panicked [{ v := .iface 99 (.agg #[.int .i64 e]), recovered := false }]

set_option maxRecDepth 100000 in
set_option maxHeartbeats 1000000 in
theorem take_any (r n : Nat) (miss : Int) (l : List UInt8) (w : World) (h : RdAt w r l) (hl : l.length ≤ 9223372036854775807) (hn : n ≤ 9223372036854775807) :
    Calls Try.prog 69 #[.pointer (some ⟨r, 0, none⟩), .int .i64 n, .int .i64 miss] w fun e w' =>
      (l.length < n ∧ e = gave miss ∧ w' = w) ∨ (n ≤ l.length ∧ e = .returned (.string ⟨(l.take n).toArray⟩) ∧ w' = w.setCell ⟨r, 0, none⟩ (.string ⟨(l.drop n).toArray⟩)) := by
  have hc := h.cell
  have hz := h.frozen
  have hsz : (⟨l.toArray⟩ : ByteArray).size = l.length := by simp [ByteArray.size]
  have e1 : (⟨(l.take n).toArray⟩ : ByteArray) = (⟨l.toArray⟩ : ByteArray).extract 0 n := by rw [Lib.extract_eq]; simp
  have e2 : (⟨(l.drop n).toArray⟩ : ByteArray) = (⟨l.toArray⟩ : ByteArray).extract n (⟨l.toArray⟩ : ByteArray).size := by
    rw [Lib.extract_eq, hsz]
    simp only
    rw [List.take_of_length_le (by simp)]
  rw [e1, e2]
  generalize (⟨l.toArray⟩ : ByteArray) = s at *
  clear e1 e2 h
  by_cases hlt : l.length < n
  · have h1 : (s.size : Int) < (n : Int) := by omega
    go_enter Try.func69, Try.ntmps69
    go_wp2
    exact ⟨rfl, Or.inl ⟨hlt, rfl, rfl⟩⟩
  · have h1 : (n : Int) ≤ (s.size : Int) := by omega
    have h2 : n ≤ s.size := by omega
    go_enter Try.func69, Try.ntmps69
    go_wp2
    go_ret
    exact Or.inr ⟨by omega, rfl, by rw [hsz]⟩

set_option maxRecDepth 100000 in
set_option maxHeartbeats 1000000 in
theorem next_any (r : Nat) (miss : Int) (l : List UInt8) (w : World) (h : RdAt w r l) (hl : l.length ≤ 9223372036854775807) :
    Calls Try.prog 67 #[.pointer (some ⟨r, 0, none⟩), .int .i64 miss] w fun e w' =>
      (l = [] ∧ e = gave miss ∧ w' = w) ∨ ∃ (b : UInt8) (t : List UInt8), l = b :: t ∧ e = .returned (.int .u8 (b.toNat : Int)) ∧ w' = w.setCell ⟨r, 0, none⟩ (.string ⟨t.toArray⟩) := by
  have ht := take_any r 1 miss l w h hl (by decide)
  cases l with
  | nil =>
    go_enter Try.func67, Try.ntmps67
    go_wp2_with (go_at_call 69; refine ht.mono ?_)
    rintro e w1 (⟨_, rfl, rfl⟩ | ⟨h1, _⟩)
    · go_wp2_with fail
      exact ⟨rfl, Or.inl ⟨by first | rfl | trivial, rfl, rfl⟩⟩
    · simp at h1
  | cons b t =>
    go_enter Try.func67, Try.ntmps67
    go_wp2_with (go_at_call 69; refine ht.mono ?_)
    rintro e w1 (⟨h1, _⟩ | ⟨_, rfl, rfl⟩)
    · simp at h1
    · have e1 : List.take 1 (b :: t) = [b] := by simp
      have e2 : List.drop 1 (b :: t) = t := by simp
      rw [e1, e2]
      clear e1 e2 ht
      go_wp2_with fail
      go_ret
      exact Or.inr ⟨b, t, rfl, rfl, rfl⟩
end Go.Proofs.Ythpcdhnaibpjnaa
