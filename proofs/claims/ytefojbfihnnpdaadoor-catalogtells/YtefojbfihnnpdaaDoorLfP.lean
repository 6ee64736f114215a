/-
  Entries in memory: a slice of entries as a plain list.
-/
import Derived.Test.YtefojbfihnnpdaaDoorLfMath
import Derived.Test.YtefojbfihnnpdaaDoorKRow
import Derived.Test.YtefojbfihnnpdaaDoorRecWrite
namespace Go.Proofs.YtefojbfihnnpdaaDoor
open Go.ChangeShapes Go.WideShapes Go.ChangeAt Go.RowKit
set_option linter.unusedVariables false
set_option linter.unusedSimpArgs false

theorem hideP {p : Prop} (h : p) : Hid p := h
/-- the cells behind an address hold these entries, two cells each -/
def EnAt (w : World) (b o : Nat) (l : List LF.En) : Prop :=
  ∀ i (h : i < l.length), w.cell? ⟨b, o + i * 2, none⟩ = some (.int .i64 l[i].1) ∧ ∃ v, w.cell? ⟨b, o + i * 2 + 1, none⟩ = some v ∧ IsRow w v l[i].2
/-- a slice of entries stands for this list -/
def IsEn (w : World) (v : Value) (l : List LF.En) : Prop :=
  ∃ (a : Option Addr) (cap : Nat), v = .slice a l.length cap ∧ (l = [] ∨ ∃ b o, a = some ⟨b, o, none⟩ ∧ b < w.heap.size ∧ EnAt w b o l)
theorem EnAt.fr {w w' : World} {b o : Nat} {l : List LF.En} (h : EnAt w b o l) (hb : b < w.heap.size) (f : Fr w w') : EnAt w' b o l := by
  intro i hi
  obtain ⟨h0, v, h1, h2⟩ := h i hi
  exact ⟨(Below.cell f hb).trans h0, v, (Below.cell f hb).trans h1, h2.fr f⟩
theorem IsEn.fr {w w' : World} {v : Value} {l : List LF.En} (h : IsEn w v l) (f : Fr w w') : IsEn w' v l := by
  obtain ⟨a, cap, rfl, h0 | ⟨b, o, rfl, hb, hc⟩⟩ := h
  · exact ⟨a, cap, rfl, Or.inl h0⟩
  · exact ⟨_, cap, rfl, Or.inr ⟨b, o, rfl, Nat.lt_of_lt_of_le hb f.size, hc.fr hb f⟩⟩

/-- entries with the slices that stand for their rows -/
abbrev Ev := LF.En × Value
def evC (p : Ev) : List Value := [.int .i64 p.1.1, p.2]
def esV (l : List Ev) : List Value := l.flatMap evC
theorem esV_len (l : List Ev) : (esV l).length = l.length * 2 := by
  induction l with
  | nil => rfl
  | cons a t ih =>
    simp only [esV, List.flatMap_cons, List.length_append, List.length_cons, List.length_nil, evC] at *
    omega
theorem esV_app (l m : List Ev) : esV (l ++ m) = esV l ++ esV m := by simp [esV]
theorem esV_get (l : List Ev) (i : Nat) (h : i < l.length) : (esV l)[i * 2]? = some (.int .i64 l[i].1.1) ∧ (esV l)[i * 2 + 1]? = some l[i].2 := by
  induction l generalizing i with
  | nil => simp at h
  | cons a t ih =>
    cases i with
    | zero => simp [esV, evC]
    | succ i =>
      have := ih i (by simpa using h)
      have e : esV (a :: t) = .int .i64 a.1.1 :: a.2 :: esV t := by simp [esV, evC]
      rw [e, show (i + 1) * 2 = i * 2 + 1 + 1 by omega]
      simpa using this
theorem isRowB_one {B : Nat} {w : World} {v : Value} {l : List VM.Vl} (h : IsRowB B w v l) : v.oneCell' = true := by
  obtain ⟨a, cap, rfl, _⟩ := h
  rfl
/-- a row of entries that the call owns, each with a row of values of its own -/
structure Oe (B : Nat) (v : Value) (l : List Ev) (w : World) : Prop where
  own : w.ownsRow B 53 2 v l.length (esV l)
  rows : ∀ p ∈ l, IsRowB 0 w p.2 p.1.2
theorem Oe.one {B : Nat} {v : Value} {l : List Ev} {w : World} (h : Oe B v l w) : ∀ u ∈ esV l, u.oneCell' = true := by
  intro u hu
  simp only [esV, List.mem_flatMap] at hu
  obtain ⟨x, hx, hu⟩ := hu
  simp [evC] at hu
  rcases hu with rfl | rfl
  · rfl
  · exact isRowB_one (h.rows x hx)
theorem Oe.nil (B : Nat) (w : World) : Oe B (.slice none 0 0) [] w := ⟨⟨rfl, Or.inl ⟨rfl, rfl⟩⟩, fun p hp => by simp at hp⟩
theorem own_keep {B n sz : Nat} {T : TypeId} {v : Value} {xs : List Value} {w w' : World} (h : w.ownsRow B T sz v n xs) (hk : ∀ (k : Nat) (cur : Array Value), B ≤ k → w.heap[k]? = some (.cells cur T (0, 0)) → w'.heap[k]? = w.heap[k]?) : w'.ownsRow B T sz v n xs := by
  refine ⟨h.1, ?_⟩
  rcases h.2 with h0 | ⟨g, cap, cur, h1, h2, h3, h4⟩
  · exact Or.inl h0
  · exact Or.inr ⟨g, cap, cur, h1, h2, (hk g cur h2 h3).trans h3, h4⟩
theorem Oe.fr {B : Nat} {v : Value} {l : List Ev} {w w' : World} (h : Oe B v l w) (f : Fr w w') : Oe B v l w' :=
  ⟨own_keep h.own fun k cur _ hk => f.block k (Array.getElem?_eq_some_iff.1 hk).1, fun p hp => (h.rows p hp).fr f⟩
theorem Oe.en {B : Nat} {v : Value} {l : List Ev} {w : World} (h : Oe B v l w) : IsEn w v (l.map (·.1)) := by
  rcases h.own.2 with ⟨rfl, h0⟩ | ⟨g, cap, cur, rfl, h2, h3, h4, h5, h6, h7⟩
  · have := List.length_eq_zero_iff.1 h0
    subst this
    exact ⟨none, 0, rfl, Or.inl rfl⟩
  · refine ⟨_, cap, by rw [List.length_map], Or.inr ⟨g, 0, rfl, (Array.getElem?_eq_some_iff.1 h3).1, ?_⟩⟩
    intro i hi
    rw [List.length_map] at hi
    obtain ⟨a, b⟩ := esV_get l i hi
    have key : ∀ j u, (esV l)[j]? = some u → w.cell? ⟨g, 0 + j, none⟩ = some u := by
      intro j u hu
      rw [Nat.zero_add, Lib.cell_of_heap h3]
      rw [← h7, List.getElem?_take] at hu
      split at hu
      · rw [← hu, Array.getElem?_toList]
      · cases hu
    rw [List.getElem_map]
    exact ⟨key _ _ a, l[i].2, key _ _ b, (h.rows l[i] (List.getElem_mem hi)).row⟩
/-- what was appended to: the rows of values lie elsewhere -/
theorem rows_grown {w w' : World} {r : Option Nat} {T : TypeId} (hT : T ≠ 46) (hr : ∀ g, r = some g → ∃ cur, w.heap[g]? = some (.cells cur T (0, 0))) (hg : w.grownBy w' r) {B : Nat} {v : Value} {l : List VM.Vl} (h : IsRowB B w v l) : IsRowB B w' v l := by
  refine h.keep fun k cur hk => hg.block k (Array.getElem?_eq_some_iff.1 hk).1 ?_
  intro e
  obtain ⟨cur2, h2⟩ := hr k e.symm
  rw [hk] at h2
  simp only [Option.some.injEq, Obj.cells.injEq] at h2
  exact hT h2.2.1.symm
theorem own_block {B n sz : Nat} {T : TypeId} {v : Value} {xs : List Value} {w : World} (h : w.ownsRow B T sz v n xs) : ∀ g, v.ownBlock = some g → ∃ cur, w.heap[g]? = some (.cells cur T (0, 0)) := by
  intro g hg
  rcases h.2 with ⟨rfl, _⟩ | ⟨g', cap, cur, rfl, _, h3, _⟩
  · cases hg
  · simp only [Value.ownBlock, Option.some.injEq] at hg
    subst hg
    exact ⟨cur, h3⟩
/-- an entry more -/
theorem Oe.snoc {B : Nat} {v v' : Value} {l : List Ev} {p : Ev} {w w' : World} (h : Oe B v l w) (hp : IsRowB 0 w p.2 p.1.2) (ho : w'.ownsRow B 53 2 v' (l.length + 1) (esV l ++ evC p)) (hg : w.grownBy w' v.ownBlock) : Oe B v' (l ++ [p]) w' := by
  refine ⟨?_, ?_⟩
  · rw [esV_app, List.length_append]
    simpa [esV] using ho
  · intro q hq
    rw [List.mem_append, List.mem_singleton] at hq
    have hq' : IsRowB 0 w q.2 q.1.2 := by
      rcases hq with hq | rfl
      · exact h.rows q hq
      · exact hp
    exact rows_grown (T := 53) (by decide) (own_block h.own) hg hq'
theorem Tryd.infoEn : (Tryd.prog.info? 53).map (fun i => (i.zero, i.size, i.bytes)) = some (some (.agg #[.int .i64 0, .slice none 0 0]), 2, 32) := by kernel_rfl
theorem Tryd.infoStr : (Tryd.prog.info? 9).map (fun i => (i.zero, i.size, i.bytes)) = some (some (.string ⟨#[]⟩), 1, 16) := by kernel_rfl
end Go.Proofs.YtefojbfihnnpdaaDoor
