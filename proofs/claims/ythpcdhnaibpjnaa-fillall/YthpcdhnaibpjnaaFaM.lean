/-
  Rows of entries that a call puts together out of others.
-/
import Derived.Test.YthpcdhnaibpjnaaLfBg
import Derived.Test.YthpcdhnaibpjnaaRefFO
namespace Go.Proofs.Ythpcdhnaibpjnaa
open Go.ChangeShapes Go.WideShapes Go.ChangeAt Go.RowKit
set_option linter.unusedVariables false
set_option linter.unusedSimpArgs false
set_option maxRecDepth 100000

theorem sum_ge : ∀ (L : List (List LF.En)) (p : List LF.En), p ∈ L → p.length ≤ (L.map List.length).sum
  | [], _, h => by simp at h
  | a :: L, p, h => by
    rw [List.map_cons, List.sum_cons]
    rcases List.mem_cons.1 h with rfl | h
    · omega
    · have := sum_ge L p h
      omega
/-- a row of entries of the call's own, the rows of which lie in an older world -/
structure Oz (w0 : World) (B : Nat) (v : Value) (l : List Ev) (w : World) : Prop where
  own : w.ownsRow B 43 2 v l.length (esV l)
  rows : ∀ p ∈ l, IsRow w0 p.2 p.1.2
theorem Oz.fr {w0 : World} {B : Nat} {v : Value} {l : List Ev} {w w' : World} (h : Oz w0 B v l w) (f : Fr w w') : Oz w0 B v l w' := ⟨own_fr h.own f, h.rows⟩
theorem Oz.en {w0 : World} {B : Nat} {v : Value} {l : List Ev} {w : World} (h : Oz w0 B v l w) (f : Fr w0 w) : IsEn w v (l.map (·.1)) := by
  rcases h.own.2 with ⟨rfl, h0⟩ | ⟨g, cap, cur, rfl, h2, h3, h4, h5, h6, h7⟩
  · have := List.length_eq_zero_iff.1 h0
    subst this
    exact ⟨none, 0, rfl, Or.inl rfl⟩
  · refine ⟨_, cap, by rw [List.length_map], Or.inr ⟨g, 0, rfl, (Array.getElem?_eq_some_iff.1 h3).1, ?_⟩⟩
    intro i hi
    rw [List.length_map] at hi
    obtain ⟨a, b⟩ := esV_get l i hi
    have key : ∀ j u, (esV l)[j]? = some u → w.cell? ⟨g, 0 + j, none⟩ = some u := by
      intro j u hu
      rw [Nat.zero_add, Lib.cell_of_heap h3]
      rw [← h7, List.getElem?_take] at hu
      split at hu
      · rw [← hu, Array.getElem?_toList]
      · cases hu
    rw [List.getElem_map]
    exact ⟨key _ _ a, l[i].2, key _ _ b, (h.rows l[i] (List.getElem_mem hi)).fr f⟩
theorem esV_one {w : World} {l : List Ev} (h : ∀ p ∈ l, IsRow w p.2 p.1.2) : ∀ u ∈ esV l, u.oneCell' = true := by
  intro u hu
  simp only [esV, List.mem_flatMap] at hu
  obtain ⟨x, hx, hu⟩ := hu
  simp [evC] at hu
  rcases hu with rfl | rfl
  · rfl
  · obtain ⟨a, cap, he, _⟩ := h x hx
    rw [he]
    rfl
/-- what a row of entries holds, cell by cell -/
theorem en_news {w : World} {v : Value} {l : List LF.En} (h : IsEn w v l) (hn : l ≠ []) :
    ∃ es : List Ev, es.map (·.1) = l ∧ (∀ p ∈ es, IsRow w p.2 p.1.2) ∧ ∃ b o c, v = .slice (some ⟨b, o, none⟩) l.length c ∧ b < w.heap.size ∧ ∀ j u, (esV es)[j]? = some u → w.cell? ((⟨b, o, none⟩ : Addr).add j) = some u := by
  obtain ⟨a, cap, rfl, h0 | ⟨b, o, rfl, hb, hc⟩⟩ := h
  · exact absurd h0 hn
  · have each : ∀ i, i < l.length → ∃ u : Value, ∃ h : i < l.length, w.cell? ⟨b, o + i * 2 + 1, none⟩ = some u ∧ IsRow w u l[i].2 := fun i hi => by
      obtain ⟨_, u, h1, h2⟩ := hc i hi
      exact ⟨u, hi, h1, h2⟩
    have inh : Inhabited Value := ⟨.bool false⟩
    obtain ⟨f, hf⟩ := Deep.choose_lt each
    have hlen : ((List.range l.length).map fun i => ((l.getD i (0, []), f i) : Ev)).length = l.length := by simp
    refine ⟨(List.range l.length).map fun i => (l.getD i (0, []), f i), ?_, ?_, b, o, cap, rfl, hb, ?_⟩
    · apply List.ext_getElem
      · simp
      · intro i h1 h2
        simp [List.getD_eq_getElem?_getD, h2]
    · intro p hp
      obtain ⟨i, hi, rfl⟩ := List.mem_map.1 hp
      have hi' : i < l.length := by simpa using hi
      obtain ⟨h0, h1, h2⟩ := hf i hi'
      simpa [List.getD_eq_getElem?_getD, hi'] using h2
    · intro j u hu
      have hj : j < l.length * 2 := by
        have := (List.getElem?_eq_some_iff.1 hu).1
        rwa [esV_len, hlen] at this
      have hi : j / 2 < l.length := by omega
      obtain ⟨e0, e1⟩ := esV_get _ (j / 2) (by rw [hlen]; exact hi)
      obtain ⟨c0, _⟩ := hc (j / 2) hi
      obtain ⟨_, h1, _⟩ := hf (j / 2) hi
      rw [add_at _ _ rfl]
      simp only
      have hm : j = j / 2 * 2 ∨ j = j / 2 * 2 + 1 := by omega
      rcases hm with hm | hm
      · rw [hm] at hu ⊢
        rw [e0] at hu
        rw [c0, ← hu]
        simp [List.getD_eq_getElem?_getD, hi]
      · rw [hm, e1] at hu
        rw [hm, ← Nat.add_assoc, h1, ← hu]
        simp
theorem empty_own (W : World) : (W.alloc (.cells #[] 43)).ownsRow W.heap.size 43 2 (.slice (some ⟨W.heap.size, 0, none⟩) 0 0) 0 [] :=
  ⟨rfl, Or.inr ⟨W.heap.size, 0, #[], rfl, Nat.le_refl _, alloc_heap W _, Nat.le_refl _, Nat.zero_le _, rfl, rfl⟩⟩
theorem own_low {w : World} {B C : Nat} {e : TypeId} {size : Nat} {v : Value} {n : Nat} {xs : List Value} (h : w.ownsRow B e size v n xs) (hc : C ≤ B) : w.ownsRow C e size v n xs := by
  refine ⟨h.1, ?_⟩
  rcases h.2 with h0 | ⟨g, cap, cur, h1, h2, h3⟩
  · exact Or.inl h0
  · exact Or.inr ⟨g, cap, cur, h1, by omega, h3⟩
theorem head_cells {w : World} {es : List Ev} {l : List LF.En} {b o : Nat} {idj : Int} {rj : List VM.Vl} (h1 : es.map (·.1) = l) (h2 : ∀ p ∈ es, IsRow w p.2 p.1.2) (h3 : ∀ j u, (esV es)[j]? = some u → w.cell? ((⟨b, o, none⟩ : Addr).add j) = some u) (hh : l.head? = some (idj, rj)) :
    ∃ u, w.cell? ⟨b, o, none⟩ = some (.int .i64 idj) ∧ w.cell? ⟨b, o + 1, none⟩ = some u ∧ IsRow w u rj := by
  cases es with
  | nil => subst h1; simp at hh
  | cons x es =>
    subst h1
    simp at hh
    obtain ⟨⟨i, r⟩, u⟩ := x
    simp only [Prod.mk.injEq] at hh
    obtain ⟨rfl, rfl⟩ := hh
    refine ⟨u, ?_, ?_, h2 ((i, r), u) List.mem_cons_self⟩
    · have := h3 0 (.int .i64 i) (by simp [esV, evC])
      rwa [add_at _ _ rfl] at this
    · have := h3 1 u (by simp [esV, evC])
      rwa [add_at _ _ rfl] at this
end Go.Proofs.Ythpcdhnaibpjnaa
