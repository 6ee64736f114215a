/-
  Entries that are handed in, as a plain list.
-/
import Derived.Test.YthpcdhnaibpjnaaLfF
import Derived.Deep.Slices
import Derived.Deep.Strs
import Derived.Carry
namespace Go.Proofs.Ythpcdhnaibpjnaa
open Go.ChangeShapes Go.WideShapes Go.ChangeAt Go.RowKit
set_option linter.unusedVariables false
set_option linter.unusedSimpArgs false

theorem Try.cellsVal : Try.prog.cellsOf 66 = 3 := by kernel_rfl
theorem Try.cellsInt : Try.prog.cellsOf 3 = 1 := by kernel_rfl
theorem Try.cellsI64 : Try.prog.cellsOf 2 = 1 := by kernel_rfl
theorem Try.cellsStr : Try.prog.cellsOf 9 = 1 := by kernel_rfl
theorem Try.cellsVals : Try.prog.cellsOf 41 = 1 := by kernel_rfl
theorem Try.cellsEn : Try.prog.cellsOf 43 = 2 := by kernel_rfl
theorem Try.readsEns : Try.prog.readableRec 22 = true := by kernel_rfl
theorem Try.hasEns : 22 < Try.prog.types.size := of_decide_eq_true (by kernel_rfl)
theorem Try.bytesEn : Try.prog.bytesOf 43 = 32 := by kernel_rfl

theorem trod_struct2 {H : Type} {enc : TypeId × Value → H} {P : Program} {w : World} {base : Nat} {spare : Nat → Bool} {held : Bool} {t : TypeId} {f0 f1 : Field} {fuel : Nat} {cs : List Value} {x : DataW H × List MemPlace} (ht : P.underlying t = some (.struct #[f0, f1])) (h : DataW.trod enc P w base spare held fuel t cs = some x) :
    ∃ y0 y1 n, cs.length = P.cellsOf t ∧ DataW.trod enc P w base spare held n f0.type ((cs.drop f0.offset).take (P.cellsOf f0.type)) = some y0 ∧
      DataW.trod enc P w base spare held n f1.type ((cs.drop f1.offset).take (P.cellsOf f1.type)) = some y1 := by
  obtain ⟨xs, n, _, rfl, hl, hlen, hf⟩ := DataW.trod_struct ht h
  match xs, hlen with
  | [y0, y1], _ => exact ⟨y0, y1, n, hl, by simpa using hf 0 f0 rfl, by simpa using hf 1 f1 rfl⟩
theorem spot_none {W : World} {a : Addr} {v : Value} (g0 : W.cell? a = some v) : a.spot = none := by
  unfold World.cell? at g0
  split at g0
  · split at g0
    · cases g0
    · rename_i hs
      cases hq : a.spot with
      | none => rfl
      | some q => rw [hq] at hs; simp at hs
  · cases g0

set_option maxRecDepth 100000 in
theorem open_rowC {H : Type} {enc : TypeId × Value → H} {W : World} {fuel : Nat} {cs : List Value} {x : DataW H × List MemPlace} (hf : DataW.trod enc Try.prog W 0 (fun _ => true) true fuel 41 cs = some x) :
    ∃ v, cs = [v] ∧ ∃ l : List VM.Vl, IsRow W v l ∧ Wide l ∧ l.length ≤ maxLen := by
  rcases Deep.open_slice Try.underlying41 hf with ⟨hcs, hx⟩ | ⟨a, len, cap, m, n, D, Pl, hcs, hb, hl, hm, hmm, hx, hel⟩
  · exact ⟨_, hcs, [], ⟨none, 0, rfl, Or.inl rfl⟩, fun x hx => by simp at hx, by simp⟩
  · simp only [if_true] at hmm
    subst hmm
    rw [Try.cellsVal] at hel
    have each : ∀ i, i < len → ∃ x : VM.Vl, (W.cell? (a.add (i * 3)) = some (.int .i64 x.k) ∧ W.cell? ((a.add (i * 3)).add 1) = some (.int .i64 x.n) ∧ W.cell? ((a.add (i * 3)).add 2) = some (.string x.s)) ∧ (-9223372036854775808 ≤ x.n ∧ x.n ≤ 9223372036854775807) ∧ x.s.size ≤ maxLen := by
      intro i hi
      obtain ⟨cs', h1, h2⟩ := hel i (by omega)
      obtain ⟨_, hlen, hcell⟩ := World.cells?_some h1
      obtain ⟨y0, y1, y2, q, _, _, t0, t1, t2⟩ := Deep.trod_struct3 Try.underlying66 h2
      match cs', hlen with
      | [c0, c1, c2], _ =>
        have z0 := hcell 0 (by omega)
        have z1 := hcell 1 (by omega)
        have z2 := hcell 2 (by omega)
        simp only [Try.cellsInt, Try.cellsI64, Try.cellsStr] at t0 t1 t2
        obtain ⟨k, e0, _, w0⟩ := DataW.trod_int Try.underlying3 t0
        obtain ⟨nn, e1, _, w1⟩ := DataW.trod_int Try.underlying2 t1
        obtain ⟨s, e2, _, w2⟩ := DataW.trod_string Try.underlying9 t2
        simp at e0 e1 e2
        subst e0 e1 e2
        refine ⟨⟨k, nn, s⟩, ⟨by simpa [Addr.add] using z0, z1, z2⟩, wf_i64 w1, w2⟩
    have inh : Inhabited VM.Vl := ⟨⟨0, 0, ⟨#[]⟩⟩⟩
    obtain ⟨f, hfn⟩ := Deep.choose_lt each
    refine ⟨_, hcs, (List.range len).map f, ⟨some a, _, by rw [List.length_map, List.length_range], ?_⟩, ?_, by simp; omega⟩
    · by_cases h0 : len = 0
      · subst h0; exact Or.inl rfl
      · right
        obtain ⟨⟨g0, _, _⟩, _, _⟩ := hfn 0 (by omega)
        have hsp : a.spot = none := by
          simp only [Nat.zero_mul, Addr.add, if_true] at g0
          exact spot_none g0
        have hlt : a.block < W.heap.size := by
          have := World.block_lt_of_cell? _ _ g0
          simpa [Addr.add] using this
        refine ⟨a.block, a.off, ?_, hlt, ?_⟩
        · obtain ⟨b, o, s⟩ := a
          simp only at hsp
          rw [hsp]
        · intro i hi
          simp only [List.length_map, List.length_range] at hi
          obtain ⟨⟨g1, g2, g3⟩, _, _⟩ := hfn i hi
          rw [add_at a _ hsp] at g1 g2 g3
          rw [add_at _ _ rfl] at g2 g3
          simp only [List.getElem_map, List.getElem_range]
          exact ⟨g1, g2, g3⟩
    · intro x hx
      obtain ⟨i, hi, rfl⟩ := List.mem_map.1 hx
      exact (hfn i (by simpa using hi)).2.1

/-- entries that are handed in have their bounds -/
def WideE (l : List LF.En) : Prop := ∀ e ∈ l, LF.wideE e ∧ e.2.length ≤ 9223372036854775807
set_option maxRecDepth 100000 in
theorem open_ens {H : Type} {enc : TypeId × Value → H} {W : World} {base : Nat} {r : Reach} {v : Value} {d : DataW H} {p : List MemPlace} (hval : Value.okWide Try.prog W r base 22 v)
    (h : DataW.Trod enc Try.prog W 0 (fun _ => true) true 22 v d p) :
    ∃ l : List LF.En, IsEn W v l ∧ WideE l ∧ l.length ≤ maxLen ∧ ((d = .nil ∧ l = []) ∨ ∃ es sp, d = .slice es sp ∧ es.length = l.length) := by
  obtain ⟨a0, len0, cap0, rfl⟩ := okWide_slice Try.underlying22 hval
  obtain ⟨fuel, hf⟩ := h
  rcases Deep.open_slice Try.underlying22 hf with ⟨hcs, hx⟩ | ⟨a, len, cap, m, n, D, Pl, hcs, hb, hl, hm, hmm, hx, hel⟩
  · simp only [Value.cells] at hcs
    simp at hcs
    obtain ⟨rfl, rfl, rfl⟩ := hcs
    simp only [Prod.mk.injEq] at hx
    exact ⟨[], ⟨none, 0, rfl, Or.inl rfl⟩, fun x hx => by simp at hx, by simp, Or.inl ⟨hx.1, rfl⟩⟩
  · simp only [Value.cells] at hcs
    simp at hcs
    obtain ⟨rfl, rfl, rfl⟩ := hcs
    simp only [Prod.mk.injEq] at hx
    simp only [if_true] at hmm
    subst hmm
    rw [Try.cellsEn] at hel
    have each : ∀ i, i < len0 → ∃ x : LF.En, (W.cell? (a.add (i * 2)) = some (.int .i64 x.1) ∧ ∃ u, W.cell? ((a.add (i * 2)).add 1) = some u ∧ IsRow W u x.2) ∧ (LF.wideE x ∧ x.2.length ≤ 9223372036854775807) := by
      intro i hi
      obtain ⟨cs', h1, h2⟩ := hel i (by omega)
      obtain ⟨_, hlen, hcell⟩ := World.cells?_some h1
      obtain ⟨y0, y1, q, _, t0, t1⟩ := trod_struct2 Try.underlying43 h2
      match cs', hlen with
      | [c0, c1], _ =>
        have z0 := hcell 0 (by omega)
        have z1 := hcell 1 (by omega)
        simp only [Try.cellsI64, Try.cellsVals] at t0 t1
        obtain ⟨k, e0, _, w0⟩ := DataW.trod_int Try.underlying2 t0
        obtain ⟨u, e1, l, hl1, hl2, hl3⟩ := open_rowC t1
        simp at e0 e1
        subst e0 e1
        refine ⟨(k, l), ⟨by simpa [Addr.add] using z0, _, z1, hl1⟩, ⟨wf_i64 w0, hl2⟩, ?_⟩
        unfold maxLen at hl3
        exact hl3
    have inh : Inhabited LF.En := ⟨(0, [])⟩
    obtain ⟨f, hfn⟩ := Deep.choose_lt each
    refine ⟨(List.range len0).map f, ⟨some a, _, by rw [List.length_map, List.length_range], ?_⟩, ?_, by simp; omega, Or.inr ⟨_, _, hx.1, by simp⟩⟩
    · by_cases h0 : len0 = 0
      · subst h0; exact Or.inl rfl
      · right
        obtain ⟨⟨g0, _⟩, _⟩ := hfn 0 (by omega)
        have hsp : a.spot = none := by
          simp only [Nat.zero_mul, Addr.add, if_true] at g0
          exact spot_none g0
        have hlt : a.block < W.heap.size := by
          have := World.block_lt_of_cell? _ _ g0
          simpa [Addr.add] using this
        refine ⟨a.block, a.off, ?_, hlt, ?_⟩
        · obtain ⟨b, o, s⟩ := a
          simp only at hsp
          rw [hsp]
        · intro i hi
          simp only [List.length_map, List.length_range] at hi
          obtain ⟨⟨g1, u, g2, g3⟩, _⟩ := hfn i hi
          rw [add_at a _ hsp] at g1 g2
          rw [add_at _ _ rfl] at g2
          simp only [List.getElem_map, List.getElem_range]
          exact ⟨g1, u, g2, g3⟩
    · intro x hx
      obtain ⟨i, hi, rfl⟩ := List.mem_map.1 hx
      exact (hfn i (by simpa using hi)).2
theorem shut_ens {H : Type} {enc : TypeId × Value → H} {W W' : World} {v : Value} {d : DataW H} {p : List MemPlace} (h : DataW.Trod enc Try.prog W 0 (fun _ => true) true 22 v d p) (hb : Below W.heap.size W W') :
    DataW.Trod enc Try.prog W' 0 (fun b => decide (b < W.heap.size)) true 22 v d p := by
  refine Below.trod laidOut Try.readsEns Try.hasEns h hb ?_
  obtain ⟨fuel, hf⟩ := h
  exact DataW.trod_lt fuel _ _ _ hf
end Go.Proofs.Ythpcdhnaibpjnaa
