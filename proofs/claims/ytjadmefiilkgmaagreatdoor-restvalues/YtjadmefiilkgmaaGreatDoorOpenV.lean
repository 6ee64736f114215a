/-
  A value, and a row of values, that are handed in, as plain data.
-/
import Derived.Test.YtjadmefiilkgmaaGreatDoorRowP
import Derived.Test.YtjadmefiilkgmaaGreatDoorOpenL
import Derived.Deep.Slices
import Derived.Deep.Strs
import Derived.Carry
namespace Go.Proofs.YtjadmefiilkgmaaGreatDoor
open Go.ChangeShapes Go.WideShapes Go.ChangeAt Go.RowKit
set_option linter.unusedVariables false
set_option linter.unusedSimpArgs false
set_option maxRecDepth 100000

theorem Tryz.cellsVal : Tryz.prog.cellsOf 23 = 3 := by kernel_rfl
theorem Tryz.cellsInt : Tryz.prog.cellsOf 3 = 1 := by kernel_rfl
theorem Tryz.cellsI64 : Tryz.prog.cellsOf 2 = 1 := by kernel_rfl
theorem Tryz.cellsStr : Tryz.prog.cellsOf 9 = 1 := by kernel_rfl
theorem Tryz.readsRow : Tryz.prog.readableRec 28 = true := by kernel_rfl
theorem Tryz.hasRow : 28 < Tryz.prog.types.size := of_decide_eq_true (by kernel_rfl)
theorem Tryz.readsVal : Tryz.prog.readableRec 23 = true := by kernel_rfl
theorem Tryz.hasVal : 23 < Tryz.prog.types.size := of_decide_eq_true (by kernel_rfl)

/-- numbers of 64 bits -/
def Wide (l : List VM.Vl) : Prop := ∀ x ∈ l, -9223372036854775808 ≤ x.n ∧ x.n ≤ 9223372036854775807

theorem open_val {H : Type} {enc : TypeId × Value → H} {W : World} {base : Nat} {r : Reach} {v : Value} {d : DataW H} {p : List MemPlace} (hval : Value.okWide Tryz.prog W r base 23 v)
    (h : DataW.Trod enc Tryz.prog W 0 (fun _ => true) true 23 v d p) : ∃ x : VM.Vl, v = x.val ∧ x.s.size ≤ maxLen := by
  obtain ⟨cs, rfl, hsz⟩ := okWide_struct Tryz.underlying23 hval
  rw [Tryz.cellsVal] at hsz
  obtain ⟨fuel, hf⟩ := h
  obtain ⟨y0, y1, y2, q, _, _, t0, t1, t2⟩ := Deep.trod_struct3 Tryz.underlying23 hf
  obtain ⟨l⟩ := cs
  match l, hsz with
  | [c0, c1, c2], _ =>
    simp only [Tryz.cellsInt, Tryz.cellsI64, Tryz.cellsStr] at t0 t1 t2
    obtain ⟨k, e0, _, w0⟩ := DataW.trod_int Tryz.underlying3 t0
    obtain ⟨nn, e1, _, w1⟩ := DataW.trod_int Tryz.underlying2 t1
    obtain ⟨s, e2, _, w2⟩ := DataW.trod_string Tryz.underlying9 t2
    simp [Value.cells] at e0 e1 e2
    subst e0 e1 e2
    exact ⟨⟨k, nn, s⟩, rfl, w2⟩
theorem shut_val {H : Type} {enc : TypeId × Value → H} {W W' : World} {v : Value} {d : DataW H} {p : List MemPlace} (h : DataW.Trod enc Tryz.prog W 0 (fun _ => true) true 23 v d p) (hb : Below W.heap.size W W') :
    DataW.Trod enc Tryz.prog W' 0 (fun b => decide (b < W.heap.size)) true 23 v d p := by
  refine Below.trod laidOut Tryz.readsVal Tryz.hasVal h hb ?_
  obtain ⟨fuel, hf⟩ := h
  exact DataW.trod_lt fuel _ _ _ hf

set_option maxRecDepth 100000 in
theorem open_row {H : Type} {enc : TypeId × Value → H} {W : World} {base : Nat} {r : Reach} {v : Value} {d : DataW H} {p : List MemPlace} (hval : Value.okWide Tryz.prog W r base 28 v)
    (h : DataW.Trod enc Tryz.prog W 0 (fun _ => true) true 28 v d p) :
    ∃ l : List VM.Vl, IsRow W v l ∧ Wide l ∧ l.length ≤ maxLen ∧ (∀ x ∈ l, x.s.size ≤ maxLen) ∧ ((d = .nil ∧ l = []) ∨ ∃ es sp, d = .slice es sp ∧ es.length = l.length) := by
  obtain ⟨a0, len0, cap0, rfl⟩ := okWide_slice Tryz.underlying28 hval
  obtain ⟨fuel, hf⟩ := h
  rcases Deep.open_slice Tryz.underlying28 hf with ⟨hcs, hx⟩ | ⟨a, len, cap, m, n, D, Pl, hcs, hb, hl, hm, hmm, hx, hel⟩
  · simp only [Value.cells] at hcs
    simp at hcs
    obtain ⟨rfl, rfl, rfl⟩ := hcs
    simp only [Prod.mk.injEq] at hx
    exact ⟨[], ⟨none, 0, rfl, Or.inl rfl⟩, fun x hx => by simp at hx, by simp, fun x hx => by simp at hx, Or.inl ⟨hx.1, rfl⟩⟩
  · simp only [Value.cells] at hcs
    simp at hcs
    obtain ⟨rfl, rfl, rfl⟩ := hcs
    simp only [Prod.mk.injEq] at hx
    simp only [if_true] at hmm
    subst hmm
    rw [Tryz.cellsVal] at hel
    have each : ∀ i, i < len0 → ∃ x : VM.Vl, (W.cell? (a.add (i * 3)) = some (.int .i64 x.k) ∧ W.cell? ((a.add (i * 3)).add 1) = some (.int .i64 x.n) ∧ W.cell? ((a.add (i * 3)).add 2) = some (.string x.s)) ∧ (-9223372036854775808 ≤ x.n ∧ x.n ≤ 9223372036854775807) ∧ x.s.size ≤ maxLen := by
      intro i hi
      obtain ⟨cs', h1, h2⟩ := hel i (by omega)
      obtain ⟨_, hlen, hcell⟩ := World.cells?_some h1
      obtain ⟨y0, y1, y2, q, _, _, t0, t1, t2⟩ := Deep.trod_struct3 Tryz.underlying23 h2
      match cs', hlen with
      | [c0, c1, c2], _ =>
        have z0 := hcell 0 (by omega)
        have z1 := hcell 1 (by omega)
        have z2 := hcell 2 (by omega)
        simp only [Tryz.cellsInt, Tryz.cellsI64, Tryz.cellsStr] at t0 t1 t2
        obtain ⟨k, e0, _, w0⟩ := DataW.trod_int Tryz.underlying3 t0
        obtain ⟨nn, e1, _, w1⟩ := DataW.trod_int Tryz.underlying2 t1
        obtain ⟨s, e2, _, w2⟩ := DataW.trod_string Tryz.underlying9 t2
        simp at e0 e1 e2
        subst e0 e1 e2
        refine ⟨⟨k, nn, s⟩, ⟨by simpa [Addr.add] using z0, z1, z2⟩, wf_i64 w1, w2⟩
    have inh : Inhabited VM.Vl := ⟨⟨0, 0, ⟨#[]⟩⟩⟩
    obtain ⟨f, hfn⟩ := Deep.choose_lt each
    refine ⟨(List.range len0).map f, ⟨some a, _, by rw [List.length_map, List.length_range], ?_⟩, ?_, by simp; omega, ?_, Or.inr ⟨_, _, hx.1, by simp⟩⟩
    · by_cases h0 : len0 = 0
      · subst h0; exact Or.inl rfl
      · right
        obtain ⟨⟨g0, _, _⟩, _, _⟩ := hfn 0 (by omega)
        have hsp : a.spot = none := by
          unfold World.cell? at g0
          simp only [Nat.zero_mul, Addr.add, if_true] at g0
          split at g0
          · split at g0
            · cases g0
            · rename_i hs
              cases hq : a.spot with
              | none => rfl
              | some q => rw [hq] at hs; simp at hs
          · cases g0
        have hlt : a.block < W.heap.size := by
          have := World.block_lt_of_cell? _ _ g0
          simpa [Addr.add] using this
        refine ⟨a.block, a.off, ?_, hlt, ?_⟩
        · obtain ⟨b, o, s⟩ := a
          simp only at hsp
          rw [hsp]
        · intro i hi
          simp only [List.length_map, List.length_range] at hi
          obtain ⟨⟨g1, g2, g3⟩, _, _⟩ := hfn i hi
          rw [add_at a _ hsp] at g1 g2 g3
          rw [add_at _ _ rfl] at g2 g3
          simp only [List.getElem_map, List.getElem_range]
          exact ⟨g1, g2, g3⟩
    · intro x hx
      obtain ⟨i, hi, rfl⟩ := List.mem_map.1 hx
      exact (hfn i (by simpa using hi)).2.1
    · intro x hx
      obtain ⟨i, hi, rfl⟩ := List.mem_map.1 hx
      exact (hfn i (by simpa using hi)).2.2

theorem row_bulk {H : Type} {d : DataW H} {l : List VM.Vl} (h : (d = .nil ∧ l = []) ∨ ∃ es sp, d = .slice es sp ∧ es.length = l.length) : l.length ≤ Rows.uptoBulk d := by
  have all : ∀ es : List (DataW H), es.length ≤ Rows.uptoBulkAll es := by
    intro es
    induction es with
    | nil => simp
    | cons a t ih =>
      have : 1 ≤ Rows.uptoBulk a := by
        cases a with
        | lit x => cases x <;> simp [Rows.uptoBulk]
        | _ => simp [Rows.uptoBulk]
      simp only [Rows.uptoBulkAll, List.length_cons]
      omega
  rcases h with ⟨rfl, rfl⟩ | ⟨es, sp, rfl, hl⟩
  · simp
  · have := all es
    simp only [Rows.uptoBulk]
    omega
theorem shut_row {H : Type} {enc : TypeId × Value → H} {W W' : World} {v : Value} {d : DataW H} {p : List MemPlace} (h : DataW.Trod enc Tryz.prog W 0 (fun _ => true) true 28 v d p) (hb : Below W.heap.size W W') :
    DataW.Trod enc Tryz.prog W' 0 (fun b => decide (b < W.heap.size)) true 28 v d p := by
  refine Below.trod laidOut Tryz.readsRow Tryz.hasRow h hb ?_
  obtain ⟨fuel, hf⟩ := h
  exact DataW.trod_lt fuel _ _ _ hf
end Go.Proofs.YtjadmefiilkgmaaGreatDoor
