/-
  One table's form, a row of values and a column that are handed in, as plain data.
-/
import Derived.Test.YtefojbfihnnpdaaDoorOpenE
namespace Go.Proofs.YtefojbfihnnpdaaDoor
open Go.ChangeShapes Go.WideShapes Go.ChangeAt Go.RowKit
set_option linter.unusedVariables false
set_option linter.unusedSimpArgs false
set_option maxRecDepth 100000

theorem Tryd.readsSc : Tryd.prog.readableRec 39 = true := by kernel_rfl
theorem Tryd.hasSc : 39 < Tryd.prog.types.size := of_decide_eq_true (by kernel_rfl)
theorem Tryd.readsVals : Tryd.prog.readableRec 40 = true := by kernel_rfl
theorem Tryd.hasVals : 40 < Tryd.prog.types.size := of_decide_eq_true (by kernel_rfl)
theorem Tryd.readsCol : Tryd.prog.readableRec 44 = true := by kernel_rfl
theorem Tryd.hasCol : 44 < Tryd.prog.types.size := of_decide_eq_true (by kernel_rfl)

theorem open_sch {H : Type} {enc : TypeId × Value → H} {W : World} {base : Nat} {r : Reach} {v : Value} {d : DataW H} {p : List MemPlace} (hval : Value.okWide Tryd.prog W r base 39 v)
    (h : DataW.Trod enc Tryd.prog W 0 (fun _ => true) true 39 v d p) (hw : ∀ k ∈ d.weights Tryd.prog 39, k ≤ 140737488351232) : ∃ (u : Value) (s : CT.Sc), v = .agg #[.int .i64 s.id, .string s.n, u] ∧ IsL cdC W u s.c ∧ WS [s] ∧ s.c.length * 32 ≤ 140737488351232 := by
  obtain ⟨cs, rfl, hsz⟩ := okWide_struct Tryd.underlying39 hval
  rw [Tryd.cellsSc] at hsz
  obtain ⟨fuel, hf⟩ := h
  obtain ⟨y0, y1, y2, q, hd, _, t0, t1, t2⟩ := Deep.trod_struct3 Tryd.underlying39 hf
  obtain ⟨l⟩ := cs
  match l, hsz with
  | [c0, c1, c2], _ =>
    simp only [Tryd.cellsInt, Tryd.cellsStr, Tryd.cellsCols] at t0 t1 t2
    obtain ⟨k, e0, _, w0⟩ := DataW.trod_int Tryd.underlying3 t0
    obtain ⟨s, e1, x1, w1⟩ := DataW.trod_string Tryd.underlying9 t1
    have hd1 : d = .agg [y0.1, y1.1, y2.1] := congrArg Prod.fst hd
    rw [hd1] at hw
    obtain ⟨ca, cn, cc, e2, cl, hcl, hcb, hck⟩ := openColC t2 (fun n hn => hw n (weights_part (j := 2) Tryd.underlying39 rfl rfl n hn))
    simp [Value.cells] at e0 e1 e2
    subst e0 e1 e2
    have hsz : s.size ≤ 140737488351232 := hw _ (by
      refine weights_part (j := 1) Tryd.underlying39 rfl rfl _ ?_
      rw [x1]
      exact weights_str s)
    refine ⟨_, ⟨k, s, cl⟩, rfl, hcl, ?_, hcb⟩
    intro x hx
    obtain rfl : x = ⟨k, s, cl⟩ := by simpa using hx
    exact ⟨by show s.size ≤ _; omega, fun c hc => (hck c hc).1, by show cl.length ≤ _; omega⟩
theorem shut_sch {H : Type} {enc : TypeId × Value → H} {W W' : World} {v : Value} {d : DataW H} {p : List MemPlace} (h : DataW.Trod enc Tryd.prog W 0 (fun _ => true) true 39 v d p) (hb : Below W.heap.size W W') :
    DataW.Trod enc Tryd.prog W' 0 (fun b => decide (b < W.heap.size)) true 39 v d p := by
  refine Below.trod laidOut Tryd.readsSc Tryd.hasSc h hb ?_
  obtain ⟨fuel, hf⟩ := h
  exact DataW.trod_lt fuel _ _ _ hf
theorem open_vrow {H : Type} {enc : TypeId × Value → H} {W : World} {base : Nat} {r : Reach} {v : Value} {d : DataW H} {p : List MemPlace} (hval : Value.okWide Tryd.prog W r base 40 v)
    (h : DataW.Trod enc Tryd.prog W 0 (fun _ => true) true 40 v d p) (hw : ∀ k ∈ d.weights Tryd.prog 40, k ≤ 140737488351232) : ∃ l : List VM.Vl, IsL cdV W v l ∧ l.length * 32 ≤ 140737488351232 := by
  obtain ⟨a0, len0, cap0, rfl⟩ := okWide_slice Tryd.underlying40 hval
  obtain ⟨fuel, hf⟩ := h
  obtain ⟨a, n, c, e, l, hl, hb, hk⟩ := openValC hf hw
  simp only [Value.cells] at e
  simp at e
  obtain ⟨rfl, rfl, rfl⟩ := e
  exact ⟨l, hl, hb⟩
theorem shut_vrow {H : Type} {enc : TypeId × Value → H} {W W' : World} {v : Value} {d : DataW H} {p : List MemPlace} (h : DataW.Trod enc Tryd.prog W 0 (fun _ => true) true 40 v d p) (hb : Below W.heap.size W W') :
    DataW.Trod enc Tryd.prog W' 0 (fun b => decide (b < W.heap.size)) true 40 v d p := by
  refine Below.trod laidOut Tryd.readsVals Tryd.hasVals h hb ?_
  obtain ⟨fuel, hf⟩ := h
  exact DataW.trod_lt fuel _ _ _ hf
theorem open_colm {H : Type} {enc : TypeId × Value → H} {W : World} {base : Nat} {r : Reach} {v : Value} {d : DataW H} {p : List MemPlace} (hval : Value.okWide Tryd.prog W r base 44 v)
    (h : DataW.Trod enc Tryd.prog W 0 (fun _ => true) true 44 v d p) (hw : ∀ k ∈ d.weights Tryd.prog 44, k ≤ 140737488351232) : ∃ (c : CT.Cl), v = .agg #[.string c.n, .int .i64 c.k, .bool c.nn, .bool c.u] ∧ c.n.size ≤ 140737488355327 := by
  obtain ⟨cs, rfl, hsz⟩ := okWide_struct Tryd.underlying44 hval
  rw [Tryd.cellsCol] at hsz
  obtain ⟨fuel, hf⟩ := h
  obtain ⟨y0, y1, y2, y3, q, _, hd, t0, t1, t2, t3⟩ := trod_struct4 Tryd.underlying44 hf
  obtain ⟨l⟩ := cs
  match l, hsz with
  | [c0, c1, c2, c3], _ =>
    simp only [Tryd.cellsInt, Tryd.cellsStr, Tryd.cellsBool] at t0 t1 t2 t3
    obtain ⟨s, e0, x0, w0⟩ := DataW.trod_string Tryd.underlying9 t0
    obtain ⟨k, e1, _, w1⟩ := DataW.trod_int Tryd.underlying3 t1
    obtain ⟨p, e2, _⟩ := DataW.trod_bool Tryd.underlying4 t2
    obtain ⟨p2, e3, _⟩ := DataW.trod_bool Tryd.underlying4 t3
    simp [Value.cells] at e0 e1 e2 e3
    subst e0 e1 e2 e3
    have hsz : s.size ≤ 140737488351232 := hw _ (by
      simp only at hd
      rw [hd]
      refine weights_part (j := 0) Tryd.underlying44 rfl rfl _ ?_
      rw [x0]
      exact weights_str s)
    exact ⟨⟨s, k, p, p2⟩, rfl, by show s.size ≤ _; omega⟩
theorem shut_colm {H : Type} {enc : TypeId × Value → H} {W W' : World} {v : Value} {d : DataW H} {p : List MemPlace} (h : DataW.Trod enc Tryd.prog W 0 (fun _ => true) true 44 v d p) (hb : Below W.heap.size W W') :
    DataW.Trod enc Tryd.prog W' 0 (fun b => decide (b < W.heap.size)) true 44 v d p := by
  refine Below.trod laidOut Tryd.readsCol Tryd.hasCol h hb ?_
  obtain ⟨fuel, hf⟩ := h
  exact DataW.trod_lt fuel _ _ _ hf
theorem isL_row {W : World} {v : Value} {l : List VM.Vl} (h : IsL cdV W v l) : IsRow W v l := by
  obtain ⟨a, cap, rfl, hc, h0 | ⟨b, o, rfl, hb, hat⟩⟩ := h
  · exact ⟨a, cap, rfl, .inl h0⟩
  · exact ⟨_, cap, rfl, .inr ⟨b, o, rfl, hb, at_cells hat⟩⟩
end Go.Proofs.YtefojbfihnnpdaaDoor
