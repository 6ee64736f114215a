/-
  Entries that are handed in, with their rows and the rows' room, as plain data.
-/
import Derived.Test.YtefojbfihnnpdaaDoorOpenC
import Derived.Test.YtefojbfihnnpdaaDoorCtV
namespace Go.Proofs.YtefojbfihnnpdaaDoor
open Go.ChangeShapes Go.WideShapes Go.ChangeAt Go.RowKit
set_option linter.unusedVariables false
set_option linter.unusedSimpArgs false
set_option maxRecDepth 100000

theorem Tryd.cellsI64 : Tryd.prog.cellsOf 2 = 1 := by kernel_rfl
theorem Tryd.cellsVal : Tryd.prog.cellsOf 46 = 3 := by kernel_rfl
theorem Tryd.cellsVals : Tryd.prog.cellsOf 40 = 1 := by kernel_rfl
theorem Tryd.cellsEn : Tryd.prog.cellsOf 53 = 2 := by kernel_rfl
theorem Tryd.bytesVal : Tryd.prog.bytesOf 46 = 32 := by kernel_rfl
theorem Tryd.bytesEn : Tryd.prog.bytesOf 53 = 32 := by kernel_rfl
theorem Tryd.readsEns : Tryd.prog.readableRec 23 = true := by kernel_rfl
theorem Tryd.hasEns : 23 < Tryd.prog.types.size := of_decide_eq_true (by kernel_rfl)
def cdE : Cd (LF.En × Sl) := ⟨2, fun p => [.int .i64 p.1.1, slV p.2], by decide, fun _ => rfl, fun x u h => by simp at h; rcases h with rfl | rfl <;> rfl⟩
theorem trod_struct2 {H : Type} {enc : TypeId × Value → H} {P : Program} {w : World} {base : Nat} {spare : Nat → Bool} {held : Bool} {t : TypeId} {f0 f1 : Field} {fuel : Nat} {cs : List Value} {x : DataW H × List MemPlace} (ht : P.underlying t = some (.struct #[f0, f1])) (h : DataW.trod enc P w base spare held fuel t cs = some x) :
    ∃ y0 y1 n, cs.length = P.cellsOf t ∧ x.1 = .agg [y0.1, y1.1] ∧ DataW.trod enc P w base spare held n f0.type ((cs.drop f0.offset).take (P.cellsOf f0.type)) = some y0 ∧
      DataW.trod enc P w base spare held n f1.type ((cs.drop f1.offset).take (P.cellsOf f1.type)) = some y1 := by
  obtain ⟨xs, n, _, rfl, hl, hlen, hf⟩ := DataW.trod_struct ht h
  match xs, hlen with
  | [y0, y1], _ => exact ⟨y0, y1, n, hl, rfl, by simpa using hf 0 f0 rfl, by simpa using hf 1 f1 rfl⟩
theorem at_cells {w : World} {b o : Nat} {l : List VM.Vl} (h : At cdV w b o l) : CellsAt w b o l := by
  intro i hi
  have g := fun j (hj : j < 3) => flat_get cdV l i j hi hj
  have k := fun j u (hj : j < 3) (e : (cdV.c l[i])[j]? = some u) => h (i * 3 + j) u ((g j hj).trans e)
  exact ⟨k 0 _ (by decide) rfl, by have := k 1 _ (by decide) rfl; rwa [← Nat.add_assoc] at this, by have := k 2 _ (by decide) rfl; rwa [← Nat.add_assoc] at this⟩

theorem openValC {H : Type} {enc : TypeId × Value → H} {W : World} {fuel : Nat} {cs : List Value} {x : DataW H × List MemPlace} (hf : DataW.trod enc Tryd.prog W 0 (fun _ => true) true fuel 40 cs = some x) (hw : ∀ k ∈ x.1.weights Tryd.prog 40, k ≤ 140737488351232) :
    ∃ a n c, cs = [.slice a n c] ∧ ∃ l : List VM.Vl, IsL cdV W (.slice a n c) l ∧ l.length * 32 ≤ 140737488351232 ∧ (∀ y ∈ l, y.s.size ≤ 140737488355327 ∧ -9223372036854775808 ≤ y.n ∧ y.n ≤ 9223372036854775807) := by
  rcases Deep.open_slice Tryd.underlying40 hf with ⟨hcs, hx⟩ | ⟨a, len, cap, m, n, D, Pl, hcs, hb, hl, hm, hmm, hx, hel⟩
  · exact ⟨_, _, _, hcs, [], isL_nil _ _, by simp, fun y hy => by simp at hy⟩
  · simp only [if_true] at hmm
    subst hmm
    rw [Tryd.cellsVal] at hel
    rw [hx] at hw
    have each : ∀ i, i < len → ∃ y : VM.Vl, (∀ j u, (cdV.c y)[j]? = some u → W.cell? ((a.add (i * 3)).add j) = some u) ∧ (y.s.size ≤ 140737488355327 ∧ -9223372036854775808 ≤ y.n ∧ y.n ≤ 9223372036854775807) := by
      intro i hi
      obtain ⟨cs', h1, h2⟩ := hel i (by omega)
      obtain ⟨_, hlen, hcell⟩ := World.cells?_some h1
      have hwi := fun n hn => hw n (weights_elem Tryd.underlying40 (List.mem_map.2 ⟨i, List.mem_range.2 hi, rfl⟩) n hn)
      obtain ⟨y0, y1, y2, q, hd, _, t0, t1, t2⟩ := Deep.trod_struct3 Tryd.underlying46 h2
      match cs', hlen with
      | [c0, c1, c2], _ =>
        have z0 := hcell 0 (by omega)
        have z1 := hcell 1 (by omega)
        have z2 := hcell 2 (by omega)
        simp only [Tryd.cellsInt, Tryd.cellsI64, Tryd.cellsStr] at t0 t1 t2
        obtain ⟨k, e0, _, w0⟩ := DataW.trod_int Tryd.underlying3 t0
        obtain ⟨nn, e1, _, w1⟩ := DataW.trod_int Tryd.underlying2 t1
        obtain ⟨s, e2, x2, w2⟩ := DataW.trod_string Tryd.underlying9 t2
        have hd1 : D i = .agg [y0.1, y1.1, y2.1] := congrArg Prod.fst hd
        rw [hd1] at hwi
        simp at e0 e1 e2
        subst e0 e1 e2
        have hsz : s.size ≤ 140737488351232 := hwi _ (by
          refine weights_part (j := 2) Tryd.underlying46 rfl rfl _ ?_
          rw [x2]
          exact weights_str s)
        refine ⟨⟨k, nn, s⟩, ?_, by show s.size ≤ _; omega, wf_i64 w1⟩
        intro j u hj
        simp only [cdV] at hj
        match j, hj with
        | 0, hj => simp at hj; subst hj; exact z0
        | 1, hj => simp at hj; subst hj; exact z1
        | 2, hj => simp at hj; subst hj; exact z2
    have inh : Inhabited (VM.Vl) := ⟨⟨0, 0, ⟨#[]⟩⟩⟩
    obtain ⟨f, hfn⟩ := Deep.choose_lt each
    have hlw := hw _ (weights_len Tryd.underlying40)
    rw [Tryd.bytesVal, List.length_map, List.length_range, Nat.add_mul] at hlw
    refine ⟨some a, len, _, hcs, (List.range len).map f, ⟨some a, _, by rw [List.length_map, List.length_range], by rw [List.length_map, List.length_range]; exact hl, ?_⟩, by rw [List.length_map, List.length_range]; omega, ?_⟩
    · by_cases h0 : len = 0
      · subst h0; exact Or.inl rfl
      · right
        have g0 := (hfn 0 (by omega)).1 0 _ (List.getElem?_eq_getElem (by rw [cdV.len]; exact cdV.pos))
        have hsp : a.spot = none := by
          simp only [Nat.zero_mul, Addr.add, if_true] at g0
          exact spot_none g0
        have hlt : a.block < W.heap.size := by
          have := World.block_lt_of_cell? _ _ g0
          simpa [Addr.add] using this
        refine ⟨a.block, a.off, ?_, hlt, ?_⟩
        · obtain ⟨b, o, s⟩ := a
          simp only at hsp
          rw [hsp]
        · intro j u hj
          have hjl := (List.getElem?_eq_some_iff.1 hj).1
          rw [flat_len, List.length_map, List.length_range] at hjl
          have hk : cdV.k = 3 := rfl
          rw [hk] at hjl
          have hi : j / 3 < len := by omega
          have e : j = j / 3 * cdV.k + j % 3 := by rw [hk]; omega
          rw [e, flat_get cdV _ _ _ (by simpa using hi) (by rw [hk]; omega)] at hj
          simp only [List.getElem_map, List.getElem_range] at hj
          have := (hfn (j / 3) hi).1 (j % 3) u hj
          rw [add_at a _ hsp, add_at _ _ rfl] at this
          rw [show a.off + j = a.off + j / 3 * 3 + j % 3 by omega]
          exact this
    · intro y hy
      obtain ⟨i, hi, rfl⟩ := List.mem_map.1 hy
      exact (hfn i (by simpa using hi)).2

theorem openEnC {H : Type} {enc : TypeId × Value → H} {W : World} {fuel : Nat} {cs : List Value} {x : DataW H × List MemPlace} (hf : DataW.trod enc Tryd.prog W 0 (fun _ => true) true fuel 23 cs = some x) (hw : ∀ k ∈ x.1.weights Tryd.prog 23, k ≤ 140737488351232) :
    ∃ a n c, cs = [.slice a n c] ∧ ∃ l : List (LF.En × Sl), IsL cdE W (.slice a n c) l ∧ l.length * 32 ≤ 140737488351232 ∧ (∀ y ∈ l, (-9223372036854775808 ≤ y.1.1 ∧ y.1.1 ≤ 9223372036854775807) ∧ IsL cdV W (slV y.2) y.1.2 ∧ y.1.2.length * 32 ≤ 140737488351232 ∧ ∀ z ∈ y.1.2, z.s.size ≤ 140737488355327 ∧ -9223372036854775808 ≤ z.n ∧ z.n ≤ 9223372036854775807) := by
  rcases Deep.open_slice Tryd.underlying23 hf with ⟨hcs, hx⟩ | ⟨a, len, cap, m, n, D, Pl, hcs, hb, hl, hm, hmm, hx, hel⟩
  · exact ⟨_, _, _, hcs, [], isL_nil _ _, by simp, fun y hy => by simp at hy⟩
  · simp only [if_true] at hmm
    subst hmm
    rw [Tryd.cellsEn] at hel
    rw [hx] at hw
    have each : ∀ i, i < len → ∃ y : (LF.En × Sl), (∀ j u, (cdE.c y)[j]? = some u → W.cell? ((a.add (i * 2)).add j) = some u) ∧ ((-9223372036854775808 ≤ y.1.1 ∧ y.1.1 ≤ 9223372036854775807) ∧ IsL cdV W (slV y.2) y.1.2 ∧ y.1.2.length * 32 ≤ 140737488351232 ∧ ∀ z ∈ y.1.2, z.s.size ≤ 140737488355327 ∧ -9223372036854775808 ≤ z.n ∧ z.n ≤ 9223372036854775807) := by
      intro i hi
      obtain ⟨cs', h1, h2⟩ := hel i (by omega)
      obtain ⟨_, hlen, hcell⟩ := World.cells?_some h1
      have hwi := fun n hn => hw n (weights_elem Tryd.underlying23 (List.mem_map.2 ⟨i, List.mem_range.2 hi, rfl⟩) n hn)
      obtain ⟨y0, y1, q, _, hd, t0, t1⟩ := trod_struct2 Tryd.underlying53 h2
      match cs', hlen with
      | [c0, c1], _ =>
        have z0 := hcell 0 (by omega)
        have z1 := hcell 1 (by omega)
        simp only [Tryd.cellsI64, Tryd.cellsVals] at t0 t1
        obtain ⟨k, e0, _, w0⟩ := DataW.trod_int Tryd.underlying2 t0
        have hd1 : D i = .agg [y0.1, y1.1] := hd
        rw [hd1] at hwi
        obtain ⟨ca, cn, cc, e1, cl, hcl, hcb, hck⟩ := openValC t1 (fun n hn => hwi n (weights_part (j := 1) Tryd.underlying53 rfl rfl n hn))
        simp at e0 e1
        subst e0 e1
        refine ⟨((k, cl), (ca, cn, cc)), ?_, wf_i64 w0, hcl, hcb, hck⟩
        intro j u hj
        simp only [cdE] at hj
        match j, hj with
        | 0, hj => simp at hj; subst hj; exact z0
        | 1, hj => simp at hj; subst hj; exact z1
    have inh : Inhabited ((LF.En × Sl)) := ⟨((0, []), (none, 0, 0))⟩
    obtain ⟨f, hfn⟩ := Deep.choose_lt each
    have hlw := hw _ (weights_len Tryd.underlying23)
    rw [Tryd.bytesEn, List.length_map, List.length_range, Nat.add_mul] at hlw
    refine ⟨some a, len, _, hcs, (List.range len).map f, ⟨some a, _, by rw [List.length_map, List.length_range], by rw [List.length_map, List.length_range]; exact hl, ?_⟩, by rw [List.length_map, List.length_range]; omega, ?_⟩
    · by_cases h0 : len = 0
      · subst h0; exact Or.inl rfl
      · right
        have g0 := (hfn 0 (by omega)).1 0 _ (List.getElem?_eq_getElem (by rw [cdE.len]; exact cdE.pos))
        have hsp : a.spot = none := by
          simp only [Nat.zero_mul, Addr.add, if_true] at g0
          exact spot_none g0
        have hlt : a.block < W.heap.size := by
          have := World.block_lt_of_cell? _ _ g0
          simpa [Addr.add] using this
        refine ⟨a.block, a.off, ?_, hlt, ?_⟩
        · obtain ⟨b, o, s⟩ := a
          simp only at hsp
          rw [hsp]
        · intro j u hj
          have hjl := (List.getElem?_eq_some_iff.1 hj).1
          rw [flat_len, List.length_map, List.length_range] at hjl
          have hk : cdE.k = 2 := rfl
          rw [hk] at hjl
          have hi : j / 2 < len := by omega
          have e : j = j / 2 * cdE.k + j % 2 := by rw [hk]; omega
          rw [e, flat_get cdE _ _ _ (by simpa using hi) (by rw [hk]; omega)] at hj
          simp only [List.getElem_map, List.getElem_range] at hj
          have := (hfn (j / 2) hi).1 (j % 2) u hj
          rw [add_at a _ hsp, add_at _ _ rfl] at this
          rw [show a.off + j = a.off + j / 2 * 2 + j % 2 by omega]
          exact this
    · intro y hy
      obtain ⟨i, hi, rfl⟩ := List.mem_map.1 hy
      exact (hfn i (by simpa using hi)).2

theorem open_ensC {H : Type} {enc : TypeId × Value → H} {W : World} {base : Nat} {r : Reach} {v : Value} {d : DataW H} {p : List MemPlace} (hval : Value.okWide Tryd.prog W r base 23 v)
    (h : DataW.Trod enc Tryd.prog W 0 (fun _ => true) true 23 v d p) (hw : ∀ k ∈ d.weights Tryd.prog 23, k ≤ 140737488351232) : ∃ l : List LF.En, IsEnC W v l ∧ WE l := by
  obtain ⟨a0, len0, cap0, rfl⟩ := okWide_slice Tryd.underlying23 hval
  obtain ⟨fuel, hf⟩ := h
  obtain ⟨a, n, c, e, l, hl, hb, hk⟩ := openEnC hf hw
  simp only [Value.cells] at e
  simp at e
  obtain ⟨rfl, rfl, rfl⟩ := e
  refine ⟨l.map (·.1), ?_, by rw [List.length_map]; omega, ?_⟩
  · obtain ⟨A, C, hv, hc, h0 | ⟨b, o, rfl, hlt, hat⟩⟩ := hl
    · subst h0
      exact ⟨A, C, hv, .inl rfl⟩
    · refine ⟨_, C, by rw [List.length_map]; exact hv, .inr ⟨b, o, rfl, hlt, ?_⟩⟩
      intro i hi
      rw [List.length_map] at hi
      have g := fun j (hj : j < 2) => flat_get cdE l i j hi hj
      have k := fun j u (hj : j < 2) (e : (cdE.c l[i])[j]? = some u) => hat (i * 2 + j) u ((g j hj).trans e)
      obtain ⟨_, hrow, _, _⟩ := hk l[i] (List.getElem_mem hi)
      have k0 := k 0 _ (by decide) rfl
      have k1 := k 1 _ (by decide) rfl
      rw [← Nat.add_assoc] at k1
      rw [List.getElem_map]
      obtain ⟨ra, rc, hrv, hrc, hrr⟩ := hrow
      rw [hrv] at k1
      refine ⟨k0, ra, rc, k1, hrc, ?_⟩
      rcases hrr with h0 | ⟨b', o', e', hb', hat'⟩
      · exact .inl h0
      · exact .inr ⟨b', o', e', hb', at_cells hat'⟩
  · intro e he
    obtain ⟨y, hy, rfl⟩ := List.mem_map.1 he
    obtain ⟨h1, _, h3, h4⟩ := hk y hy
    exact ⟨⟨⟨h1, fun x hx => (h4 x hx).2⟩, by omega⟩, fun x hx => (h4 x hx).1⟩
theorem shut_ens {H : Type} {enc : TypeId × Value → H} {W W' : World} {v : Value} {d : DataW H} {p : List MemPlace} (h : DataW.Trod enc Tryd.prog W 0 (fun _ => true) true 23 v d p) (hb : Below W.heap.size W W') :
    DataW.Trod enc Tryd.prog W' 0 (fun b => decide (b < W.heap.size)) true 23 v d p := by
  refine Below.trod laidOut Tryd.readsEns Tryd.hasEns h hb ?_
  obtain ⟨fuel, hf⟩ := h
  exact DataW.trod_lt fuel _ _ _ hf
end Go.Proofs.YtefojbfihnnpdaaDoor
