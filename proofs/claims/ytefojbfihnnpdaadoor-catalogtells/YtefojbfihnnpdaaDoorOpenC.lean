/-
  Columns and tables' forms that are handed in, as plain data.
-/
import Derived.Test.YtefojbfihnnpdaaDoorCtC
import Derived.Deep.Slices
import Derived.Deep.Strs
import Derived.Carry
import Derived.OpenShut
import Derived.ShutString
import Derived.SizedLaws
namespace Go.Proofs.YtefojbfihnnpdaaDoor
open Go.ChangeShapes Go.WideShapes Go.ChangeAt Go.RowKit
set_option linter.unusedVariables false
set_option linter.unusedSimpArgs false
set_option maxRecDepth 100000

theorem Tryd.cellsInt : Tryd.prog.cellsOf 3 = 1 := by kernel_rfl
theorem Tryd.cellsStr : Tryd.prog.cellsOf 9 = 1 := by kernel_rfl
theorem Tryd.cellsBool : Tryd.prog.cellsOf 4 = 1 := by kernel_rfl
theorem Tryd.cellsCol : Tryd.prog.cellsOf 44 = 4 := by kernel_rfl
theorem Tryd.cellsCols : Tryd.prog.cellsOf 37 = 1 := by kernel_rfl
theorem Tryd.cellsSc : Tryd.prog.cellsOf 39 = 3 := by kernel_rfl
theorem Tryd.bytesCol : Tryd.prog.bytesOf 44 = 32 := by kernel_rfl
theorem Tryd.bytesSc : Tryd.prog.bytesOf 39 = 48 := by kernel_rfl
theorem Tryd.readsScs : Tryd.prog.readableRec 22 = true := by kernel_rfl
theorem Tryd.hasScs : 22 < Tryd.prog.types.size := of_decide_eq_true (by kernel_rfl)

theorem add_at (a : Addr) (n : Nat) (h : a.spot = none) : a.add n = ⟨a.block, a.off + n, none⟩ := by
  obtain ⟨b, o, s⟩ := a
  simp only at h
  subst h
  unfold Addr.add
  split
  · rename_i h0; subst h0; rfl
  · rfl
theorem spot_none {W : World} {a : Addr} {v : Value} (g0 : W.cell? a = some v) : a.spot = none := by
  unfold World.cell? at g0
  split at g0
  · split at g0
    · cases g0
    · rename_i hs
      cases hq : a.spot with
      | none => rfl
      | some q => rw [hq] at hs; simp at hs
  · cases g0
theorem trod_struct4 {H : Type} {enc : TypeId × Value → H} {P : Program} {w : World} {base : Nat} {spare : Nat → Bool} {held : Bool} {t : TypeId} {f0 f1 f2 f3 : Field} {fuel : Nat} {cs : List Value} {x : DataW H × List MemPlace} (ht : P.underlying t = some (.struct #[f0, f1, f2, f3])) (h : DataW.trod enc P w base spare held fuel t cs = some x) :
    ∃ y0 y1 y2 y3 n, cs.length = P.cellsOf t ∧ x.1 = .agg [y0.1, y1.1, y2.1, y3.1] ∧ DataW.trod enc P w base spare held n f0.type ((cs.drop f0.offset).take (P.cellsOf f0.type)) = some y0 ∧
      DataW.trod enc P w base spare held n f1.type ((cs.drop f1.offset).take (P.cellsOf f1.type)) = some y1 ∧ DataW.trod enc P w base spare held n f2.type ((cs.drop f2.offset).take (P.cellsOf f2.type)) = some y2 ∧ DataW.trod enc P w base spare held n f3.type ((cs.drop f3.offset).take (P.cellsOf f3.type)) = some y3 := by
  obtain ⟨xs, n, _, rfl, hl, hlen, hf⟩ := DataW.trod_struct ht h
  match xs, hlen with
  | [y0, y1, y2, y3], _ => exact ⟨y0, y1, y2, y3, n, hl, rfl, by simpa using hf 0 f0 rfl, by simpa using hf 1 f1 rfl, by simpa using hf 2 f2 rfl, by simpa using hf 3 f3 rfl⟩
theorem sized_at {H : Type} {P : Program} {ts : List TypeId} {ds : List (DataW H)} (h : (DataW.weightsEach P ts ds).all (· ≤ reachBytes) = true) {j : Nat} {t : TypeId} {d : DataW H} (ht : ts[j]? = some t) (hd : ds[j]? = some d) : ∀ n ∈ d.weights P t, n ≤ 140737488351232 := by
  intro n hn
  have := List.all_eq_true.1 h _ (DataW.weights_mem_each ht hd n hn)
  have h2 : decide (n ≤ reachBytes) = true := this
  have h3 := of_decide_eq_true h2
  unfold reachBytes at h3
  omega
theorem weights_all {H : Type} {P : Program} {e : TypeId} : ∀ {ds : List (DataW H)} {d : DataW H}, d ∈ ds → ∀ n ∈ d.weights P e, n ∈ DataW.weightsAll P e ds
  | c :: ds, d, hd, n, hn => by
    rw [DataW.weightsAll, List.mem_append]
    rcases List.mem_cons.1 hd with rfl | hd
    · exact .inl hn
    · exact .inr (weights_all hd n hn)
/-- what each of a slice's weighs, the slice weighs too -/
theorem weights_elem {H : Type} {P : Program} {t e : TypeId} (hu : P.underlying t = some (.slice e)) {es sp : List (DataW H)} {d : DataW H} (hd : d ∈ es) : ∀ n ∈ d.weights P e, n ∈ (DataW.slice es sp).weights P t := by
  intro n hn
  rw [DataW.weights]
  simp only [hu]
  exact List.mem_cons_of_mem _ (List.mem_append.2 (.inl (weights_all hd n hn)))
theorem weights_len {H : Type} {P : Program} {t e : TypeId} (hu : P.underlying t = some (.slice e)) {es sp : List (DataW H)} : (es.length + sp.length) * P.bytesOf e ∈ (DataW.slice es sp).weights P t := by
  rw [DataW.weights]
  simp only [hu]
  exact List.mem_cons_self
theorem weights_part {H : Type} {P : Program} {t : TypeId} {fs : Array Field} (hu : P.underlying t = some (.struct fs)) {ps : List (DataW H)} {j : Nat} {f : Field} {d : DataW H} (hf : fs.toList[j]? = some f) (hd : ps[j]? = some d) : ∀ n ∈ d.weights P f.type, n ∈ (DataW.agg ps).weights P t := by
  intro n hn
  rw [DataW.weights]
  simp only [hu]
  exact DataW.weights_mem_each (j := j) (by rw [List.getElem?_map, hf]; rfl) hd n hn
theorem weights_str {H : Type} {P : Program} {t : TypeId} (s : ByteArray) : s.size ∈ (DataW.lit (H := H) (.string s.data.toList)).weights P t := by
  rw [DataW.weights]
  have : s.data.toList.length = s.size := by rw [Array.length_toList]; rfl
  rw [this]
  exact List.mem_cons_self

theorem openColC {H : Type} {enc : TypeId × Value → H} {W : World} {fuel : Nat} {cs : List Value} {x : DataW H × List MemPlace} (hf : DataW.trod enc Tryd.prog W 0 (fun _ => true) true fuel 37 cs = some x) (hw : ∀ k ∈ x.1.weights Tryd.prog 37, k ≤ 140737488351232) :
    ∃ a n c, cs = [.slice a n c] ∧ ∃ l : List CT.Cl, IsL cdC W (.slice a n c) l ∧ l.length * 32 ≤ 140737488351232 ∧ (∀ y ∈ l, y.n.size ≤ 140737488355327 ∧ -9223372036854775808 ≤ y.k ∧ y.k ≤ 9223372036854775807) := by
  rcases Deep.open_slice Tryd.underlying37 hf with ⟨hcs, hx⟩ | ⟨a, len, cap, m, n, D, Pl, hcs, hb, hl, hm, hmm, hx, hel⟩
  · exact ⟨_, _, _, hcs, [], isL_nil _ _, by simp, fun y hy => by simp at hy⟩
  · simp only [if_true] at hmm
    subst hmm
    rw [Tryd.cellsCol] at hel
    rw [hx] at hw
    have each : ∀ i, i < len → ∃ y : CT.Cl, (∀ j u, (cdC.c y)[j]? = some u → W.cell? ((a.add (i * 4)).add j) = some u) ∧ (y.n.size ≤ 140737488355327 ∧ -9223372036854775808 ≤ y.k ∧ y.k ≤ 9223372036854775807) := by
      intro i hi
      obtain ⟨cs', h1, h2⟩ := hel i (by omega)
      obtain ⟨_, hlen, hcell⟩ := World.cells?_some h1
      have hwi := fun n hn => hw n (weights_elem Tryd.underlying37 (List.mem_map.2 ⟨i, List.mem_range.2 hi, rfl⟩) n hn)
      obtain ⟨y0, y1, y2, y3, q, _, hd, t0, t1, t2, t3⟩ := trod_struct4 Tryd.underlying44 h2
      match cs', hlen with
      | [c0, c1, c2, c3], _ =>
        have z0 := hcell 0 (by omega)
        have z1 := hcell 1 (by omega)
        have z2 := hcell 2 (by omega)
        have z3 := hcell 3 (by omega)
        simp only [Tryd.cellsInt, Tryd.cellsStr, Tryd.cellsBool] at t0 t1 t2 t3
        obtain ⟨s, e0, x0, w0⟩ := DataW.trod_string Tryd.underlying9 t0
        obtain ⟨k, e1, _, w1⟩ := DataW.trod_int Tryd.underlying3 t1
        obtain ⟨p, e2, _⟩ := DataW.trod_bool Tryd.underlying4 t2
        obtain ⟨p2, e3, _⟩ := DataW.trod_bool Tryd.underlying4 t3
        simp at e0 e1 e2 e3
        subst e0 e1 e2 e3
        have hsz : s.size ≤ 140737488351232 := hwi _ (by
          simp only at hd
          rw [hd]
          refine weights_part (j := 0) Tryd.underlying44 rfl rfl _ ?_
          rw [x0]
          exact weights_str s)
        refine ⟨⟨s, k, p, p2⟩, ?_, by show s.size ≤ _; omega, wf_i64 w1⟩
        intro j u hj
        simp only [cdC] at hj
        match j, hj with
        | 0, hj => simp at hj; subst hj; exact z0
        | 1, hj => simp at hj; subst hj; exact z1
        | 2, hj => simp at hj; subst hj; exact z2
        | 3, hj => simp at hj; subst hj; exact z3
    have inh : Inhabited (CT.Cl) := ⟨⟨⟨#[]⟩, 0, false, false⟩⟩
    obtain ⟨f, hfn⟩ := Deep.choose_lt each
    have hlw := hw _ (weights_len Tryd.underlying37)
    rw [Tryd.bytesCol, List.length_map, List.length_range, Nat.add_mul] at hlw
    refine ⟨some a, len, _, hcs, (List.range len).map f, ⟨some a, _, by rw [List.length_map, List.length_range], by rw [List.length_map, List.length_range]; exact hl, ?_⟩, by rw [List.length_map, List.length_range]; omega, ?_⟩
    · by_cases h0 : len = 0
      · subst h0; exact Or.inl rfl
      · right
        have g0 := (hfn 0 (by omega)).1 0 _ (List.getElem?_eq_getElem (by rw [cdC.len]; exact cdC.pos))
        have hsp : a.spot = none := by
          simp only [Nat.zero_mul, Addr.add, if_true] at g0
          exact spot_none g0
        have hlt : a.block < W.heap.size := by
          have := World.block_lt_of_cell? _ _ g0
          simpa [Addr.add] using this
        refine ⟨a.block, a.off, ?_, hlt, ?_⟩
        · obtain ⟨b, o, s⟩ := a
          simp only at hsp
          rw [hsp]
        · intro j u hj
          have hjl := (List.getElem?_eq_some_iff.1 hj).1
          rw [flat_len, List.length_map, List.length_range] at hjl
          have hk : cdC.k = 4 := rfl
          rw [hk] at hjl
          have hi : j / 4 < len := by omega
          have e : j = j / 4 * cdC.k + j % 4 := by rw [hk]; omega
          rw [e, flat_get cdC _ _ _ (by simpa using hi) (by rw [hk]; omega)] at hj
          simp only [List.getElem_map, List.getElem_range] at hj
          have := (hfn (j / 4) hi).1 (j % 4) u hj
          rw [add_at a _ hsp, add_at _ _ rfl] at this
          rw [show a.off + j = a.off + j / 4 * 4 + j % 4 by omega]
          exact this
    · intro y hy
      obtain ⟨i, hi, rfl⟩ := List.mem_map.1 hy
      exact (hfn i (by simpa using hi)).2

theorem openScC {H : Type} {enc : TypeId × Value → H} {W : World} {fuel : Nat} {cs : List Value} {x : DataW H × List MemPlace} (hf : DataW.trod enc Tryd.prog W 0 (fun _ => true) true fuel 22 cs = some x) (hw : ∀ k ∈ x.1.weights Tryd.prog 22, k ≤ 140737488351232) :
    ∃ a n c, cs = [.slice a n c] ∧ ∃ l : List (CT.Sc × Sl), IsL cdS W (.slice a n c) l ∧ l.length * 48 ≤ 140737488351232 ∧ (∀ y ∈ l, (-9223372036854775808 ≤ y.1.id ∧ y.1.id ≤ 9223372036854775807) ∧ y.1.n.size ≤ 140737488355327 ∧ IsL cdC W (slV y.2) y.1.c ∧ y.1.c.length * 32 ≤ 140737488351232 ∧ ∀ z ∈ y.1.c, z.n.size ≤ 140737488355327 ∧ -9223372036854775808 ≤ z.k ∧ z.k ≤ 9223372036854775807) := by
  rcases Deep.open_slice Tryd.underlying22 hf with ⟨hcs, hx⟩ | ⟨a, len, cap, m, n, D, Pl, hcs, hb, hl, hm, hmm, hx, hel⟩
  · exact ⟨_, _, _, hcs, [], isL_nil _ _, by simp, fun y hy => by simp at hy⟩
  · simp only [if_true] at hmm
    subst hmm
    rw [Tryd.cellsSc] at hel
    rw [hx] at hw
    have each : ∀ i, i < len → ∃ y : (CT.Sc × Sl), (∀ j u, (cdS.c y)[j]? = some u → W.cell? ((a.add (i * 3)).add j) = some u) ∧ ((-9223372036854775808 ≤ y.1.id ∧ y.1.id ≤ 9223372036854775807) ∧ y.1.n.size ≤ 140737488355327 ∧ IsL cdC W (slV y.2) y.1.c ∧ y.1.c.length * 32 ≤ 140737488351232 ∧ ∀ z ∈ y.1.c, z.n.size ≤ 140737488355327 ∧ -9223372036854775808 ≤ z.k ∧ z.k ≤ 9223372036854775807) := by
      intro i hi
      obtain ⟨cs', h1, h2⟩ := hel i (by omega)
      obtain ⟨_, hlen, hcell⟩ := World.cells?_some h1
      have hwi := fun n hn => hw n (weights_elem Tryd.underlying22 (List.mem_map.2 ⟨i, List.mem_range.2 hi, rfl⟩) n hn)
      obtain ⟨y0, y1, y2, q, hd, _, t0, t1, t2⟩ := Deep.trod_struct3 Tryd.underlying39 h2
      match cs', hlen with
      | [c0, c1, c2], _ =>
        have z0 := hcell 0 (by omega)
        have z1 := hcell 1 (by omega)
        have z2 := hcell 2 (by omega)
        simp only [Tryd.cellsInt, Tryd.cellsStr, Tryd.cellsCols] at t0 t1 t2
        obtain ⟨k, e0, _, w0⟩ := DataW.trod_int Tryd.underlying3 t0
        obtain ⟨s, e1, x1, w1⟩ := DataW.trod_string Tryd.underlying9 t1
        have hd1 : D i = .agg [y0.1, y1.1, y2.1] := congrArg Prod.fst hd
        rw [hd1] at hwi
        obtain ⟨ca, cn, cc, e2, cl, hcl, hcb, hck⟩ := openColC t2 (fun n hn => hwi n (weights_part (j := 2) Tryd.underlying39 rfl rfl n hn))
        simp at e0 e1 e2
        subst e0 e1 e2
        have hsz : s.size ≤ 140737488351232 := hwi _ (by
          refine weights_part (j := 1) Tryd.underlying39 rfl rfl _ ?_
          rw [x1]
          exact weights_str s)
        refine ⟨(⟨k, s, cl⟩, (ca, cn, cc)), ?_, wf_i64 w0, by show s.size ≤ _; omega, hcl, hcb, hck⟩
        intro j u hj
        simp only [cdS] at hj
        match j, hj with
        | 0, hj => simp at hj; subst hj; exact z0
        | 1, hj => simp at hj; subst hj; exact z1
        | 2, hj => simp at hj; subst hj; exact z2
    have inh : Inhabited ((CT.Sc × Sl)) := ⟨(⟨0, ⟨#[]⟩, []⟩, (none, 0, 0))⟩
    obtain ⟨f, hfn⟩ := Deep.choose_lt each
    have hlw := hw _ (weights_len Tryd.underlying22)
    rw [Tryd.bytesSc, List.length_map, List.length_range, Nat.add_mul] at hlw
    refine ⟨some a, len, _, hcs, (List.range len).map f, ⟨some a, _, by rw [List.length_map, List.length_range], by rw [List.length_map, List.length_range]; exact hl, ?_⟩, by rw [List.length_map, List.length_range]; omega, ?_⟩
    · by_cases h0 : len = 0
      · subst h0; exact Or.inl rfl
      · right
        have g0 := (hfn 0 (by omega)).1 0 _ (List.getElem?_eq_getElem (by rw [cdS.len]; exact cdS.pos))
        have hsp : a.spot = none := by
          simp only [Nat.zero_mul, Addr.add, if_true] at g0
          exact spot_none g0
        have hlt : a.block < W.heap.size := by
          have := World.block_lt_of_cell? _ _ g0
          simpa [Addr.add] using this
        refine ⟨a.block, a.off, ?_, hlt, ?_⟩
        · obtain ⟨b, o, s⟩ := a
          simp only at hsp
          rw [hsp]
        · intro j u hj
          have hjl := (List.getElem?_eq_some_iff.1 hj).1
          rw [flat_len, List.length_map, List.length_range] at hjl
          have hk : cdS.k = 3 := rfl
          rw [hk] at hjl
          have hi : j / 3 < len := by omega
          have e : j = j / 3 * cdS.k + j % 3 := by rw [hk]; omega
          rw [e, flat_get cdS _ _ _ (by simpa using hi) (by rw [hk]; omega)] at hj
          simp only [List.getElem_map, List.getElem_range] at hj
          have := (hfn (j / 3) hi).1 (j % 3) u hj
          rw [add_at a _ hsp, add_at _ _ rfl] at this
          rw [show a.off + j = a.off + j / 3 * 3 + j % 3 by omega]
          exact this
    · intro y hy
      obtain ⟨i, hi, rfl⟩ := List.mem_map.1 hy
      exact (hfn i (by simpa using hi)).2

/-- tables' forms that are handed in have their bounds -/
structure BS (l : List CT.Sc) : Prop where
  len : l.length * 48 ≤ 140737488351232
  ws : WS l
theorem open_scs {H : Type} {enc : TypeId × Value → H} {W : World} {base : Nat} {r : Reach} {v : Value} {d : DataW H} {p : List MemPlace} (hval : Value.okWide Tryd.prog W r base 22 v)
    (h : DataW.Trod enc Tryd.prog W 0 (fun _ => true) true 22 v d p) (hw : ∀ k ∈ d.weights Tryd.prog 22, k ≤ 140737488351232) : ∃ l : List CT.Sc, IsSc W v l ∧ BS l := by
  obtain ⟨a0, len0, cap0, rfl⟩ := okWide_slice Tryd.underlying22 hval
  obtain ⟨fuel, hf⟩ := h
  obtain ⟨a, n, c, e, l, hl, hb, hk⟩ := openScC hf hw
  simp only [Value.cells] at e
  simp at e
  obtain ⟨rfl, rfl, rfl⟩ := e
  refine ⟨l.map (·.1), ⟨l, hl, rfl, fun p hp => (hk p hp).2.2.1⟩, by rw [List.length_map]; exact hb, ?_⟩
  intro s hs
  obtain ⟨y, hy, rfl⟩ := List.mem_map.1 hs
  obtain ⟨_, h1, _, h3, h4⟩ := hk y hy
  exact ⟨h1, fun c hc => (h4 c hc).1, by omega⟩
theorem shut_scs {H : Type} {enc : TypeId × Value → H} {W W' : World} {v : Value} {d : DataW H} {p : List MemPlace} (h : DataW.Trod enc Tryd.prog W 0 (fun _ => true) true 22 v d p) (hb : Below W.heap.size W W') :
    DataW.Trod enc Tryd.prog W' 0 (fun b => decide (b < W.heap.size)) true 22 v d p := by
  refine Below.trod laidOut Tryd.readsScs Tryd.hasScs h hb ?_
  obtain ⟨fuel, hf⟩ := h
  exact DataW.trod_lt fuel _ _ _ hf
end Go.Proofs.YtefojbfihnnpdaaDoor
