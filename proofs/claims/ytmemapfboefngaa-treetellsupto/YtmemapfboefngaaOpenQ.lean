/-
  A tree that is handed in, as plain data, its bulk told.
-/
import Derived.Test.YtmemapfboefngaaOpenP
import Derived.Test.YtmemapfboefngaaRows
import Derived.ChangeMaps
namespace Go.Proofs.Ytmemapfboefngaa
open Go.ChangeShapes Go.WideShapes Go.ChangeAt Go.RowKit
set_option linter.unusedVariables false
set_option linter.unusedSimpArgs false
set_option maxRecDepth 100000
theorem bulk_pos {H : Type} (d : DataW H) : 1 ≤ Rows.uptoBulk d := by
  cases d with
  | lit x => cases x <;> simp [Rows.uptoBulk]
  | _ => simp [Rows.uptoBulk]
theorem bulk_mem {H : Type} {d : DataW H} : ∀ {es : List (DataW H)}, d ∈ es → Rows.uptoBulk d ≤ Rows.uptoBulkAll es
  | c :: es, h => by
    rw [Rows.uptoBulkAll]
    rcases List.mem_cons.1 h with rfl | h
    · omega
    · have := bulk_mem h; omega
theorem bulk_len {H : Type} : ∀ (es : List (DataW H)), es.length ≤ Rows.uptoBulkAll es
  | [] => by simp [Rows.uptoBulkAll]
  | c :: es => by
    rw [Rows.uptoBulkAll, List.length_cons]
    have := bulk_pos c
    have := bulk_len es
    omega
theorem bulk_sum {H : Type} {f : Nat → Nat} {g : Nat → DataW H} : ∀ (l : List Nat), (∀ i ∈ l, f i ≤ Rows.uptoBulk (g i)) → (l.map f).sum ≤ Rows.uptoBulkAll (l.map g)
  | [], _ => by simp [Rows.uptoBulkAll]
  | c :: l, h => by
    rw [List.map_cons, List.map_cons, Rows.uptoBulkAll, List.sum_cons]
    have := h c (by simp)
    have := bulk_sum l (fun i hi => h i (by simp [hi]))
    omega
theorem bulk_elem {H : Type} {es sp : List (DataW H)} {d : DataW H} (hd : d ∈ es) : Rows.uptoBulk d ≤ Rows.uptoBulk (DataW.slice es sp) := by
  rw [Rows.uptoBulk]
  have := bulk_mem hd
  omega
theorem bulk_slice {H : Type} {es sp : List (DataW H)} : es.length ≤ Rows.uptoBulk (DataW.slice es sp) := by
  rw [Rows.uptoBulk]
  have := bulk_len es
  omega
theorem openPrB {H : Type} {enc : TypeId × Value → H} {W : World} {fuel : Nat} {cs : List Value} {x : DataW H × List MemPlace} (hf : DataW.trod enc Try.prog W 0 (fun _ => true) true fuel 28 cs = some x) :
    ∃ a n c, cs = [.slice a n c] ∧ ∃ l : List TK.Pr, IsL cdPr W (.slice a n c) l ∧ l.length ≤ Rows.uptoBulk x.1 ∧ (∀ y ∈ l, y.k.size ≤ Rows.uptoBulk x.1 ∧ (-9223372036854775808 ≤ y.n ∧ y.n ≤ 9223372036854775807)) := by
  rcases Deep.open_slice Try.underlying28 hf with ⟨hcs, hx⟩ | ⟨a, len, cap, m, n, D, Pl, hcs, hb, hl, hm, hmm, hx, hel⟩
  · exact ⟨_, _, _, hcs, [], isL_nil _ _, by simp, fun y hy => by simp at hy⟩
  · simp only [if_true] at hmm
    subst hmm
    rw [Try.cellsPair] at hel
    have each : ∀ i, i < len → ∃ y : TK.Pr, (∀ j u, (cdPr.c y)[j]? = some u → W.cell? ((a.add (i * 2)).add j) = some u) ∧ (y.k.size ≤ Rows.uptoBulk (D i) ∧ (-9223372036854775808 ≤ y.n ∧ y.n ≤ 9223372036854775807)) := by
      intro i hi
      obtain ⟨cs', h1, h2⟩ := hel i (by omega)
      obtain ⟨_, hlen, hcell⟩ := World.cells?_some h1
      obtain ⟨y0, y1, q, _, hd, t0, t1⟩ := trod_struct2 Try.underlying38 h2
      match cs', hlen with
      | [c0, c1], _ =>
        have z0 := hcell 0 (by omega)
        have z1 := hcell 1 (by omega)
        simp only [Try.cellsI64, Try.cellsStr] at t0 t1
        obtain ⟨s, e0, x0, w0⟩ := DataW.trod_string Try.underlying9 t0
        obtain ⟨nn, e1, _, w1⟩ := DataW.trod_int Try.underlying2 t1
        simp only at hd
        simp at e0 e1
        subst e0 e1
        have hsz : s.size ≤ Rows.uptoBulk (D i) := by
          have e : s.data.toList.length = s.size := by rw [Array.length_toList]; rfl
          rw [hd, Rows.uptoBulk, Rows.uptoBulkAll, x0, Rows.uptoBulk, e]
          omega
        refine ⟨⟨s, nn⟩, ?_, hsz, wf_i64 w1⟩
        intro j u hj
        simp only [cdPr] at hj
        match j, hj with
        | 0, hj => simp at hj; subst hj; exact z0
        | 1, hj => simp at hj; subst hj; exact z1
    have inh : Inhabited (TK.Pr) := ⟨⟨⟨#[]⟩, 0⟩⟩
    obtain ⟨f, hfn⟩ := Deep.choose_lt each
    have hlw : len ≤ Rows.uptoBulk x.1 := by
      have := bulk_slice (es := (List.range len).map D) (sp := (List.range (m - len)).map fun j => D (len + j))
      rw [hx]
      simpa using this
    have hel2 : ∀ i, i < len → Rows.uptoBulk (D i) ≤ Rows.uptoBulk x.1 := fun i hi => by
      rw [hx]
      exact bulk_elem (List.mem_map.2 ⟨i, List.mem_range.2 hi, rfl⟩)
    refine ⟨some a, len, _, hcs, (List.range len).map f, ⟨some a, _, by rw [List.length_map, List.length_range], by rw [List.length_map, List.length_range]; exact hl, ?_⟩, by rw [List.length_map, List.length_range]; exact hlw, ?_⟩
    · by_cases h0 : len = 0
      · subst h0; exact Or.inl rfl
      · right
        have g0 := (hfn 0 (by omega)).1 0 _ (List.getElem?_eq_getElem (by rw [cdPr.len]; exact cdPr.pos))
        have hsp : a.spot = none := by
          simp only [Nat.zero_mul, Addr.add, if_true] at g0
          exact spot_none g0
        have hlt : a.block < W.heap.size := by
          have := World.block_lt_of_cell? _ _ g0
          simpa [Addr.add] using this
        refine ⟨a.block, a.off, ?_, hlt, ?_⟩
        · obtain ⟨b, o, s⟩ := a
          simp only at hsp
          rw [hsp]
        · intro j u hj
          have hjl := (List.getElem?_eq_some_iff.1 hj).1
          rw [flat_len, List.length_map, List.length_range] at hjl
          have hk : cdPr.k = 2 := rfl
          rw [hk] at hjl
          have hi : j / 2 < len := by omega
          have e : j = j / 2 * cdPr.k + j % 2 := by rw [hk]; omega
          rw [e, flat_get cdPr _ _ _ (by simpa using hi) (by rw [hk]; omega)] at hj
          simp only [List.getElem_map, List.getElem_range] at hj
          have := (hfn (j / 2) hi).1 (j % 2) u hj
          rw [add_at a _ hsp, add_at _ _ rfl] at this
          rw [show a.off + j = a.off + j / 2 * 2 + j % 2 by omega]
          exact this
    · intro y hy
      obtain ⟨i, hi, rfl⟩ := List.mem_map.1 hy
      obtain ⟨g1, g2⟩ := (hfn i (by simpa using hi)).2
      exact ⟨Nat.le_trans g1 (hel2 i (by simpa using hi)), g2⟩

theorem openItB {H : Type} {enc : TypeId × Value → H} {W : World} {fuel : Nat} {cs : List Value} {x : DataW H × List MemPlace} (hf : DataW.trod enc Try.prog W 0 (fun _ => true) true fuel 53 cs = some x) :
    ∃ a n c, cs = [.slice a n c] ∧ ∃ l : List Int, IsL cdZ W (.slice a n c) l ∧ l.length ≤ Rows.uptoBulk x.1 ∧ (∀ y ∈ l, (-9223372036854775808 ≤ y ∧ y ≤ 9223372036854775807)) := by
  rcases Deep.open_slice Try.underlying53 hf with ⟨hcs, hx⟩ | ⟨a, len, cap, m, n, D, Pl, hcs, hb, hl, hm, hmm, hx, hel⟩
  · exact ⟨_, _, _, hcs, [], isL_nil _ _, by simp, fun y hy => by simp at hy⟩
  · simp only [if_true] at hmm
    subst hmm
    rw [Try.cellsInt] at hel
    have each : ∀ i, i < len → ∃ y : Int, (∀ j u, (cdZ.c y)[j]? = some u → W.cell? ((a.add (i * 1)).add j) = some u) ∧ ((-9223372036854775808 ≤ y ∧ y ≤ 9223372036854775807)) := by
      intro i hi
      obtain ⟨cs', h1, h2⟩ := hel i (by omega)
      obtain ⟨_, hlen, hcell⟩ := World.cells?_some h1
      match cs', hlen with
      | [c0], _ =>
        have z0 := hcell 0 (by omega)
        obtain ⟨k, e0, _, w0⟩ := DataW.trod_int Try.underlying3 h2
        simp at e0
        subst e0
        refine ⟨k, ?_, wf_i64 w0⟩
        intro j u hj
        simp only [cdZ] at hj
        match j, hj with
        | 0, hj => simp at hj; subst hj; exact z0
    have inh : Inhabited (Int) := ⟨0⟩
    obtain ⟨f, hfn⟩ := Deep.choose_lt each
    have hlw : len ≤ Rows.uptoBulk x.1 := by
      have := bulk_slice (es := (List.range len).map D) (sp := (List.range (m - len)).map fun j => D (len + j))
      rw [hx]
      simpa using this
    have hel2 : ∀ i, i < len → Rows.uptoBulk (D i) ≤ Rows.uptoBulk x.1 := fun i hi => by
      rw [hx]
      exact bulk_elem (List.mem_map.2 ⟨i, List.mem_range.2 hi, rfl⟩)
    refine ⟨some a, len, _, hcs, (List.range len).map f, ⟨some a, _, by rw [List.length_map, List.length_range], by rw [List.length_map, List.length_range]; exact hl, ?_⟩, by rw [List.length_map, List.length_range]; exact hlw, ?_⟩
    · by_cases h0 : len = 0
      · subst h0; exact Or.inl rfl
      · right
        have g0 := (hfn 0 (by omega)).1 0 _ (List.getElem?_eq_getElem (by rw [cdZ.len]; exact cdZ.pos))
        have hsp : a.spot = none := by
          simp only [Nat.zero_mul, Addr.add, if_true] at g0
          exact spot_none g0
        have hlt : a.block < W.heap.size := by
          have := World.block_lt_of_cell? _ _ g0
          simpa [Addr.add] using this
        refine ⟨a.block, a.off, ?_, hlt, ?_⟩
        · obtain ⟨b, o, s⟩ := a
          simp only at hsp
          rw [hsp]
        · intro j u hj
          have hjl := (List.getElem?_eq_some_iff.1 hj).1
          rw [flat_len, List.length_map, List.length_range] at hjl
          have hk : cdZ.k = 1 := rfl
          rw [hk] at hjl
          have hi : j / 1 < len := by omega
          have e : j = j / 1 * cdZ.k + j % 1 := by rw [hk]; omega
          rw [e, flat_get cdZ _ _ _ (by simpa using hi) (by rw [hk]; omega)] at hj
          simp only [List.getElem_map, List.getElem_range] at hj
          have := (hfn (j / 1) hi).1 (j % 1) u hj
          rw [add_at a _ hsp, add_at _ _ rfl] at this
          rw [show a.off + j = a.off + j / 1 * 1 + j % 1 by omega]
          exact this
    · intro y hy
      obtain ⟨i, hi, rfl⟩ := List.mem_map.1 hy
      exact (hfn i (by simpa using hi)).2

theorem openLvB {H : Type} {enc : TypeId × Value → H} {W : World} {fuel : Nat} {cs : List Value} {x : DataW H × List MemPlace} (hf : DataW.trod enc Try.prog W 0 (fun _ => true) true fuel 22 cs = some x) :
    ∃ a n c, cs = [.slice a n c] ∧ ∃ l : List (Sq × List TK.Pr), IsL cdSP W (.slice a n c) l ∧ l.length ≤ Rows.uptoBulk x.1 ∧ (l.map (fun y => y.2.length)).sum ≤ Rows.uptoBulk x.1 ∧ (∀ y ∈ l, IsL cdPr W y.1.v y.2 ∧ y.2.length ≤ Rows.uptoBulk x.1 ∧ ∀ z ∈ y.2, z.k.size ≤ Rows.uptoBulk x.1 ∧ (-9223372036854775808 ≤ z.n ∧ z.n ≤ 9223372036854775807)) := by
  rcases Deep.open_slice Try.underlying22 hf with ⟨hcs, hx⟩ | ⟨a, len, cap, m, n, D, Pl, hcs, hb, hl, hm, hmm, hx, hel⟩
  · exact ⟨_, _, _, hcs, [], isL_nil _ _, by simp, by simp, fun y hy => by simp at hy⟩
  · simp only [if_true] at hmm
    subst hmm
    rw [Try.cellsPairs] at hel
    have each : ∀ i, i < len → ∃ y : (Sq × List TK.Pr), (∀ j u, (cdSP.c y)[j]? = some u → W.cell? ((a.add (i * 1)).add j) = some u) ∧ (IsL cdPr W y.1.v y.2 ∧ y.2.length ≤ Rows.uptoBulk (D i) ∧ ∀ z ∈ y.2, z.k.size ≤ Rows.uptoBulk (D i) ∧ (-9223372036854775808 ≤ z.n ∧ z.n ≤ 9223372036854775807)) := by
      intro i hi
      obtain ⟨cs', h1, h2⟩ := hel i (by omega)
      obtain ⟨_, hlen, hcell⟩ := World.cells?_some h1
      match cs', hlen with
      | [c0], _ =>
        have z0 := hcell 0 (by omega)
        obtain ⟨ca, cn, cc, e1, cl, hcl, hcb, hck⟩ := openPrB h2
        simp at e1
        subst e1
        refine ⟨(⟨ca, cn, cc⟩, cl), ?_, hcl, hcb, hck⟩
        intro j u hj
        simp only [cdSP] at hj
        match j, hj with
        | 0, hj => simp at hj; subst hj; exact z0
    have inh : Inhabited ((Sq × List TK.Pr)) := ⟨(⟨none, 0, 0⟩, [])⟩
    obtain ⟨f, hfn⟩ := Deep.choose_lt each
    have hlw : len ≤ Rows.uptoBulk x.1 := by
      have := bulk_slice (es := (List.range len).map D) (sp := (List.range (m - len)).map fun j => D (len + j))
      rw [hx]
      simpa using this
    have hel2 : ∀ i, i < len → Rows.uptoBulk (D i) ≤ Rows.uptoBulk x.1 := fun i hi => by
      rw [hx]
      exact bulk_elem (List.mem_map.2 ⟨i, List.mem_range.2 hi, rfl⟩)
    refine ⟨some a, len, _, hcs, (List.range len).map f, ⟨some a, _, by rw [List.length_map, List.length_range], by rw [List.length_map, List.length_range]; exact hl, ?_⟩, by rw [List.length_map, List.length_range]; exact hlw, ?_, ?_⟩
    · by_cases h0 : len = 0
      · subst h0; exact Or.inl rfl
      · right
        have g0 := (hfn 0 (by omega)).1 0 _ (List.getElem?_eq_getElem (by rw [cdSP.len]; exact cdSP.pos))
        have hsp : a.spot = none := by
          simp only [Nat.zero_mul, Addr.add, if_true] at g0
          exact spot_none g0
        have hlt : a.block < W.heap.size := by
          have := World.block_lt_of_cell? _ _ g0
          simpa [Addr.add] using this
        refine ⟨a.block, a.off, ?_, hlt, ?_⟩
        · obtain ⟨b, o, s⟩ := a
          simp only at hsp
          rw [hsp]
        · intro j u hj
          have hjl := (List.getElem?_eq_some_iff.1 hj).1
          rw [flat_len, List.length_map, List.length_range] at hjl
          have hk : cdSP.k = 1 := rfl
          rw [hk] at hjl
          have hi : j / 1 < len := by omega
          have e : j = j / 1 * cdSP.k + j % 1 := by rw [hk]; omega
          rw [e, flat_get cdSP _ _ _ (by simpa using hi) (by rw [hk]; omega)] at hj
          simp only [List.getElem_map, List.getElem_range] at hj
          have := (hfn (j / 1) hi).1 (j % 1) u hj
          rw [add_at a _ hsp, add_at _ _ rfl] at this
          rw [show a.off + j = a.off + j / 1 * 1 + j % 1 by omega]
          exact this
    · rw [List.map_map, hx, Rows.uptoBulk]
      have := bulk_sum (f := fun i => (f i).2.length) (g := D) (List.range len) (fun i hi => (hfn i (by simpa using hi)).2.2.1)
      simp only [Function.comp_def]
      omega
    · intro y hy
      obtain ⟨i, hi, rfl⟩ := List.mem_map.1 hy
      have hi' : i < len := by simpa using hi
      obtain ⟨g1, g2, g3⟩ := (hfn i hi').2
      exact ⟨g1, Nat.le_trans g2 (hel2 i hi'), fun z hz => ⟨Nat.le_trans (g3 z hz).1 (hel2 i hi'), (g3 z hz).2⟩⟩

theorem openUsB {H : Type} {enc : TypeId × Value → H} {W : World} {fuel : Nat} {cs : List Value} {x : DataW H × List MemPlace} (hf : DataW.trod enc Try.prog W 0 (fun _ => true) true fuel 23 cs = some x) :
    ∃ a n c, cs = [.slice a n c] ∧ ∃ l : List (Sq × List Int), IsL cdSI W (.slice a n c) l ∧ l.length ≤ Rows.uptoBulk x.1 ∧ (l.map (fun y => y.2.length)).sum ≤ Rows.uptoBulk x.1 ∧ (∀ y ∈ l, IsL cdZ W y.1.v y.2 ∧ y.2.length ≤ Rows.uptoBulk x.1 ∧ ∀ z ∈ y.2, (-9223372036854775808 ≤ z ∧ z ≤ 9223372036854775807)) := by
  rcases Deep.open_slice Try.underlying23 hf with ⟨hcs, hx⟩ | ⟨a, len, cap, m, n, D, Pl, hcs, hb, hl, hm, hmm, hx, hel⟩
  · exact ⟨_, _, _, hcs, [], isL_nil _ _, by simp, by simp, fun y hy => by simp at hy⟩
  · simp only [if_true] at hmm
    subst hmm
    rw [Try.cellsInts] at hel
    have each : ∀ i, i < len → ∃ y : (Sq × List Int), (∀ j u, (cdSI.c y)[j]? = some u → W.cell? ((a.add (i * 1)).add j) = some u) ∧ (IsL cdZ W y.1.v y.2 ∧ y.2.length ≤ Rows.uptoBulk (D i) ∧ ∀ z ∈ y.2, (-9223372036854775808 ≤ z ∧ z ≤ 9223372036854775807)) := by
      intro i hi
      obtain ⟨cs', h1, h2⟩ := hel i (by omega)
      obtain ⟨_, hlen, hcell⟩ := World.cells?_some h1
      match cs', hlen with
      | [c0], _ =>
        have z0 := hcell 0 (by omega)
        obtain ⟨ca, cn, cc, e1, cl, hcl, hcb, hck⟩ := openItB h2
        simp at e1
        subst e1
        refine ⟨(⟨ca, cn, cc⟩, cl), ?_, hcl, hcb, hck⟩
        intro j u hj
        simp only [cdSI] at hj
        match j, hj with
        | 0, hj => simp at hj; subst hj; exact z0
    have inh : Inhabited ((Sq × List Int)) := ⟨(⟨none, 0, 0⟩, [])⟩
    obtain ⟨f, hfn⟩ := Deep.choose_lt each
    have hlw : len ≤ Rows.uptoBulk x.1 := by
      have := bulk_slice (es := (List.range len).map D) (sp := (List.range (m - len)).map fun j => D (len + j))
      rw [hx]
      simpa using this
    have hel2 : ∀ i, i < len → Rows.uptoBulk (D i) ≤ Rows.uptoBulk x.1 := fun i hi => by
      rw [hx]
      exact bulk_elem (List.mem_map.2 ⟨i, List.mem_range.2 hi, rfl⟩)
    refine ⟨some a, len, _, hcs, (List.range len).map f, ⟨some a, _, by rw [List.length_map, List.length_range], by rw [List.length_map, List.length_range]; exact hl, ?_⟩, by rw [List.length_map, List.length_range]; exact hlw, ?_, ?_⟩
    · by_cases h0 : len = 0
      · subst h0; exact Or.inl rfl
      · right
        have g0 := (hfn 0 (by omega)).1 0 _ (List.getElem?_eq_getElem (by rw [cdSI.len]; exact cdSI.pos))
        have hsp : a.spot = none := by
          simp only [Nat.zero_mul, Addr.add, if_true] at g0
          exact spot_none g0
        have hlt : a.block < W.heap.size := by
          have := World.block_lt_of_cell? _ _ g0
          simpa [Addr.add] using this
        refine ⟨a.block, a.off, ?_, hlt, ?_⟩
        · obtain ⟨b, o, s⟩ := a
          simp only at hsp
          rw [hsp]
        · intro j u hj
          have hjl := (List.getElem?_eq_some_iff.1 hj).1
          rw [flat_len, List.length_map, List.length_range] at hjl
          have hk : cdSI.k = 1 := rfl
          rw [hk] at hjl
          have hi : j / 1 < len := by omega
          have e : j = j / 1 * cdSI.k + j % 1 := by rw [hk]; omega
          rw [e, flat_get cdSI _ _ _ (by simpa using hi) (by rw [hk]; omega)] at hj
          simp only [List.getElem_map, List.getElem_range] at hj
          have := (hfn (j / 1) hi).1 (j % 1) u hj
          rw [add_at a _ hsp, add_at _ _ rfl] at this
          rw [show a.off + j = a.off + j / 1 * 1 + j % 1 by omega]
          exact this
    · rw [List.map_map, hx, Rows.uptoBulk]
      have := bulk_sum (f := fun i => (f i).2.length) (g := D) (List.range len) (fun i hi => (hfn i (by simpa using hi)).2.2.1)
      simp only [Function.comp_def]
      omega
    · intro y hy
      obtain ⟨i, hi, rfl⟩ := List.mem_map.1 hy
      have hi' : i < len := by simpa using hi
      obtain ⟨g1, g2, g3⟩ := (hfn i hi').2
      exact ⟨g1, Nat.le_trans g2 (hel2 i hi'), g3⟩

theorem open_treeB {H : Type} {enc : TypeId × Value → H} {W : World} {base : Nat} {r : Reach} {v : Value} {d : DataW H} {p : List MemPlace} (hval : Value.okWide Try.prog W r base 25 v)
    (h : DataW.Trod enc Try.prog W 0 (fun _ => true) true 25 v d p) (hw : Rows.uptoBulk d ≤ 1048576) : ∃ (a b : Value) (L : List (List TK.Pr)) (U : List (List Int)), v = .agg #[a, b] ∧ IsT W a b L U ∧ BT L U ∧ L.flatten.length ≤ 1048576 := by
  obtain ⟨cs, rfl, hsz⟩ := okWide_struct Try.underlying25 hval
  obtain ⟨fuel, hf⟩ := h
  obtain ⟨y0, y1, n, hl, hx, t0, t1⟩ := trod_struct2 Try.underlying25 hf
  simp only at hx
  rw [hx, Rows.uptoBulk, Rows.uptoBulkAll, Rows.uptoBulkAll, Rows.uptoBulkAll] at hw
  rw [Try.cellsTree] at hl
  obtain ⟨l⟩ := cs
  simp only [Value.cells] at hl t0 t1
  have hl' : l.length = 2 := hl
  match l, hl' with
  | [c0, c1], _ =>
    simp only [Try.cellsLeaves, Try.cellsUps] at t0 t1
    obtain ⟨a0, n0, k0, e0, l0, hl0, hb0, hs0, hk0⟩ := openLvB t0
    obtain ⟨a1, n1, k1, e1, l1, hl1, hb1, hs1, hk1⟩ := openUsB t1
    simp at e0 e1
    subst e0 e1
    refine ⟨_, _, l0.map (·.2), l1.map (·.2), rfl, ⟨⟨l0.map (·.1), isL_sp hl0, by simp, fun i h1 h2 => ?_⟩, ⟨l1.map (·.1), isL_si hl1, by simp, fun i h1 h2 => ?_⟩⟩, ?_, ?_⟩
    · simp only [List.getElem_map]
      exact (hk0 _ (List.getElem_mem _)).1
    · simp only [List.getElem_map]
      exact (hk1 _ (List.getElem_mem _)).1
    · have hL : ∀ r ∈ l0.map (·.2), r.length ≤ 1048576 ∧ ∀ z ∈ r, z.k.size ≤ 1048576 ∧ -9223372036854775808 ≤ z.n ∧ z.n ≤ 9223372036854775807 := by
        intro r hr
        obtain ⟨z, hz, rfl⟩ := List.mem_map.1 hr
        obtain ⟨_, g2, g3⟩ := hk0 z hz
        exact ⟨by omega, fun y hy => ⟨by have := (g3 y hy).1; omega, (g3 y hy).2⟩⟩
      have hU : ∀ r ∈ l1.map (·.2), r.length ≤ 1048576 ∧ ∀ z ∈ r, -9223372036854775808 ≤ z ∧ z ≤ 9223372036854775807 := by
        intro r hr
        obtain ⟨z, hz, rfl⟩ := List.mem_map.1 hr
        obtain ⟨_, g2, g3⟩ := hk1 z hz
        exact ⟨by omega, g3⟩
      refine ⟨by rw [List.length_map]; omega, fun r hr => by have := (hL r hr).1; omega, fun r hr x hx => by have := ((hL r hr).2 x hx).1; omega, fun r hr x hx => ((hL r hr).2 x hx).2, by rw [List.length_map]; omega, fun u hu => by have := (hU u hu).1; omega, by rw [List.length_map]; omega, fun r hr => by have := (hL r hr).1; omega, fun r hr x hx => by have := ((hL r hr).2 x hx).1; omega, by rw [List.length_map]; omega, fun u hu => (hU u hu).2⟩
    · rw [List.length_flatten, List.map_map]
      have e : (l0.map (List.length ∘ fun x => x.2)) = l0.map (fun y => y.2.length) := rfl
      rw [e]
      omega
end Go.Proofs.Ytmemapfboefngaa
