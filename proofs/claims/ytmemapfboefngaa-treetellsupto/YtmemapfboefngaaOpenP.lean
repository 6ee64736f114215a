/-
  A tree that is handed in, as plain data.
-/
import Derived.Test.YtmemapfboefngaaGtC
import Derived.Deep.Slices
import Derived.Deep.Strs
import Derived.Carry
import Derived.OpenShut
import Derived.ShutString
import Derived.SizedLaws
namespace Go.Proofs.Ytmemapfboefngaa
open Go.ChangeShapes Go.WideShapes Go.ChangeAt Go.RowKit
set_option linter.unusedVariables false
set_option linter.unusedSimpArgs false
set_option maxRecDepth 100000

theorem Try.cellsInt : Try.prog.cellsOf 3 = 1 := by kernel_rfl
theorem Try.cellsI64 : Try.prog.cellsOf 2 = 1 := by kernel_rfl
theorem Try.cellsStr : Try.prog.cellsOf 9 = 1 := by kernel_rfl
theorem Try.cellsPair : Try.prog.cellsOf 38 = 2 := by kernel_rfl
theorem Try.cellsPairs : Try.prog.cellsOf 28 = 1 := by kernel_rfl
theorem Try.cellsInts : Try.prog.cellsOf 53 = 1 := by kernel_rfl
theorem Try.cellsLeaves : Try.prog.cellsOf 22 = 1 := by kernel_rfl
theorem Try.cellsUps : Try.prog.cellsOf 23 = 1 := by kernel_rfl
theorem Try.cellsTree : Try.prog.cellsOf 25 = 2 := by kernel_rfl
theorem Try.bytesPair : Try.prog.bytesOf 38 = 24 := by kernel_rfl
theorem Try.bytesPairs : Try.prog.bytesOf 28 = 24 := by kernel_rfl
theorem Try.bytesInts : Try.prog.bytesOf 53 = 24 := by kernel_rfl
theorem Try.bytesInt : Try.prog.bytesOf 3 = 8 := by kernel_rfl
theorem Try.readsTree : Try.prog.readableRec 25 = true := by kernel_rfl
theorem Try.hasTree : 25 < Try.prog.types.size := of_decide_eq_true (by kernel_rfl)
theorem add_at (a : Addr) (n : Nat) (h : a.spot = none) : a.add n = ⟨a.block, a.off + n, none⟩ := by
  obtain ⟨b, o, s⟩ := a
  simp only at h
  subst h
  unfold Addr.add
  split
  · rename_i h0; subst h0; rfl
  · rfl
theorem spot_none {W : World} {a : Addr} {v : Value} (g0 : W.cell? a = some v) : a.spot = none := by
  unfold World.cell? at g0
  split at g0
  · split at g0
    · cases g0
    · rename_i hs
      cases hq : a.spot with
      | none => rfl
      | some q => rw [hq] at hs; simp at hs
  · cases g0
theorem sized_at {H : Type} {P : Program} {ts : List TypeId} {ds : List (DataW H)} (h : (DataW.weightsEach P ts ds).all (· ≤ reachBytes) = true) {j : Nat} {t : TypeId} {d : DataW H} (ht : ts[j]? = some t) (hd : ds[j]? = some d) : ∀ n ∈ d.weights P t, n ≤ 140737488351232 := by
  intro n hn
  have := List.all_eq_true.1 h _ (DataW.weights_mem_each ht hd n hn)
  have h2 : decide (n ≤ reachBytes) = true := this
  have h3 := of_decide_eq_true h2
  unfold reachBytes at h3
  omega
theorem weights_all {H : Type} {P : Program} {e : TypeId} : ∀ {ds : List (DataW H)} {d : DataW H}, d ∈ ds → ∀ n ∈ d.weights P e, n ∈ DataW.weightsAll P e ds
  | c :: ds, d, hd, n, hn => by
    rw [DataW.weightsAll, List.mem_append]
    rcases List.mem_cons.1 hd with rfl | hd
    · exact .inl hn
    · exact .inr (weights_all hd n hn)
/-- what each of a slice's weighs, the slice weighs too -/
theorem weights_elem {H : Type} {P : Program} {t e : TypeId} (hu : P.underlying t = some (.slice e)) {es sp : List (DataW H)} {d : DataW H} (hd : d ∈ es) : ∀ n ∈ d.weights P e, n ∈ (DataW.slice es sp).weights P t := by
  intro n hn
  rw [DataW.weights]
  simp only [hu]
  exact List.mem_cons_of_mem _ (List.mem_append.2 (.inl (weights_all hd n hn)))
theorem weights_len {H : Type} {P : Program} {t e : TypeId} (hu : P.underlying t = some (.slice e)) {es sp : List (DataW H)} : (es.length + sp.length) * P.bytesOf e ∈ (DataW.slice es sp).weights P t := by
  rw [DataW.weights]
  simp only [hu]
  exact List.mem_cons_self
theorem weights_part {H : Type} {P : Program} {t : TypeId} {fs : Array Field} (hu : P.underlying t = some (.struct fs)) {ps : List (DataW H)} {j : Nat} {f : Field} {d : DataW H} (hf : fs.toList[j]? = some f) (hd : ps[j]? = some d) : ∀ n ∈ d.weights P f.type, n ∈ (DataW.agg ps).weights P t := by
  intro n hn
  rw [DataW.weights]
  simp only [hu]
  exact DataW.weights_mem_each (j := j) (by rw [List.getElem?_map, hf]; rfl) hd n hn
theorem weights_str {H : Type} {P : Program} {t : TypeId} (s : ByteArray) : s.size ∈ (DataW.lit (H := H) (.string s.data.toList)).weights P t := by
  rw [DataW.weights]
  have : s.data.toList.length = s.size := by rw [Array.length_toList]; rfl
  rw [this]
  exact List.mem_cons_self
theorem trod_struct2 {H : Type} {enc : TypeId × Value → H} {P : Program} {w : World} {base : Nat} {spare : Nat → Bool} {held : Bool} {t : TypeId} {f0 f1 : Field} {fuel : Nat} {cs : List Value} {x : DataW H × List MemPlace} (ht : P.underlying t = some (.struct #[f0, f1])) (h : DataW.trod enc P w base spare held fuel t cs = some x) :
    ∃ y0 y1 n, cs.length = P.cellsOf t ∧ x.1 = .agg [y0.1, y1.1] ∧ DataW.trod enc P w base spare held n f0.type ((cs.drop f0.offset).take (P.cellsOf f0.type)) = some y0 ∧
      DataW.trod enc P w base spare held n f1.type ((cs.drop f1.offset).take (P.cellsOf f1.type)) = some y1 := by
  obtain ⟨xs, n, _, rfl, hl, hlen, hf⟩ := DataW.trod_struct ht h
  match xs, hlen with
  | [y0, y1], _ => exact ⟨y0, y1, n, hl, rfl, by simpa using hf 0 f0 rfl, by simpa using hf 1 f1 rfl⟩
def cdSP : Cd (Sq × List TK.Pr) := ⟨1, fun x => [.slice x.1.a x.1.n x.1.c], by decide, fun _ => rfl, fun x u h => by simp at h; subst h; rfl⟩
theorem flat_sp : ∀ l : List (Sq × List TK.Pr), flat cdSP l = flat cdS (l.map (·.1))
  | [] => rfl
  | x :: t => by rw [flat_cons, List.map_cons, flat_cons, flat_sp t]; rfl
theorem isL_sp {w : World} {v : Value} {l : List (Sq × List TK.Pr)} (h : IsL cdSP w v l) : IsL cdS w v (l.map (·.1)) := by
  obtain ⟨a, c, rfl, hc, hcs⟩ := h
  refine ⟨a, c, by rw [List.length_map], by rw [List.length_map]; exact hc, ?_⟩
  rcases hcs with rfl | ⟨b, o, rfl, hb, hat⟩
  · exact .inl rfl
  · exact .inr ⟨b, o, rfl, hb, fun j u hj => hat j u (by rw [flat_sp]; exact hj)⟩
def cdSI : Cd (Sq × List Int) := ⟨1, fun x => [.slice x.1.a x.1.n x.1.c], by decide, fun _ => rfl, fun x u h => by simp at h; subst h; rfl⟩
theorem flat_si : ∀ l : List (Sq × List Int), flat cdSI l = flat cdS (l.map (·.1))
  | [] => rfl
  | x :: t => by rw [flat_cons, List.map_cons, flat_cons, flat_si t]; rfl
theorem isL_si {w : World} {v : Value} {l : List (Sq × List Int)} (h : IsL cdSI w v l) : IsL cdS w v (l.map (·.1)) := by
  obtain ⟨a, c, rfl, hc, hcs⟩ := h
  refine ⟨a, c, by rw [List.length_map], by rw [List.length_map]; exact hc, ?_⟩
  rcases hcs with rfl | ⟨b, o, rfl, hb, hat⟩
  · exact .inl rfl
  · exact .inr ⟨b, o, rfl, hb, fun j u hj => hat j u (by rw [flat_si]; exact hj)⟩

theorem openPrC {H : Type} {enc : TypeId × Value → H} {W : World} {fuel : Nat} {cs : List Value} {x : DataW H × List MemPlace} (hf : DataW.trod enc Try.prog W 0 (fun _ => true) true fuel 28 cs = some x) (hw : ∀ k ∈ x.1.weights Try.prog 28, k ≤ 140737488351232) :
    ∃ a n c, cs = [.slice a n c] ∧ ∃ l : List TK.Pr, IsL cdPr W (.slice a n c) l ∧ l.length * 24 ≤ 140737488351232 ∧ (∀ y ∈ l, y.k.size ≤ 140737488351232 ∧ (-9223372036854775808 ≤ y.n ∧ y.n ≤ 9223372036854775807)) := by
  rcases Deep.open_slice Try.underlying28 hf with ⟨hcs, hx⟩ | ⟨a, len, cap, m, n, D, Pl, hcs, hb, hl, hm, hmm, hx, hel⟩
  · exact ⟨_, _, _, hcs, [], isL_nil _ _, by simp, fun y hy => by simp at hy⟩
  · simp only [if_true] at hmm
    subst hmm
    rw [Try.cellsPair] at hel
    rw [hx] at hw
    have each : ∀ i, i < len → ∃ y : TK.Pr, (∀ j u, (cdPr.c y)[j]? = some u → W.cell? ((a.add (i * 2)).add j) = some u) ∧ (y.k.size ≤ 140737488351232 ∧ (-9223372036854775808 ≤ y.n ∧ y.n ≤ 9223372036854775807)) := by
      intro i hi
      obtain ⟨cs', h1, h2⟩ := hel i (by omega)
      obtain ⟨_, hlen, hcell⟩ := World.cells?_some h1
      have hwi := fun n hn => hw n (weights_elem Try.underlying28 (List.mem_map.2 ⟨i, List.mem_range.2 hi, rfl⟩) n hn)
      obtain ⟨y0, y1, q, _, hd, t0, t1⟩ := trod_struct2 Try.underlying38 h2
      match cs', hlen with
      | [c0, c1], _ =>
        have z0 := hcell 0 (by omega)
        have z1 := hcell 1 (by omega)
        simp only [Try.cellsI64, Try.cellsStr] at t0 t1
        obtain ⟨s, e0, x0, w0⟩ := DataW.trod_string Try.underlying9 t0
        obtain ⟨nn, e1, _, w1⟩ := DataW.trod_int Try.underlying2 t1
        simp only at hd
        rw [hd] at hwi
        simp at e0 e1
        subst e0 e1
        have hsz : s.size ≤ 140737488351232 := hwi _ (by
          refine weights_part (j := 0) Try.underlying38 rfl rfl _ ?_
          rw [x0]
          exact weights_str s)
        refine ⟨⟨s, nn⟩, ?_, hsz, wf_i64 w1⟩
        intro j u hj
        simp only [cdPr] at hj
        match j, hj with
        | 0, hj => simp at hj; subst hj; exact z0
        | 1, hj => simp at hj; subst hj; exact z1
    have inh : Inhabited (TK.Pr) := ⟨⟨⟨#[]⟩, 0⟩⟩
    obtain ⟨f, hfn⟩ := Deep.choose_lt each
    have hlw := hw _ (weights_len Try.underlying28)
    rw [Try.bytesPair, List.length_map, List.length_range, Nat.add_mul] at hlw
    refine ⟨some a, len, _, hcs, (List.range len).map f, ⟨some a, _, by rw [List.length_map, List.length_range], by rw [List.length_map, List.length_range]; exact hl, ?_⟩, by rw [List.length_map, List.length_range]; omega, ?_⟩
    · by_cases h0 : len = 0
      · subst h0; exact Or.inl rfl
      · right
        have g0 := (hfn 0 (by omega)).1 0 _ (List.getElem?_eq_getElem (by rw [cdPr.len]; exact cdPr.pos))
        have hsp : a.spot = none := by
          simp only [Nat.zero_mul, Addr.add, if_true] at g0
          exact spot_none g0
        have hlt : a.block < W.heap.size := by
          have := World.block_lt_of_cell? _ _ g0
          simpa [Addr.add] using this
        refine ⟨a.block, a.off, ?_, hlt, ?_⟩
        · obtain ⟨b, o, s⟩ := a
          simp only at hsp
          rw [hsp]
        · intro j u hj
          have hjl := (List.getElem?_eq_some_iff.1 hj).1
          rw [flat_len, List.length_map, List.length_range] at hjl
          have hk : cdPr.k = 2 := rfl
          rw [hk] at hjl
          have hi : j / 2 < len := by omega
          have e : j = j / 2 * cdPr.k + j % 2 := by rw [hk]; omega
          rw [e, flat_get cdPr _ _ _ (by simpa using hi) (by rw [hk]; omega)] at hj
          simp only [List.getElem_map, List.getElem_range] at hj
          have := (hfn (j / 2) hi).1 (j % 2) u hj
          rw [add_at a _ hsp, add_at _ _ rfl] at this
          rw [show a.off + j = a.off + j / 2 * 2 + j % 2 by omega]
          exact this
    · intro y hy
      obtain ⟨i, hi, rfl⟩ := List.mem_map.1 hy
      exact (hfn i (by simpa using hi)).2

theorem openItC {H : Type} {enc : TypeId × Value → H} {W : World} {fuel : Nat} {cs : List Value} {x : DataW H × List MemPlace} (hf : DataW.trod enc Try.prog W 0 (fun _ => true) true fuel 53 cs = some x) (hw : ∀ k ∈ x.1.weights Try.prog 53, k ≤ 140737488351232) :
    ∃ a n c, cs = [.slice a n c] ∧ ∃ l : List Int, IsL cdZ W (.slice a n c) l ∧ l.length * 8 ≤ 140737488351232 ∧ (∀ y ∈ l, (-9223372036854775808 ≤ y ∧ y ≤ 9223372036854775807)) := by
  rcases Deep.open_slice Try.underlying53 hf with ⟨hcs, hx⟩ | ⟨a, len, cap, m, n, D, Pl, hcs, hb, hl, hm, hmm, hx, hel⟩
  · exact ⟨_, _, _, hcs, [], isL_nil _ _, by simp, fun y hy => by simp at hy⟩
  · simp only [if_true] at hmm
    subst hmm
    rw [Try.cellsInt] at hel
    rw [hx] at hw
    have each : ∀ i, i < len → ∃ y : Int, (∀ j u, (cdZ.c y)[j]? = some u → W.cell? ((a.add (i * 1)).add j) = some u) ∧ ((-9223372036854775808 ≤ y ∧ y ≤ 9223372036854775807)) := by
      intro i hi
      obtain ⟨cs', h1, h2⟩ := hel i (by omega)
      obtain ⟨_, hlen, hcell⟩ := World.cells?_some h1
      have hwi := fun n hn => hw n (weights_elem Try.underlying53 (List.mem_map.2 ⟨i, List.mem_range.2 hi, rfl⟩) n hn)
      match cs', hlen with
      | [c0], _ =>
        have z0 := hcell 0 (by omega)
        obtain ⟨k, e0, _, w0⟩ := DataW.trod_int Try.underlying3 h2
        simp at e0
        subst e0
        refine ⟨k, ?_, wf_i64 w0⟩
        intro j u hj
        simp only [cdZ] at hj
        match j, hj with
        | 0, hj => simp at hj; subst hj; exact z0
    have inh : Inhabited (Int) := ⟨0⟩
    obtain ⟨f, hfn⟩ := Deep.choose_lt each
    have hlw := hw _ (weights_len Try.underlying53)
    rw [Try.bytesInt, List.length_map, List.length_range, Nat.add_mul] at hlw
    refine ⟨some a, len, _, hcs, (List.range len).map f, ⟨some a, _, by rw [List.length_map, List.length_range], by rw [List.length_map, List.length_range]; exact hl, ?_⟩, by rw [List.length_map, List.length_range]; omega, ?_⟩
    · by_cases h0 : len = 0
      · subst h0; exact Or.inl rfl
      · right
        have g0 := (hfn 0 (by omega)).1 0 _ (List.getElem?_eq_getElem (by rw [cdZ.len]; exact cdZ.pos))
        have hsp : a.spot = none := by
          simp only [Nat.zero_mul, Addr.add, if_true] at g0
          exact spot_none g0
        have hlt : a.block < W.heap.size := by
          have := World.block_lt_of_cell? _ _ g0
          simpa [Addr.add] using this
        refine ⟨a.block, a.off, ?_, hlt, ?_⟩
        · obtain ⟨b, o, s⟩ := a
          simp only at hsp
          rw [hsp]
        · intro j u hj
          have hjl := (List.getElem?_eq_some_iff.1 hj).1
          rw [flat_len, List.length_map, List.length_range] at hjl
          have hk : cdZ.k = 1 := rfl
          rw [hk] at hjl
          have hi : j / 1 < len := by omega
          have e : j = j / 1 * cdZ.k + j % 1 := by rw [hk]; omega
          rw [e, flat_get cdZ _ _ _ (by simpa using hi) (by rw [hk]; omega)] at hj
          simp only [List.getElem_map, List.getElem_range] at hj
          have := (hfn (j / 1) hi).1 (j % 1) u hj
          rw [add_at a _ hsp, add_at _ _ rfl] at this
          rw [show a.off + j = a.off + j / 1 * 1 + j % 1 by omega]
          exact this
    · intro y hy
      obtain ⟨i, hi, rfl⟩ := List.mem_map.1 hy
      exact (hfn i (by simpa using hi)).2

theorem openLvC {H : Type} {enc : TypeId × Value → H} {W : World} {fuel : Nat} {cs : List Value} {x : DataW H × List MemPlace} (hf : DataW.trod enc Try.prog W 0 (fun _ => true) true fuel 22 cs = some x) (hw : ∀ k ∈ x.1.weights Try.prog 22, k ≤ 140737488351232) :
    ∃ a n c, cs = [.slice a n c] ∧ ∃ l : List (Sq × List TK.Pr), IsL cdSP W (.slice a n c) l ∧ l.length * 24 ≤ 140737488351232 ∧ (∀ y ∈ l, IsL cdPr W y.1.v y.2 ∧ y.2.length * 24 ≤ 140737488351232 ∧ ∀ z ∈ y.2, z.k.size ≤ 140737488351232 ∧ (-9223372036854775808 ≤ z.n ∧ z.n ≤ 9223372036854775807)) := by
  rcases Deep.open_slice Try.underlying22 hf with ⟨hcs, hx⟩ | ⟨a, len, cap, m, n, D, Pl, hcs, hb, hl, hm, hmm, hx, hel⟩
  · exact ⟨_, _, _, hcs, [], isL_nil _ _, by simp, fun y hy => by simp at hy⟩
  · simp only [if_true] at hmm
    subst hmm
    rw [Try.cellsPairs] at hel
    rw [hx] at hw
    have each : ∀ i, i < len → ∃ y : (Sq × List TK.Pr), (∀ j u, (cdSP.c y)[j]? = some u → W.cell? ((a.add (i * 1)).add j) = some u) ∧ (IsL cdPr W y.1.v y.2 ∧ y.2.length * 24 ≤ 140737488351232 ∧ ∀ z ∈ y.2, z.k.size ≤ 140737488351232 ∧ (-9223372036854775808 ≤ z.n ∧ z.n ≤ 9223372036854775807)) := by
      intro i hi
      obtain ⟨cs', h1, h2⟩ := hel i (by omega)
      obtain ⟨_, hlen, hcell⟩ := World.cells?_some h1
      have hwi := fun n hn => hw n (weights_elem Try.underlying22 (List.mem_map.2 ⟨i, List.mem_range.2 hi, rfl⟩) n hn)
      match cs', hlen with
      | [c0], _ =>
        have z0 := hcell 0 (by omega)
        obtain ⟨ca, cn, cc, e1, cl, hcl, hcb, hck⟩ := openPrC h2 (fun n hn => hwi n hn)
        simp at e1
        subst e1
        refine ⟨(⟨ca, cn, cc⟩, cl), ?_, hcl, hcb, hck⟩
        intro j u hj
        simp only [cdSP] at hj
        match j, hj with
        | 0, hj => simp at hj; subst hj; exact z0
    have inh : Inhabited ((Sq × List TK.Pr)) := ⟨(⟨none, 0, 0⟩, [])⟩
    obtain ⟨f, hfn⟩ := Deep.choose_lt each
    have hlw := hw _ (weights_len Try.underlying22)
    rw [Try.bytesPairs, List.length_map, List.length_range, Nat.add_mul] at hlw
    refine ⟨some a, len, _, hcs, (List.range len).map f, ⟨some a, _, by rw [List.length_map, List.length_range], by rw [List.length_map, List.length_range]; exact hl, ?_⟩, by rw [List.length_map, List.length_range]; omega, ?_⟩
    · by_cases h0 : len = 0
      · subst h0; exact Or.inl rfl
      · right
        have g0 := (hfn 0 (by omega)).1 0 _ (List.getElem?_eq_getElem (by rw [cdSP.len]; exact cdSP.pos))
        have hsp : a.spot = none := by
          simp only [Nat.zero_mul, Addr.add, if_true] at g0
          exact spot_none g0
        have hlt : a.block < W.heap.size := by
          have := World.block_lt_of_cell? _ _ g0
          simpa [Addr.add] using this
        refine ⟨a.block, a.off, ?_, hlt, ?_⟩
        · obtain ⟨b, o, s⟩ := a
          simp only at hsp
          rw [hsp]
        · intro j u hj
          have hjl := (List.getElem?_eq_some_iff.1 hj).1
          rw [flat_len, List.length_map, List.length_range] at hjl
          have hk : cdSP.k = 1 := rfl
          rw [hk] at hjl
          have hi : j / 1 < len := by omega
          have e : j = j / 1 * cdSP.k + j % 1 := by rw [hk]; omega
          rw [e, flat_get cdSP _ _ _ (by simpa using hi) (by rw [hk]; omega)] at hj
          simp only [List.getElem_map, List.getElem_range] at hj
          have := (hfn (j / 1) hi).1 (j % 1) u hj
          rw [add_at a _ hsp, add_at _ _ rfl] at this
          rw [show a.off + j = a.off + j / 1 * 1 + j % 1 by omega]
          exact this
    · intro y hy
      obtain ⟨i, hi, rfl⟩ := List.mem_map.1 hy
      exact (hfn i (by simpa using hi)).2

theorem openUsC {H : Type} {enc : TypeId × Value → H} {W : World} {fuel : Nat} {cs : List Value} {x : DataW H × List MemPlace} (hf : DataW.trod enc Try.prog W 0 (fun _ => true) true fuel 23 cs = some x) (hw : ∀ k ∈ x.1.weights Try.prog 23, k ≤ 140737488351232) :
    ∃ a n c, cs = [.slice a n c] ∧ ∃ l : List (Sq × List Int), IsL cdSI W (.slice a n c) l ∧ l.length * 24 ≤ 140737488351232 ∧ (∀ y ∈ l, IsL cdZ W y.1.v y.2 ∧ y.2.length * 8 ≤ 140737488351232 ∧ ∀ z ∈ y.2, (-9223372036854775808 ≤ z ∧ z ≤ 9223372036854775807)) := by
  rcases Deep.open_slice Try.underlying23 hf with ⟨hcs, hx⟩ | ⟨a, len, cap, m, n, D, Pl, hcs, hb, hl, hm, hmm, hx, hel⟩
  · exact ⟨_, _, _, hcs, [], isL_nil _ _, by simp, fun y hy => by simp at hy⟩
  · simp only [if_true] at hmm
    subst hmm
    rw [Try.cellsInts] at hel
    rw [hx] at hw
    have each : ∀ i, i < len → ∃ y : (Sq × List Int), (∀ j u, (cdSI.c y)[j]? = some u → W.cell? ((a.add (i * 1)).add j) = some u) ∧ (IsL cdZ W y.1.v y.2 ∧ y.2.length * 8 ≤ 140737488351232 ∧ ∀ z ∈ y.2, (-9223372036854775808 ≤ z ∧ z ≤ 9223372036854775807)) := by
      intro i hi
      obtain ⟨cs', h1, h2⟩ := hel i (by omega)
      obtain ⟨_, hlen, hcell⟩ := World.cells?_some h1
      have hwi := fun n hn => hw n (weights_elem Try.underlying23 (List.mem_map.2 ⟨i, List.mem_range.2 hi, rfl⟩) n hn)
      match cs', hlen with
      | [c0], _ =>
        have z0 := hcell 0 (by omega)
        obtain ⟨ca, cn, cc, e1, cl, hcl, hcb, hck⟩ := openItC h2 (fun n hn => hwi n hn)
        simp at e1
        subst e1
        refine ⟨(⟨ca, cn, cc⟩, cl), ?_, hcl, hcb, hck⟩
        intro j u hj
        simp only [cdSI] at hj
        match j, hj with
        | 0, hj => simp at hj; subst hj; exact z0
    have inh : Inhabited ((Sq × List Int)) := ⟨(⟨none, 0, 0⟩, [])⟩
    obtain ⟨f, hfn⟩ := Deep.choose_lt each
    have hlw := hw _ (weights_len Try.underlying23)
    rw [Try.bytesInts, List.length_map, List.length_range, Nat.add_mul] at hlw
    refine ⟨some a, len, _, hcs, (List.range len).map f, ⟨some a, _, by rw [List.length_map, List.length_range], by rw [List.length_map, List.length_range]; exact hl, ?_⟩, by rw [List.length_map, List.length_range]; omega, ?_⟩
    · by_cases h0 : len = 0
      · subst h0; exact Or.inl rfl
      · right
        have g0 := (hfn 0 (by omega)).1 0 _ (List.getElem?_eq_getElem (by rw [cdSI.len]; exact cdSI.pos))
        have hsp : a.spot = none := by
          simp only [Nat.zero_mul, Addr.add, if_true] at g0
          exact spot_none g0
        have hlt : a.block < W.heap.size := by
          have := World.block_lt_of_cell? _ _ g0
          simpa [Addr.add] using this
        refine ⟨a.block, a.off, ?_, hlt, ?_⟩
        · obtain ⟨b, o, s⟩ := a
          simp only at hsp
          rw [hsp]
        · intro j u hj
          have hjl := (List.getElem?_eq_some_iff.1 hj).1
          rw [flat_len, List.length_map, List.length_range] at hjl
          have hk : cdSI.k = 1 := rfl
          rw [hk] at hjl
          have hi : j / 1 < len := by omega
          have e : j = j / 1 * cdSI.k + j % 1 := by rw [hk]; omega
          rw [e, flat_get cdSI _ _ _ (by simpa using hi) (by rw [hk]; omega)] at hj
          simp only [List.getElem_map, List.getElem_range] at hj
          have := (hfn (j / 1) hi).1 (j % 1) u hj
          rw [add_at a _ hsp, add_at _ _ rfl] at this
          rw [show a.off + j = a.off + j / 1 * 1 + j % 1 by omega]
          exact this
    · intro y hy
      obtain ⟨i, hi, rfl⟩ := List.mem_map.1 hy
      exact (hfn i (by simpa using hi)).2

/-- the bounds of a tree that is handed in -/
structure BT (L : List (List TK.Pr)) (U : List (List Int)) : Prop where
  l : L.length ≤ 9223372036854775806
  r : ∀ r ∈ L, r.length ≤ 9223372036854775806
  s : ∀ r ∈ L, ∀ x ∈ r, x.k.size ≤ 9223372036854775806
  n : ∀ r ∈ L, ∀ x ∈ r, -9223372036854775808 ≤ x.n ∧ x.n ≤ 9223372036854775807
  u : U.length ≤ 9223372036854775806
  ur : ∀ u ∈ U, u.length ≤ 17592186044416
  lc : L.length ≤ 5864062014635
  rc : ∀ r ∈ L, r.length ≤ 5864062014635
  sc : ∀ r ∈ L, ∀ x ∈ r, x.k.size ≤ 140737488351232
  uc : U.length ≤ 5864062014635
  ui : ∀ u ∈ U, ∀ x ∈ u, -9223372036854775808 ≤ x ∧ x ≤ 9223372036854775807
theorem open_tree {H : Type} {enc : TypeId × Value → H} {W : World} {base : Nat} {r : Reach} {v : Value} {d : DataW H} {p : List MemPlace} (hval : Value.okWide Try.prog W r base 25 v)
    (h : DataW.Trod enc Try.prog W 0 (fun _ => true) true 25 v d p) (hw : ∀ k ∈ d.weights Try.prog 25, k ≤ 140737488351232) : ∃ (a b : Value) (L : List (List TK.Pr)) (U : List (List Int)), v = .agg #[a, b] ∧ IsT W a b L U ∧ BT L U := by
  obtain ⟨cs, rfl, hsz⟩ := okWide_struct Try.underlying25 hval
  obtain ⟨fuel, hf⟩ := h
  obtain ⟨y0, y1, n, hl, hx, t0, t1⟩ := trod_struct2 Try.underlying25 hf
  simp only at hx
  rw [hx] at hw
  have hh : ∀ k ∈ DataW.weightsEach Try.prog [22, 23] [y0.1, y1.1], k ≤ 140737488351232 := by
    intro k hk
    refine hw k ?_
    rw [DataW.weights, Try.underlying25]
    exact hk
  rw [Try.cellsTree] at hl
  obtain ⟨l⟩ := cs
  simp only [Value.cells] at hl t0 t1
  have hl' : l.length = 2 := hl
  match l, hl' with
  | [c0, c1], _ =>
    simp only [Try.cellsLeaves, Try.cellsUps] at t0 t1
    obtain ⟨a0, n0, k0, e0, l0, hl0, hb0, hk0⟩ := openLvC t0 fun k hk => hh k (DataW.weights_mem_each (j := 0) rfl rfl k hk)
    obtain ⟨a1, n1, k1, e1, l1, hl1, hb1, hk1⟩ := openUsC t1 fun k hk => hh k (DataW.weights_mem_each (j := 1) rfl rfl k hk)
    simp at e0 e1
    subst e0 e1
    refine ⟨_, _, l0.map (·.2), l1.map (·.2), rfl, ⟨⟨l0.map (·.1), isL_sp hl0, by simp, fun i h1 h2 => ?_⟩, ⟨l1.map (·.1), isL_si hl1, by simp, fun i h1 h2 => ?_⟩⟩, ?_⟩
    · simp only [List.getElem_map]
      exact (hk0 _ (List.getElem_mem _)).1
    · simp only [List.getElem_map]
      exact (hk1 _ (List.getElem_mem _)).1
    · have hL : ∀ r ∈ l0.map (·.2), r.length * 24 ≤ 140737488351232 ∧ ∀ z ∈ r, z.k.size ≤ 140737488351232 ∧ -9223372036854775808 ≤ z.n ∧ z.n ≤ 9223372036854775807 := by
        intro r hr
        obtain ⟨z, hz, rfl⟩ := List.mem_map.1 hr
        exact (hk0 z hz).2
      have hU : ∀ r ∈ l1.map (·.2), r.length * 8 ≤ 140737488351232 ∧ ∀ z ∈ r, -9223372036854775808 ≤ z ∧ z ≤ 9223372036854775807 := by
        intro r hr
        obtain ⟨z, hz, rfl⟩ := List.mem_map.1 hr
        exact (hk1 z hz).2
      refine ⟨by rw [List.length_map]; omega, fun r hr => by have := (hL r hr).1; omega, fun r hr x hx => by have := ((hL r hr).2 x hx).1; omega, fun r hr x hx => ((hL r hr).2 x hx).2, by rw [List.length_map]; omega, fun u hu => by have := (hU u hu).1; omega, by rw [List.length_map]; omega, fun r hr => by have := (hL r hr).1; omega, fun r hr x hx => ((hL r hr).2 x hx).1, by rw [List.length_map]; omega, fun u hu => (hU u hu).2⟩
theorem shut_tree {H : Type} {enc : TypeId × Value → H} {W W' : World} {v : Value} {d : DataW H} {p : List MemPlace} (h : DataW.Trod enc Try.prog W 0 (fun _ => true) true 25 v d p) (hb : Below W.heap.size W W') :
    DataW.Trod enc Try.prog W' 0 (fun b => decide (b < W.heap.size)) true 25 v d p := by
  refine Below.trod laidOut Try.readsTree Try.hasTree h hb ?_
  obtain ⟨fuel, hf⟩ := h
  exact DataW.trod_lt fuel _ _ _ hf
end Go.Proofs.Ytmemapfboefngaa
