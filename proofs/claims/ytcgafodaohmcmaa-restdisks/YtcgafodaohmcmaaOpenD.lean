/-
  Disks, stores, writes and ops that are handed in, as plain data.
-/
import Derived.Test.YtcgafodaohmcmaaDkP
import Derived.Deep.Slices
import Derived.Deep.Strs
import Derived.Carry
namespace Go.Proofs.Ytcgafodaohmcmaa
open Go.ChangeShapes Go.WideShapes Go.ChangeAt Go.RowKit
set_option linter.unusedVariables false
set_option linter.unusedSimpArgs false
set_option maxRecDepth 100000

theorem Try.cellsInt : Try.prog.cellsOf 3 = 1 := by kernel_rfl
theorem Try.cellsStr : Try.prog.cellsOf 9 = 1 := by kernel_rfl
theorem Try.cellsWrite : Try.prog.cellsOf 27 = 2 := by kernel_rfl
theorem Try.cellsStrs : Try.prog.cellsOf 22 = 1 := by kernel_rfl
theorem Try.cellsWrites : Try.prog.cellsOf 23 = 1 := by kernel_rfl
theorem Try.cellsDisk : Try.prog.cellsOf 25 = 2 := by kernel_rfl
theorem Try.bytesStr : Try.prog.bytesOf 9 = 16 := by kernel_rfl
theorem Try.bytesWrite : Try.prog.bytesOf 27 = 24 := by kernel_rfl

theorem add_at (a : Addr) (n : Nat) (h : a.spot = none) : a.add n = ⟨a.block, a.off + n, none⟩ := by
  obtain ⟨b, o, s⟩ := a
  simp only at h
  subst h
  unfold Addr.add
  split
  · rename_i h0; subst h0; rfl
  · rfl
theorem spot_none {W : World} {a : Addr} {v : Value} (g0 : W.cell? a = some v) : a.spot = none := by
  unfold World.cell? at g0
  split at g0
  · split at g0
    · cases g0
    · rename_i hs
      cases hq : a.spot with
      | none => rfl
      | some q => rw [hq] at hs; simp at hs
  · cases g0
theorem trod_struct2 {H : Type} {enc : TypeId × Value → H} {P : Program} {w : World} {base : Nat} {spare : Nat → Bool} {held : Bool} {t : TypeId} {f0 f1 : Field} {fuel : Nat} {cs : List Value} {x : DataW H × List MemPlace} (ht : P.underlying t = some (.struct #[f0, f1])) (h : DataW.trod enc P w base spare held fuel t cs = some x) :
    ∃ y0 y1 n, cs.length = P.cellsOf t ∧ x.1 = .agg [y0.1, y1.1] ∧ DataW.trod enc P w base spare held n f0.type ((cs.drop f0.offset).take (P.cellsOf f0.type)) = some y0 ∧
      DataW.trod enc P w base spare held n f1.type ((cs.drop f1.offset).take (P.cellsOf f1.type)) = some y1 := by
  obtain ⟨xs, n, _, rfl, hl, hlen, hf⟩ := DataW.trod_struct ht h
  match xs, hlen with
  | [y0, y1], _ => exact ⟨y0, y1, n, hl, rfl, by simpa using hf 0 f0 rfl, by simpa using hf 1 f1 rfl⟩
theorem sized_at {H : Type} {P : Program} {ts : List TypeId} {ds : List (DataW H)} (h : (DataW.weightsEach P ts ds).all (· ≤ reachBytes) = true) {j : Nat} {t : TypeId} {d : DataW H} (ht : ts[j]? = some t) (hd : ds[j]? = some d) : ∀ n ∈ d.weights P t, n ≤ 140737488351232 := by
  intro n hn
  have := List.all_eq_true.1 h _ (DataW.weights_mem_each ht hd n hn)
  have h2 : decide (n ≤ reachBytes) = true := this
  have h3 := of_decide_eq_true h2
  unfold reachBytes at h3
  omega
/-- what a list weighs -/
def Wt {H : Type} (d : DataW H) (n : Nat) : Prop := (d = .nil ∧ n = 0) ∨ ∃ es sp, d = .slice es sp ∧ es.length = n
theorem Wt.le {H : Type} {d : DataW H} {n by_ : Nat} {t e : TypeId} (h : Wt d n) (hu : Try.prog.underlying t = some (.slice e)) (hb : Try.prog.bytesOf e = by_) (hw : ∀ k ∈ d.weights Try.prog t, k ≤ 140737488351232) : n * by_ ≤ 140737488351232 := by
  rcases h with ⟨_, rfl⟩ | ⟨es, sp, rfl, rfl⟩
  · omega
  · have := hw ((es.length + sp.length) * Try.prog.bytesOf e) (by simp [DataW.weights, hu])
    rw [hb, Nat.add_mul] at this
    omega

theorem openPC {H : Type} {enc : TypeId × Value → H} {W : World} {fuel : Nat} {cs : List Value} {x : DataW H × List MemPlace} (hf : DataW.trod enc Try.prog W 0 (fun _ => true) true fuel 22 cs = some x) :
    ∃ v, cs = [v] ∧ ∃ l : List JN.B, IsL cdP W v l ∧ Wt x.1 l.length ∧ (∀ y ∈ l, True) := by
  rcases Deep.open_slice Try.underlying22 hf with ⟨hcs, hx⟩ | ⟨a, len, cap, m, n, D, Pl, hcs, hb, hl, hm, hmm, hx, hel⟩
  · exact ⟨_, hcs, [], isL_nil _ _, .inl ⟨by rw [hx], rfl⟩, fun y hy => by simp at hy⟩
  · simp only [if_true] at hmm
    subst hmm
    rw [Try.cellsStr] at hel
    have each : ∀ i, i < len → ∃ y : JN.B, (∀ j u, (cdP.c y)[j]? = some u → W.cell? ((a.add (i * 1)).add j) = some u) ∧ (True) := by
      intro i hi
      obtain ⟨cs', h1, h2⟩ := hel i (by omega)
      obtain ⟨_, hlen, hcell⟩ := World.cells?_some h1
      match cs', hlen with
      | [c0], _ =>
        have z0 := hcell 0 (by omega)
        obtain ⟨s, e0, _, w0⟩ := DataW.trod_string Try.underlying9 h2
        simp at e0
        subst e0
        refine ⟨s, ?_, trivial⟩
        intro j u hj
        simp only [cdP] at hj
        match j, hj with
        | 0, hj => simp at hj; subst hj; exact z0
    have inh : Inhabited JN.B := ⟨⟨#[]⟩⟩
    obtain ⟨f, hfn⟩ := Deep.choose_lt each
    refine ⟨_, hcs, (List.range len).map f, ⟨some a, _, by rw [List.length_map, List.length_range], by rw [List.length_map, List.length_range]; exact hl, ?_⟩, .inr ⟨_, _, by rw [hx], by simp⟩, ?_⟩
    · by_cases h0 : len = 0
      · subst h0; exact Or.inl rfl
      · right
        have g0 := (hfn 0 (by omega)).1 0 _ (List.getElem?_eq_getElem (by rw [cdP.len]; exact cdP.pos))
        have hsp : a.spot = none := by
          simp only [Nat.zero_mul, Addr.add, if_true] at g0
          exact spot_none g0
        have hlt : a.block < W.heap.size := by
          have := World.block_lt_of_cell? _ _ g0
          simpa [Addr.add] using this
        refine ⟨a.block, a.off, ?_, hlt, ?_⟩
        · obtain ⟨b, o, s⟩ := a
          simp only at hsp
          rw [hsp]
        · intro j u hj
          have hjl := (List.getElem?_eq_some_iff.1 hj).1
          rw [flat_len, List.length_map, List.length_range] at hjl
          have hk : cdP.k = 1 := rfl
          rw [hk] at hjl
          have hi : j / 1 < len := by omega
          have e : j = j / 1 * cdP.k + j % 1 := by rw [hk]; omega
          rw [e, flat_get cdP _ _ _ (by simpa using hi) (by rw [hk]; omega)] at hj
          simp only [List.getElem_map, List.getElem_range] at hj
          have := (hfn (j / 1) hi).1 (j % 1) u hj
          rw [add_at a _ hsp, add_at _ _ rfl] at this
          rw [show a.off + j = a.off + j / 1 * 1 + j % 1 by omega]
          exact this
    · intro y hy
      obtain ⟨i, hi, rfl⟩ := List.mem_map.1 hy
      exact (hfn i (by simpa using hi)).2

theorem openWC {H : Type} {enc : TypeId × Value → H} {W : World} {fuel : Nat} {cs : List Value} {x : DataW H × List MemPlace} (hf : DataW.trod enc Try.prog W 0 (fun _ => true) true fuel 23 cs = some x) :
    ∃ v, cs = [v] ∧ ∃ l : List JN.W, IsL cdW W v l ∧ Wt x.1 l.length ∧ (∀ y ∈ l, -9223372036854775808 ≤ y.no ∧ y.no ≤ 9223372036854775807) := by
  rcases Deep.open_slice Try.underlying23 hf with ⟨hcs, hx⟩ | ⟨a, len, cap, m, n, D, Pl, hcs, hb, hl, hm, hmm, hx, hel⟩
  · exact ⟨_, hcs, [], isL_nil _ _, .inl ⟨by rw [hx], rfl⟩, fun y hy => by simp at hy⟩
  · simp only [if_true] at hmm
    subst hmm
    rw [Try.cellsWrite] at hel
    have each : ∀ i, i < len → ∃ y : JN.W, (∀ j u, (cdW.c y)[j]? = some u → W.cell? ((a.add (i * 2)).add j) = some u) ∧ (-9223372036854775808 ≤ y.no ∧ y.no ≤ 9223372036854775807) := by
      intro i hi
      obtain ⟨cs', h1, h2⟩ := hel i (by omega)
      obtain ⟨_, hlen, hcell⟩ := World.cells?_some h1
      obtain ⟨y0, y1, q, _, _, t0, t1⟩ := trod_struct2 Try.underlying27 h2
      match cs', hlen with
      | [c0, c1], _ =>
        have z0 := hcell 0 (by omega)
        have z1 := hcell 1 (by omega)
        simp only [Try.cellsInt, Try.cellsStr] at t0 t1
        obtain ⟨k, e0, _, w0⟩ := DataW.trod_int Try.underlying3 t0
        obtain ⟨s, e1, _, w1⟩ := DataW.trod_string Try.underlying9 t1
        simp at e0 e1
        subst e0 e1
        refine ⟨⟨k, s⟩, ?_, wf_i64 w0⟩
        intro j u hj
        simp only [cdW] at hj
        match j, hj with
        | 0, hj => simp at hj; subst hj; exact z0
        | 1, hj => simp at hj; subst hj; exact z1
    have inh : Inhabited JN.W := ⟨⟨0, ⟨#[]⟩⟩⟩
    obtain ⟨f, hfn⟩ := Deep.choose_lt each
    refine ⟨_, hcs, (List.range len).map f, ⟨some a, _, by rw [List.length_map, List.length_range], by rw [List.length_map, List.length_range]; exact hl, ?_⟩, .inr ⟨_, _, by rw [hx], by simp⟩, ?_⟩
    · by_cases h0 : len = 0
      · subst h0; exact Or.inl rfl
      · right
        have g0 := (hfn 0 (by omega)).1 0 _ (List.getElem?_eq_getElem (by rw [cdW.len]; exact cdW.pos))
        have hsp : a.spot = none := by
          simp only [Nat.zero_mul, Addr.add, if_true] at g0
          exact spot_none g0
        have hlt : a.block < W.heap.size := by
          have := World.block_lt_of_cell? _ _ g0
          simpa [Addr.add] using this
        refine ⟨a.block, a.off, ?_, hlt, ?_⟩
        · obtain ⟨b, o, s⟩ := a
          simp only at hsp
          rw [hsp]
        · intro j u hj
          have hjl := (List.getElem?_eq_some_iff.1 hj).1
          rw [flat_len, List.length_map, List.length_range] at hjl
          have hk : cdW.k = 2 := rfl
          rw [hk] at hjl
          have hi : j / 2 < len := by omega
          have e : j = j / 2 * cdW.k + j % 2 := by rw [hk]; omega
          rw [e, flat_get cdW _ _ _ (by simpa using hi) (by rw [hk]; omega)] at hj
          simp only [List.getElem_map, List.getElem_range] at hj
          have := (hfn (j / 2) hi).1 (j % 2) u hj
          rw [add_at a _ hsp, add_at _ _ rfl] at this
          rw [show a.off + j = a.off + j / 2 * 2 + j % 2 by omega]
          exact this
    · intro y hy
      obtain ⟨i, hi, rfl⟩ := List.mem_map.1 hy
      exact (hfn i (by simpa using hi)).2

structure BD (d : JN.D) : Prop where
  pg : d.pg.length * 16 ≤ 140737488351232
  wt : d.wt.length * 24 ≤ 140737488351232
theorem BD.pl {d : JN.D} (h : BD d) : d.pg.length ≤ 9223372036854775806 := by have := h.pg; omega
theorem BD.wl {d : JN.D} (h : BD d) : d.wt.length ≤ 9223372036854775806 := by have := h.wt; omega
theorem openDC {H : Type} {enc : TypeId × Value → H} {W : World} {fuel : Nat} {cs : List Value} {x : DataW H × List MemPlace} (hf : DataW.trod enc Try.prog W 0 (fun _ => true) true fuel 25 cs = some x) (hw : ∀ k ∈ x.1.weights Try.prog 25, k ≤ 140737488351232) :
    ∃ p q, cs = [p, q] ∧ ∃ d : JN.D, IsD W p q d ∧ BD d := by
  obtain ⟨y0, y1, n, hl, hx, t0, t1⟩ := trod_struct2 Try.underlying25 hf
  rw [Try.cellsDisk] at hl
  match cs, hl with
  | [c0, c1], _ =>
    simp only [Try.cellsStrs, Try.cellsWrites] at t0 t1
    obtain ⟨v0, e0, l0, i0, w0, _⟩ := openPC t0
    obtain ⟨v1, e1, l1, i1, w1, _⟩ := openWC t1
    simp at e0 e1
    subst e0 e1
    rw [hx] at hw
    have hh : ∀ k ∈ DataW.weightsEach Try.prog [22, 23] [y0.1, y1.1], k ≤ 140737488351232 := by
      intro k hk
      refine hw k ?_
      rw [DataW.weights, Try.underlying25]
      exact hk
    refine ⟨_, _, rfl, ⟨l0, l1⟩, ⟨i0, i1⟩, ?_, ?_⟩
    · exact w0.le Try.underlying22 Try.bytesStr fun k hk => hh k (DataW.weights_mem_each (j := 0) rfl rfl k hk)
    · exact w1.le Try.underlying23 Try.bytesWrite fun k hk => hh k (DataW.weights_mem_each (j := 1) rfl rfl k hk)
theorem open_disk {H : Type} {enc : TypeId × Value → H} {W : World} {base : Nat} {r : Reach} {v : Value} {d : DataW H} {p : List MemPlace} (hval : Value.okWide Try.prog W r base 25 v)
    (h : DataW.Trod enc Try.prog W 0 (fun _ => true) true 25 v d p) (hw : ∀ k ∈ d.weights Try.prog 25, k ≤ 140737488351232) : ∃ (a b : Value) (x : JN.D), v = .agg #[a, b] ∧ IsD W a b x ∧ BD x := by
  obtain ⟨cs, rfl, hsz⟩ := okWide_struct Try.underlying25 hval
  obtain ⟨fuel, hf⟩ := h
  obtain ⟨p0, q0, e, x, hx, hb⟩ := openDC hf hw
  obtain ⟨l⟩ := cs
  simp only [Value.cells] at e
  have e' : l = [p0, q0] := e
  subst e'
  exact ⟨_, _, x, rfl, hx, hb⟩
theorem open_writes {H : Type} {enc : TypeId × Value → H} {W : World} {base : Nat} {r : Reach} {v : Value} {d : DataW H} {p : List MemPlace} (hval : Value.okWide Try.prog W r base 23 v)
    (h : DataW.Trod enc Try.prog W 0 (fun _ => true) true 23 v d p) (hw : ∀ k ∈ d.weights Try.prog 23, k ≤ 140737488351232) : ∃ l : List JN.W, IsL cdW W v l ∧ (∀ y ∈ l, -9223372036854775808 ≤ y.no ∧ y.no ≤ 9223372036854775807) ∧ l.length * 24 ≤ 140737488351232 := by
  obtain ⟨a0, len0, cap0, rfl⟩ := okWide_slice Try.underlying23 hval
  obtain ⟨fuel, hf⟩ := h
  obtain ⟨v0, e0, l, hi, hwt, ho⟩ := openWC hf
  simp only [Value.cells] at e0
  simp at e0
  subst e0
  exact ⟨l, hi, ho, hwt.le Try.underlying23 Try.bytesWrite hw⟩
theorem Try.reads_disk : Try.prog.readableRec 25 = true := by kernel_rfl
theorem Try.has_disk : 25 < Try.prog.types.size := of_decide_eq_true (by kernel_rfl)
theorem shut_disk {H : Type} {enc : TypeId × Value → H} {W W' : World} {v : Value} {d : DataW H} {p : List MemPlace} (h : DataW.Trod enc Try.prog W 0 (fun _ => true) true 25 v d p) (hb : Below W.heap.size W W') :
    DataW.Trod enc Try.prog W' 0 (fun b => decide (b < W.heap.size)) true 25 v d p := by
  refine Below.trod laidOut Try.reads_disk Try.has_disk h hb ?_
  obtain ⟨fuel, hf⟩ := h
  exact DataW.trod_lt fuel _ _ _ hf
theorem Try.reads_writes : Try.prog.readableRec 23 = true := by kernel_rfl
theorem Try.has_writes : 23 < Try.prog.types.size := of_decide_eq_true (by kernel_rfl)
theorem shut_writes {H : Type} {enc : TypeId × Value → H} {W W' : World} {v : Value} {d : DataW H} {p : List MemPlace} (h : DataW.Trod enc Try.prog W 0 (fun _ => true) true 23 v d p) (hb : Below W.heap.size W W') :
    DataW.Trod enc Try.prog W' 0 (fun b => decide (b < W.heap.size)) true 23 v d p := by
  refine Below.trod laidOut Try.reads_writes Try.has_writes h hb ?_
  obtain ⟨fuel, hf⟩ := h
  exact DataW.trod_lt fuel _ _ _ hf
end Go.Proofs.Ytcgafodaohmcmaa
