/-
  What belongs together: OpenN, OpenR, BlA, BlB, BmX, Tabs.
-/
import Derived.Test.YtbcfdhimngoplaaGreatDoorGqC
import Derived.Deep.Slices
import Derived.Deep.Strs
import Derived.Carry
import Derived.OpenShut
import Derived.ShutString
import Derived.SizedLaws
import Derived.Test.YtbcfdhimngoplaaGreatDoorGqE
import Derived.Test.YtbcfdhimngoplaaGreatDoorGqJ
import Derived.Test.YtbcfdhimngoplaaGreatDoorGqB
import Derived.Test.YtbcfdhimngoplaaGreatDoorGqF
import Derived.Test.YtbcfdhimngoplaaGreatDoorBmW
import Derived.Test.YtbcfdhimngoplaaGreatDoorTie
import Derived.Test.YtbcfdhimngoplaaGreatDoorCards
import Derived.ChangeMaps5
import Derived.PinnedBridge
import Derived.Lay
import Derived.Lib.LaidU8
import Derived.Lib.LaidTab
import Derived.SevenTiedAt
import Derived.Stop.Joined
namespace Go.Proofs.YtbcfdhimngoplaaGreatDoor
open Go.ChangeShapes Go.WideShapes Go.ChangeAt Go.RowKit
set_option linter.unusedVariables false
set_option linter.unusedSimpArgs false
set_option maxRecDepth 100000
theorem Tryz.cellsInt : Tryz.prog.cellsOf 3 = 1 := by kernel_rfl
theorem Tryz.cellsI64 : Tryz.prog.cellsOf 2 = 1 := by kernel_rfl
theorem Tryz.cellsStr : Tryz.prog.cellsOf 9 = 1 := by kernel_rfl
theorem Tryz.cellsVal : Tryz.prog.cellsOf 56 = 3 := by kernel_rfl
theorem Tryz.bytesVal : Tryz.prog.bytesOf 56 = 32 := by kernel_rfl
theorem sized_at {H : Type} {P : Program} {ts : List TypeId} {ds : List (DataW H)} (h : (DataW.weightsEach P ts ds).all (· ≤ reachBytes) = true) {j : Nat} {t : TypeId} {d : DataW H} (ht : ts[j]? = some t) (hd : ds[j]? = some d) : ∀ n ∈ d.weights P t, n ≤ 140737488351232 := by
 intro n hn
 have := List.all_eq_true.1 h _ (DataW.weights_mem_each ht hd n hn)
 have h2 : decide (n ≤ reachBytes) = true := this
 have h3 := of_decide_eq_true h2
 unfold reachBytes at h3
 omega
theorem weights_all {H : Type} {P : Program} {e : TypeId} : ∀ {ds : List (DataW H)} {d : DataW H}, d ∈ ds → ∀ n ∈ d.weights P e, n ∈ DataW.weightsAll P e ds
 | c :: ds, d, hd, n, hn => by
  rw [DataW.weightsAll, List.mem_append]
  rcases List.mem_cons.1 hd with rfl | hd
  · exact .inl hn
  · exact .inr (weights_all hd n hn)
theorem weights_elem {H : Type} {P : Program} {t e : TypeId} (hu : P.underlying t = some (.slice e)) {es sp : List (DataW H)} {d : DataW H} (hd : d ∈ es) : ∀ n ∈ d.weights P e, n ∈ (DataW.slice es sp).weights P t := by
 intro n hn
 rw [DataW.weights]
 simp only [hu]
 exact List.mem_cons_of_mem _ (List.mem_append.2 (.inl (weights_all hd n hn)))
theorem weights_len {H : Type} {P : Program} {t e : TypeId} (hu : P.underlying t = some (.slice e)) {es sp : List (DataW H)} : (es.length + sp.length) * P.bytesOf e ∈ (DataW.slice es sp).weights P t := by
 rw [DataW.weights]
 simp only [hu]
 exact List.mem_cons_self
theorem weights_part {H : Type} {P : Program} {t : TypeId} {fs : Array Field} (hu : P.underlying t = some (.struct fs)) {ps : List (DataW H)} {j : Nat} {f : Field} {d : DataW H} (hf : fs.toList[j]? = some f) (hd : ps[j]? = some d) : ∀ n ∈ d.weights P f.type, n ∈ (DataW.agg ps).weights P t := by
 intro n hn
 rw [DataW.weights]
 simp only [hu]
 exact DataW.weights_mem_each (j := j) (by rw [List.getElem?_map, hf]; rfl) hd n hn
theorem weights_str {H : Type} {P : Program} {t : TypeId} (s : ByteArray) : s.size ∈ (DataW.lit (H := H) (.string s.data.toList)).weights P t := by
 rw [DataW.weights]
 have : s.data.toList.length = s.size := by rw [Array.length_toList]; rfl
 rw [this]
 exact List.mem_cons_self
theorem openValC {H : Type} {enc : TypeId × Value → H} {W : World} {fuel : Nat} {cs : List Value} {x : DataW H × List MemPlace} (hf : DataW.trod enc Tryz.prog W 0 (fun _ => true) true fuel 31 cs = some x) (hw : ∀ k ∈ x.1.weights Tryz.prog 31, k ≤ 140737488351232) :
  ∃ a n c, cs = [.slice a n c] ∧ ∃ l : List VM.Vl, IsL cdV W (.slice a n c) l ∧ l.length * 32 ≤ 140737488351232 ∧ (∀ y ∈ l, EV.gd y ∧ y.s.size ≤ 140737488351232) := by
 rcases Deep.open_slice Tryz.underlying31 hf with ⟨hcs, hx⟩ | ⟨a, len, cap, m, n, D, Pl, hcs, hb, hl, hm, hmm, hx, hel⟩
 · exact ⟨_, _, _, hcs, [], isL_nil _ _, by simp, fun y hy => by simp at hy⟩
 ·
  simp only [if_true] at hmm
  subst hmm
  rw [Tryz.cellsVal] at hel
  rw [hx] at hw
  have each : ∀ i, i < len → ∃ y : VM.Vl, (∀ j u, (cdV.c y)[j]? = some u → W.cell? ((a.add (i * 3)).add j) = some u) ∧ (EV.gd y ∧ y.s.size ≤ 140737488351232) := by
   intro i hi
   obtain ⟨cs', h1, h2⟩ := hel i (by omega)
   obtain ⟨_, hlen, hcell⟩ := World.cells?_some h1
   have hwi := fun n hn => hw n (weights_elem Tryz.underlying31 (List.mem_map.2 ⟨i, List.mem_range.2 hi, rfl⟩) n hn)
   obtain ⟨y0, y1, y2, q, hd, _, t0, t1, t2⟩ := Deep.trod_struct3 Tryz.underlying56 h2
   match cs', hlen with
   | [c0, c1, c2], _ =>
    have z0 := hcell 0 (by omega)
    have z1 := hcell 1 (by omega)
    have z2 := hcell 2 (by omega)
    simp only [Tryz.cellsInt, Tryz.cellsI64, Tryz.cellsStr] at t0 t1 t2
    obtain ⟨k, e0, _, w0⟩ := DataW.trod_int Tryz.underlying3 t0
    obtain ⟨nn, e1, _, w1⟩ := DataW.trod_int Tryz.underlying2 t1
    obtain ⟨s, e2, x2, w2⟩ := DataW.trod_string Tryz.underlying9 t2
    have hd1 : D i = .agg [y0.1, y1.1, y2.1] := congrArg Prod.fst hd
    rw [hd1] at hwi
    simp at e0 e1 e2
    subst e0 e1 e2
    have hsz : s.size ≤ 140737488351232 := hwi _ (by
     refine weights_part (j := 2) Tryz.underlying56 rfl rfl _ ?_
     rw [x2]
     exact weights_str s)
    refine ⟨⟨k, nn, s⟩, ?_, ⟨wf_i64 w1, by show s.size ≤ _; omega⟩, by show s.size ≤ _; omega⟩
    intro j u hj
    simp only [cdV] at hj
    match j, hj with
    | 0, hj => simp at hj; subst hj; exact z0
    | 1, hj => simp at hj; subst hj; exact z1
    | 2, hj => simp at hj; subst hj; exact z2
  have inh : Inhabited (VM.Vl) := ⟨⟨0, 0, ⟨#[]⟩⟩⟩
  obtain ⟨f, hfn⟩ := Deep.choose_lt each
  have hlw := hw _ (weights_len Tryz.underlying31)
  rw [Tryz.bytesVal, List.length_map, List.length_range, Nat.add_mul] at hlw
  refine ⟨some a, len, _, hcs, (List.range len).map f, ⟨some a, _, by rw [List.length_map, List.length_range], by rw [List.length_map, List.length_range]; exact hl, ?_⟩, by rw [List.length_map, List.length_range]; omega, ?_⟩
  ·
   by_cases h0 : len = 0
   · subst h0; exact Or.inl rfl
   ·
    right
    have g0 := (hfn 0 (by omega)).1 0 _ (List.getElem?_eq_getElem (by rw [cdV.len]; exact cdV.pos))
    have hsp : a.spot = none := by
     simp only [Nat.zero_mul, Addr.add, if_true] at g0
     exact spot_none g0
    have hlt : a.block < W.heap.size := by
     have := World.block_lt_of_cell? _ _ g0
     simpa [Addr.add] using this
    refine ⟨a.block, a.off, ?_, hlt, ?_⟩
    ·
     obtain ⟨b, o, s⟩ := a
     simp only at hsp
     rw [hsp]
    ·
     intro j u hj
     have hjl := (List.getElem?_eq_some_iff.1 hj).1
     rw [flat_len, List.length_map, List.length_range] at hjl
     have hk : cdV.k = 3 := rfl
     rw [hk] at hjl
     have hi : j / 3 < len := by omega
     have e : j = j / 3 * cdV.k + j % 3 := by rw [hk]; omega
     rw [e, flat_get cdV _ _ _ (by simpa using hi) (by rw [hk]; omega)] at hj
     simp only [List.getElem_map, List.getElem_range] at hj
     have := (hfn (j / 3) hi).1 (j % 3) u hj
     rw [add_at a _ hsp, add_at _ _ rfl] at this
     rw [show a.off + j = a.off + j / 3 * 3 + j % 3 by omega]
     exact this
  ·
   intro y hy
   obtain ⟨i, hi, rfl⟩ := List.mem_map.1 hy
   exact (hfn i (by simpa using hi)).2
end Go.Proofs.YtbcfdhimngoplaaGreatDoor
namespace Go.Proofs.YtbcfdhimngoplaaGreatDoor
open Go.ChangeShapes Go.WideShapes Go.ChangeAt Go.RowKit
set_option linter.unusedVariables false
set_option linter.unusedSimpArgs false
set_option maxRecDepth 100000
theorem Tryz.cellsVals : Tryz.prog.cellsOf 31 = 1 := by kernel_rfl
theorem Tryz.cellsAgg : Tryz.prog.cellsOf 66 = 2 := by kernel_rfl
theorem Tryz.bytesVals : Tryz.prog.bytesOf 31 = 24 := by kernel_rfl
theorem Tryz.bytesAgg : Tryz.prog.bytesOf 66 = 16 := by kernel_rfl
theorem Tryz.bytesInt : Tryz.prog.bytesOf 3 = 8 := by kernel_rfl
theorem Tryz.readsRows : Tryz.prog.readableRec 22 = true := by kernel_rfl
theorem Tryz.hasRows : 22 < Tryz.prog.types.size := of_decide_eq_true (by kernel_rfl)
theorem Tryz.readsAggs : Tryz.prog.readableRec 41 = true := by kernel_rfl
theorem Tryz.hasAggs : 41 < Tryz.prog.types.size := of_decide_eq_true (by kernel_rfl)
theorem Tryz.readsInts : Tryz.prog.readableRec 40 = true := by kernel_rfl
theorem Tryz.hasInts : 40 < Tryz.prog.types.size := of_decide_eq_true (by kernel_rfl)
theorem trod_struct2 {H : Type} {enc : TypeId × Value → H} {P : Program} {w : World} {base : Nat} {spare : Nat → Bool} {held : Bool} {t : TypeId} {f0 f1 : Field} {fuel : Nat} {cs : List Value} {x : DataW H × List MemPlace} (ht : P.underlying t = some (.struct #[f0, f1])) (h : DataW.trod enc P w base spare held fuel t cs = some x) :
  ∃ y0 y1 n, cs.length = P.cellsOf t ∧ x.1 = .agg [y0.1, y1.1] ∧ DataW.trod enc P w base spare held n f0.type ((cs.drop f0.offset).take (P.cellsOf f0.type)) = some y0 ∧
   DataW.trod enc P w base spare held n f1.type ((cs.drop f1.offset).take (P.cellsOf f1.type)) = some y1 := by
 obtain ⟨xs, n, _, rfl, hl, hlen, hf⟩ := DataW.trod_struct ht h
 match xs, hlen with
 | [y0, y1], _ => exact ⟨y0, y1, n, hl, rfl, by simpa using hf 0 f0 rfl, by simpa using hf 1 f1 rfl⟩
def cdSV : Cd (Sq × List VM.Vl) := ⟨1, fun x => [.slice x.1.a x.1.n x.1.c], by decide, fun _ => rfl, fun x u h => by simp at h; subst h; rfl⟩
theorem flat_sv : ∀ l : List (Sq × List VM.Vl), flat cdSV l = flat cdS (l.map (·.1))
 | [] => rfl
 | x :: t => by rw [flat_cons, List.map_cons, flat_cons, flat_sv t]; rfl
theorem isL_sv {w : World} {v : Value} {l : List (Sq × List VM.Vl)} (h : IsL cdSV w v l) : IsL cdS w v (l.map (·.1)) := by
 obtain ⟨a, c, rfl, hc, hcs⟩ := h
 refine ⟨a, c, by rw [List.length_map], by rw [List.length_map]; exact hc, ?_⟩
 rcases hcs with rfl | ⟨b, o, rfl, hb, hat⟩
 · exact .inl rfl
 · exact .inr ⟨b, o, rfl, hb, fun j u hj => hat j u (by rw [flat_sv]; exact hj)⟩
theorem openRwC {H : Type} {enc : TypeId × Value → H} {W : World} {fuel : Nat} {cs : List Value} {x : DataW H × List MemPlace} (hf : DataW.trod enc Tryz.prog W 0 (fun _ => true) true fuel 22 cs = some x) (hw : ∀ k ∈ x.1.weights Tryz.prog 22, k ≤ 140737488351232) :
  ∃ a n c, cs = [.slice a n c] ∧ ∃ l : List (Sq × List VM.Vl), IsL cdSV W (.slice a n c) l ∧ l.length * 24 ≤ 140737488351232 ∧ (∀ y ∈ l, IsL cdV W y.1.v y.2 ∧ y.2.length * 32 ≤ 140737488351232 ∧ ∀ z ∈ y.2, EV.gd z ∧ z.s.size ≤ 140737488351232) := by
 rcases Deep.open_slice Tryz.underlying22 hf with ⟨hcs, hx⟩ | ⟨a, len, cap, m, n, D, Pl, hcs, hb, hl, hm, hmm, hx, hel⟩
 · exact ⟨_, _, _, hcs, [], isL_nil _ _, by simp, fun y hy => by simp at hy⟩
 ·
  simp only [if_true] at hmm
  subst hmm
  rw [Tryz.cellsVals] at hel
  rw [hx] at hw
  have each : ∀ i, i < len → ∃ y : (Sq × List VM.Vl), (∀ j u, (cdSV.c y)[j]? = some u → W.cell? ((a.add (i * 1)).add j) = some u) ∧ (IsL cdV W y.1.v y.2 ∧ y.2.length * 32 ≤ 140737488351232 ∧ ∀ z ∈ y.2, EV.gd z ∧ z.s.size ≤ 140737488351232) := by
   intro i hi
   obtain ⟨cs', h1, h2⟩ := hel i (by omega)
   obtain ⟨_, hlen, hcell⟩ := World.cells?_some h1
   have hwi := fun n hn => hw n (weights_elem Tryz.underlying22 (List.mem_map.2 ⟨i, List.mem_range.2 hi, rfl⟩) n hn)
   match cs', hlen with
   | [c0], _ =>
    have z0 := hcell 0 (by omega)
    obtain ⟨ca, cn, cc, e1, cl, hcl, hcb, hck⟩ := openValC h2 (fun n hn => hwi n hn)
    simp at e1
    subst e1
    refine ⟨(⟨ca, cn, cc⟩, cl), ?_, hcl, hcb, hck⟩
    intro j u hj
    simp only [cdSV] at hj
    match j, hj with
    | 0, hj => simp at hj; subst hj; exact z0
  have inh : Inhabited ((Sq × List VM.Vl)) := ⟨(⟨none, 0, 0⟩, [])⟩
  obtain ⟨f, hfn⟩ := Deep.choose_lt each
  have hlw := hw _ (weights_len Tryz.underlying22)
  rw [Tryz.bytesVals, List.length_map, List.length_range, Nat.add_mul] at hlw
  refine ⟨some a, len, _, hcs, (List.range len).map f, ⟨some a, _, by rw [List.length_map, List.length_range], by rw [List.length_map, List.length_range]; exact hl, ?_⟩, by rw [List.length_map, List.length_range]; omega, ?_⟩
  ·
   by_cases h0 : len = 0
   · subst h0; exact Or.inl rfl
   ·
    right
    have g0 := (hfn 0 (by omega)).1 0 _ (List.getElem?_eq_getElem (by rw [cdSV.len]; exact cdSV.pos))
    have hsp : a.spot = none := by
     simp only [Nat.zero_mul, Addr.add, if_true] at g0
     exact spot_none g0
    have hlt : a.block < W.heap.size := by
     have := World.block_lt_of_cell? _ _ g0
     simpa [Addr.add] using this
    refine ⟨a.block, a.off, ?_, hlt, ?_⟩
    ·
     obtain ⟨b, o, s⟩ := a
     simp only at hsp
     rw [hsp]
    ·
     intro j u hj
     have hjl := (List.getElem?_eq_some_iff.1 hj).1
     rw [flat_len, List.length_map, List.length_range] at hjl
     have hk : cdSV.k = 1 := rfl
     rw [hk] at hjl
     have hi : j / 1 < len := by omega
     have e : j = j / 1 * cdSV.k + j % 1 := by rw [hk]; omega
     rw [e, flat_get cdSV _ _ _ (by simpa using hi) (by rw [hk]; omega)] at hj
     simp only [List.getElem_map, List.getElem_range] at hj
     have := (hfn (j / 1) hi).1 (j % 1) u hj
     rw [add_at a _ hsp, add_at _ _ rfl] at this
     rw [show a.off + j = a.off + j / 1 * 1 + j % 1 by omega]
     exact this
  ·
   intro y hy
   obtain ⟨i, hi, rfl⟩ := List.mem_map.1 hy
   exact (hfn i (by simpa using hi)).2
theorem openAgC {H : Type} {enc : TypeId × Value → H} {W : World} {fuel : Nat} {cs : List Value} {x : DataW H × List MemPlace} (hf : DataW.trod enc Tryz.prog W 0 (fun _ => true) true fuel 41 cs = some x) (hw : ∀ k ∈ x.1.weights Tryz.prog 41, k ≤ 140737488351232) :
  ∃ a n c, cs = [.slice a n c] ∧ ∃ l : List BG.Ag, IsL cdG W (.slice a n c) l ∧ l.length * 16 ≤ 140737488351232 ∧ (∀ y ∈ l, (-9223372036854775808 ≤ y.kind ∧ y.kind ≤ 9223372036854775807) ∧ (-9223372036854775808 ≤ y.col ∧ y.col ≤ 9223372036854775807)) := by
 rcases Deep.open_slice Tryz.underlying41 hf with ⟨hcs, hx⟩ | ⟨a, len, cap, m, n, D, Pl, hcs, hb, hl, hm, hmm, hx, hel⟩
 · exact ⟨_, _, _, hcs, [], isL_nil _ _, by simp, fun y hy => by simp at hy⟩
 ·
  simp only [if_true] at hmm
  subst hmm
  rw [Tryz.cellsAgg] at hel
  rw [hx] at hw
  have each : ∀ i, i < len → ∃ y : BG.Ag, (∀ j u, (cdG.c y)[j]? = some u → W.cell? ((a.add (i * 2)).add j) = some u) ∧ ((-9223372036854775808 ≤ y.kind ∧ y.kind ≤ 9223372036854775807) ∧ (-9223372036854775808 ≤ y.col ∧ y.col ≤ 9223372036854775807)) := by
   intro i hi
   obtain ⟨cs', h1, h2⟩ := hel i (by omega)
   obtain ⟨_, hlen, hcell⟩ := World.cells?_some h1
   have hwi := fun n hn => hw n (weights_elem Tryz.underlying41 (List.mem_map.2 ⟨i, List.mem_range.2 hi, rfl⟩) n hn)
   obtain ⟨y0, y1, q, _, hd, t0, t1⟩ := trod_struct2 Tryz.underlying66 h2
   match cs', hlen with
   | [c0, c1], _ =>
    have z0 := hcell 0 (by omega)
    have z1 := hcell 1 (by omega)
    simp only [Tryz.cellsInt] at t0 t1
    obtain ⟨k, e0, _, w0⟩ := DataW.trod_int Tryz.underlying3 t0
    obtain ⟨p, e1, _, w1⟩ := DataW.trod_int Tryz.underlying3 t1
    simp at e0 e1
    subst e0 e1
    refine ⟨⟨k, p⟩, ?_, wf_i64 w0, wf_i64 w1⟩
    intro j u hj
    simp only [cdG] at hj
    match j, hj with
    | 0, hj => simp at hj; subst hj; exact z0
    | 1, hj => simp at hj; subst hj; exact z1
  have inh : Inhabited (BG.Ag) := ⟨⟨0, 0⟩⟩
  obtain ⟨f, hfn⟩ := Deep.choose_lt each
  have hlw := hw _ (weights_len Tryz.underlying41)
  rw [Tryz.bytesAgg, List.length_map, List.length_range, Nat.add_mul] at hlw
  refine ⟨some a, len, _, hcs, (List.range len).map f, ⟨some a, _, by rw [List.length_map, List.length_range], by rw [List.length_map, List.length_range]; exact hl, ?_⟩, by rw [List.length_map, List.length_range]; omega, ?_⟩
  ·
   by_cases h0 : len = 0
   · subst h0; exact Or.inl rfl
   ·
    right
    have g0 := (hfn 0 (by omega)).1 0 _ (List.getElem?_eq_getElem (by rw [cdG.len]; exact cdG.pos))
    have hsp : a.spot = none := by
     simp only [Nat.zero_mul, Addr.add, if_true] at g0
     exact spot_none g0
    have hlt : a.block < W.heap.size := by
     have := World.block_lt_of_cell? _ _ g0
     simpa [Addr.add] using this
    refine ⟨a.block, a.off, ?_, hlt, ?_⟩
    ·
     obtain ⟨b, o, s⟩ := a
     simp only at hsp
     rw [hsp]
    ·
     intro j u hj
     have hjl := (List.getElem?_eq_some_iff.1 hj).1
     rw [flat_len, List.length_map, List.length_range] at hjl
     have hk : cdG.k = 2 := rfl
     rw [hk] at hjl
     have hi : j / 2 < len := by omega
     have e : j = j / 2 * cdG.k + j % 2 := by rw [hk]; omega
     rw [e, flat_get cdG _ _ _ (by simpa using hi) (by rw [hk]; omega)] at hj
     simp only [List.getElem_map, List.getElem_range] at hj
     have := (hfn (j / 2) hi).1 (j % 2) u hj
     rw [add_at a _ hsp, add_at _ _ rfl] at this
     rw [show a.off + j = a.off + j / 2 * 2 + j % 2 by omega]
     exact this
  ·
   intro y hy
   obtain ⟨i, hi, rfl⟩ := List.mem_map.1 hy
   exact (hfn i (by simpa using hi)).2
theorem openItC {H : Type} {enc : TypeId × Value → H} {W : World} {fuel : Nat} {cs : List Value} {x : DataW H × List MemPlace} (hf : DataW.trod enc Tryz.prog W 0 (fun _ => true) true fuel 40 cs = some x) (hw : ∀ k ∈ x.1.weights Tryz.prog 40, k ≤ 140737488351232) :
  ∃ a n c, cs = [.slice a n c] ∧ ∃ l : List Int, IsL cdZ W (.slice a n c) l ∧ l.length * 8 ≤ 140737488351232 ∧ (∀ y ∈ l, (-9223372036854775808 ≤ y ∧ y ≤ 9223372036854775807)) := by
 rcases Deep.open_slice Tryz.underlying40 hf with ⟨hcs, hx⟩ | ⟨a, len, cap, m, n, D, Pl, hcs, hb, hl, hm, hmm, hx, hel⟩
 · exact ⟨_, _, _, hcs, [], isL_nil _ _, by simp, fun y hy => by simp at hy⟩
 ·
  simp only [if_true] at hmm
  subst hmm
  rw [Tryz.cellsInt] at hel
  rw [hx] at hw
  have each : ∀ i, i < len → ∃ y : Int, (∀ j u, (cdZ.c y)[j]? = some u → W.cell? ((a.add (i * 1)).add j) = some u) ∧ ((-9223372036854775808 ≤ y ∧ y ≤ 9223372036854775807)) := by
   intro i hi
   obtain ⟨cs', h1, h2⟩ := hel i (by omega)
   obtain ⟨_, hlen, hcell⟩ := World.cells?_some h1
   have hwi := fun n hn => hw n (weights_elem Tryz.underlying40 (List.mem_map.2 ⟨i, List.mem_range.2 hi, rfl⟩) n hn)
   match cs', hlen with
   | [c0], _ =>
    have z0 := hcell 0 (by omega)
    obtain ⟨k, e0, _, w0⟩ := DataW.trod_int Tryz.underlying3 h2
    simp at e0
    subst e0
    refine ⟨k, ?_, wf_i64 w0⟩
    intro j u hj
    simp only [cdZ] at hj
    match j, hj with
    | 0, hj => simp at hj; subst hj; exact z0
  have inh : Inhabited (Int) := ⟨0⟩
  obtain ⟨f, hfn⟩ := Deep.choose_lt each
  have hlw := hw _ (weights_len Tryz.underlying40)
  rw [Tryz.bytesInt, List.length_map, List.length_range, Nat.add_mul] at hlw
  refine ⟨some a, len, _, hcs, (List.range len).map f, ⟨some a, _, by rw [List.length_map, List.length_range], by rw [List.length_map, List.length_range]; exact hl, ?_⟩, by rw [List.length_map, List.length_range]; omega, ?_⟩
  ·
   by_cases h0 : len = 0
   · subst h0; exact Or.inl rfl
   ·
    right
    have g0 := (hfn 0 (by omega)).1 0 _ (List.getElem?_eq_getElem (by rw [cdZ.len]; exact cdZ.pos))
    have hsp : a.spot = none := by
     simp only [Nat.zero_mul, Addr.add, if_true] at g0
     exact spot_none g0
    have hlt : a.block < W.heap.size := by
     have := World.block_lt_of_cell? _ _ g0
     simpa [Addr.add] using this
    refine ⟨a.block, a.off, ?_, hlt, ?_⟩
    ·
     obtain ⟨b, o, s⟩ := a
     simp only at hsp
     rw [hsp]
    ·
     intro j u hj
     have hjl := (List.getElem?_eq_some_iff.1 hj).1
     rw [flat_len, List.length_map, List.length_range] at hjl
     have hk : cdZ.k = 1 := rfl
     rw [hk] at hjl
     have hi : j / 1 < len := by omega
     have e : j = j / 1 * cdZ.k + j % 1 := by rw [hk]; omega
     rw [e, flat_get cdZ _ _ _ (by simpa using hi) (by rw [hk]; omega)] at hj
     simp only [List.getElem_map, List.getElem_range] at hj
     have := (hfn (j / 1) hi).1 (j % 1) u hj
     rw [add_at a _ hsp, add_at _ _ rfl] at this
     rw [show a.off + j = a.off + j / 1 * 1 + j % 1 by omega]
     exact this
  ·
   intro y hy
   obtain ⟨i, hi, rfl⟩ := List.mem_map.1 hy
   exact (hfn i (by simpa using hi)).2
theorem open_ags {H : Type} {enc : TypeId × Value → H} {W : World} {base : Nat} {r : Reach} {v : Value} {d : DataW H} {p : List MemPlace} (hval : Value.okWide Tryz.prog W r base 41 v)
  (h : DataW.Trod enc Tryz.prog W 0 (fun _ => true) true 41 v d p) (hw : ∀ k ∈ d.weights Tryz.prog 41, k ≤ 140737488351232) : ∃ l : List BG.Ag, IsL cdG W v l ∧ (∀ y ∈ l, (-9223372036854775808 ≤ y.kind ∧ y.kind ≤ 9223372036854775807) ∧ (-9223372036854775808 ≤ y.col ∧ y.col ≤ 9223372036854775807)) ∧ l.length * 16 ≤ 140737488351232 := by
 obtain ⟨a0, len0, cap0, rfl⟩ := okWide_slice Tryz.underlying41 hval
 obtain ⟨fuel, hf⟩ := h
 obtain ⟨a, n, c, e, l, hl, hb, hk⟩ := openAgC hf hw
 simp only [Value.cells] at e
 simp at e
 obtain ⟨rfl, rfl, rfl⟩ := e
 exact ⟨l, hl, hk, hb⟩
theorem shut_ags {H : Type} {enc : TypeId × Value → H} {W W' : World} {v : Value} {d : DataW H} {p : List MemPlace} (h : DataW.Trod enc Tryz.prog W 0 (fun _ => true) true 41 v d p) (hb : Below W.heap.size W W') :
  DataW.Trod enc Tryz.prog W' 0 (fun b => decide (b < W.heap.size)) true 41 v d p := by
 refine Below.trod laidOut Tryz.readsAggs Tryz.hasAggs h hb ?_
 obtain ⟨fuel, hf⟩ := h
 exact DataW.trod_lt fuel _ _ _ hf
theorem open_its {H : Type} {enc : TypeId × Value → H} {W : World} {base : Nat} {r : Reach} {v : Value} {d : DataW H} {p : List MemPlace} (hval : Value.okWide Tryz.prog W r base 40 v)
  (h : DataW.Trod enc Tryz.prog W 0 (fun _ => true) true 40 v d p) (hw : ∀ k ∈ d.weights Tryz.prog 40, k ≤ 140737488351232) : ∃ l : List Int, IsL cdZ W v l ∧ (∀ y ∈ l, (-9223372036854775808 ≤ y ∧ y ≤ 9223372036854775807)) ∧ l.length * 8 ≤ 140737488351232 := by
 obtain ⟨a0, len0, cap0, rfl⟩ := okWide_slice Tryz.underlying40 hval
 obtain ⟨fuel, hf⟩ := h
 obtain ⟨a, n, c, e, l, hl, hb, hk⟩ := openItC hf hw
 simp only [Value.cells] at e
 simp at e
 obtain ⟨rfl, rfl, rfl⟩ := e
 exact ⟨l, hl, hk, hb⟩
theorem shut_its {H : Type} {enc : TypeId × Value → H} {W W' : World} {v : Value} {d : DataW H} {p : List MemPlace} (h : DataW.Trod enc Tryz.prog W 0 (fun _ => true) true 40 v d p) (hb : Below W.heap.size W W') :
  DataW.Trod enc Tryz.prog W' 0 (fun b => decide (b < W.heap.size)) true 40 v d p := by
 refine Below.trod laidOut Tryz.readsInts Tryz.hasInts h hb ?_
 obtain ⟨fuel, hf⟩ := h
 exact DataW.trod_lt fuel _ _ _ hf
theorem open_rws {H : Type} {enc : TypeId × Value → H} {W : World} {base : Nat} {r : Reach} {v : Value} {d : DataW H} {p : List MemPlace} (hval : Value.okWide Tryz.prog W r base 22 v)
  (h : DataW.Trod enc Tryz.prog W 0 (fun _ => true) true 22 v d p) (hw : ∀ k ∈ d.weights Tryz.prog 22, k ≤ 140737488351232) : ∃ l : List (List VM.Vl), IsRR W v l ∧ (∀ y ∈ l, y.length * 32 ≤ 140737488351232 ∧ ∀ z ∈ y, EV.gd z ∧ z.s.size ≤ 140737488351232) ∧ l.length * 24 ≤ 140737488351232 := by
 obtain ⟨a0, len0, cap0, rfl⟩ := okWide_slice Tryz.underlying22 hval
 obtain ⟨fuel, hf⟩ := h
 obtain ⟨a, n, c, e, l, hl, hb, hk⟩ := openRwC hf hw
 simp only [Value.cells] at e
 simp at e
 obtain ⟨rfl, rfl, rfl⟩ := e
 refine ⟨l.map (·.2), ⟨l.map (·.1), isL_sv hl, by simp, fun i h1 h2 => ?_⟩, fun y hy => ?_, by rw [List.length_map]; exact hb⟩
 ·
  simp only [List.getElem_map]
  exact (hk _ (List.getElem_mem _)).1
 ·
  obtain ⟨z, hz, rfl⟩ := List.mem_map.1 hy
  exact (hk z hz).2
theorem shut_rws {H : Type} {enc : TypeId × Value → H} {W W' : World} {v : Value} {d : DataW H} {p : List MemPlace} (h : DataW.Trod enc Tryz.prog W 0 (fun _ => true) true 22 v d p) (hb : Below W.heap.size W W') :
  DataW.Trod enc Tryz.prog W' 0 (fun b => decide (b < W.heap.size)) true 22 v d p := by
 refine Below.trod laidOut Tryz.readsRows Tryz.hasRows h hb ?_
 obtain ⟨fuel, hf⟩ := h
 exact DataW.trod_lt fuel _ _ _ hf
end Go.Proofs.YtbcfdhimngoplaaGreatDoor
namespace Go.Proofs.YtbcfdhimngoplaaGreatDoor
open Go.ChangeShapes Go.WideShapes Go.ChangeAt Go.RowKit
set_option linter.unusedVariables false
set_option linter.unusedSimpArgs false
set_option maxRecDepth 100000
theorem ba_tl {a b : ByteArray} (h : a.toList = b.toList) : a = b := by
 rw [Lib.toList_data, Lib.toList_data] at h
 have := Array.toList_inj.1 h
 cases a; cases b; simp_all
set_option maxHeartbeats 2000000 in
theorem sameRow_any (v u : Value) (l m : List VM.Vl) (w : World) (hv : IsL cdV w v l) (hu : IsL cdV w u m) (hl : l.length ≤ 9223372036854775806) :
  Calls Tryz.prog 40 #[v, u] w fun e w' => e = .returned (.bool (decide (l = m))) ∧ Fr w w' := by
 obtain ⟨a, cap, rfl, hc1, hcs⟩ := hv
 obtain ⟨a2, cap2, rfl, hc2, hcs2⟩ := hu
 have HC := hideP hcs
 have HC2 := hideP hcs2
 clear hcs hcs2
 obtain ⟨R, hR⟩ : ∃ R, decide (l = m) = R := ⟨_, rfl⟩
 rw [hR]
 have HR := hideP hR
 clear hR
 by_cases hlm : l.length = m.length
 case neg =>
  have HF := hideP (show R = false by rw [← HR.out]; simp; exact fun h => hlm (by rw [h]))
  have hne : ((l.length : Int) != (m.length : Int)) = true := by simp; omega
  have hne2 : ¬ ((l.length : Int) = (m.length : Int)) := by omega
  generalize l.length = n at *
  generalize m.length = k at *
  have hne3 : (n == k) = false := by simpa using hlm
  have hne4 : ((n : Int) == (k : Int)) = false := by simp; omega
  go_enter Tryz.func40, Tryz.ntmps40
  go_wp2_with fail
  go_ret
  exact ⟨by rw [HF.out]; rfl, Fr.refl _⟩
 have HLm := hideP hlm
 obtain ⟨n, hn⟩ : ∃ n, l.length = n := ⟨_, rfl⟩
 rw [← hlm, hn]
 have HN := hideP hn
 rw [hn] at hl
 clear hlm hn hc1 hc2
 go_enter Tryz.func40, Tryz.ntmps40
 go_wp2_with fail
 go_loopw [5] (fun iv wr => ∃ i : Nat, iv = .int .i64 i ∧ i ≤ n ∧ l.take i = m.take i ∧ Fr w wr) (fun iv _ => n - (intOf iv).toNat)
 case atStart => exact ⟨0, rfl, by omega, rfl, Fr.refl _⟩
 case round =>
  obtain ⟨i, rfl, hi, htk, hfr⟩ := hrel
  by_cases hlt : i < n
  ·
   have hil : i < l.length := by rw [HN.out]; exact hlt
   have him : i < m.length := by rw [← HLm.out, HN.out]; exact hlt
   obtain ⟨b, o, rfl, hb, hc⟩ : ∃ b o, a = some ⟨b, o, none⟩ ∧ b < w.heap.size ∧ At cdV w b o l := by
    rcases HC.out with h | h
    · subst h; simp at hil
    · exact h
   obtain ⟨b2, o2, rfl, hb2, hc2⟩ : ∃ b o, a2 = some ⟨b, o, none⟩ ∧ b < w.heap.size ∧ At cdV w b o m := by
    rcases HC2.out with h | h
    · subst h; simp at him
    · exact h
   obtain ⟨c0, c1, c2⟩ := (hc.fr hb hfr).v3 i hil
   obtain ⟨d0, d1, d2⟩ := (hc2.fr hb2 hfr).v3 i him
   have hst : l[i] = m[i] → l.take (i + 1) = m.take (i + 1) := fun h => by
    rw [List.take_succ_eq_append_getElem hil, List.take_succ_eq_append_getElem him, htk, h]
   have hno : l[i] ≠ m[i] → R = false := fun h => by
    rw [← HR.out, decide_eq_false_iff_not]
    rintro rfl
    exact h rfl
   generalize l[i] = x at *
   generalize m[i] = y at *
   obtain ⟨k, nn, s⟩ := x
   obtain ⟨k', nn', s'⟩ := y
   simp only at c0 c1 c2 d0 d1 d2
   have hlt' : (i : Int) < (n : Int) := by omega
   have HF := hideP hfr
   have HSt := hideP hst
   have HNo := hideP hno
   clear hc hc2 hfr hst hno htk hil him
   by_cases hk : k = k'
   ·
    subst hk
    by_cases hn' : nn = nn'
    ·
     subst hn'
     by_cases hs : s = s'
     ·
      subst hs
      have HT := hideP (HSt.out rfl)
      go_wp2_with fail
      go_region
      go_wp2_with fail
      go_roundw
      case rel => exact ⟨i + 1, by go_num, by omega, HT.out, Fr.drew HF.out⟩
      case measure => simp [intOf]; omega
     ·
      have hs1 : ¬ s.toList = s'.toList := fun h => hs (ba_tl h)
      have hs2 : (s.toList == s'.toList) = false := beq_false_of_ne hs1
      have HT := hideP (HNo.out (by intro h; injection h with _ _ h; exact hs h))
      clear hs
      go_wp2_with fail
      go_region
      go_wp2_with fail
      go_ret
      exact ⟨by rw [HT.out]; rfl, Fr.drew HF.out⟩
    ·
     have hn2 : (nn == nn') = false := beq_false_of_ne hn'
     have HT := hideP (HNo.out (by intro h; injection h with _ h _; exact hn' h))
     go_wp2_with fail
     go_region
     go_wp2_with fail
     go_ret
     exact ⟨by rw [HT.out]; rfl, Fr.drew HF.out⟩
   ·
    have hk2 : (k == k') = false := beq_false_of_ne hk
    have HT := hideP (HNo.out (by intro h; injection h with h _ _; exact hk h))
    go_wp2_with fail
    go_region
    go_wp2_with fail
    go_ret
    exact ⟨by rw [HT.out]; rfl, Fr.drew HF.out⟩
  ·
   obtain rfl : i = n := by omega
   have HT := hideP (show R = true by
    rw [← HR.out, decide_eq_true_eq]
    have h1 : l.take l.length = m.take m.length := by rw [← HLm.out, HN.out]; exact htk
    rw [List.take_length, List.take_length] at h1
    exact h1)
   have HF := hideP hfr
   clear htk hfr
   go_wp2_with fail
   go_ret
   exact ⟨by rw [HT.out]; rfl, HF.out⟩
end Go.Proofs.YtbcfdhimngoplaaGreatDoor
namespace Go.Proofs.YtbcfdhimngoplaaGreatDoor
open Go.ChangeShapes Go.WideShapes Go.ChangeAt Go.RowKit
set_option linter.unusedVariables false
set_option linter.unusedSimpArgs false
set_option maxRecDepth 100000
set_option maxHeartbeats 2000000
end Go.Proofs.YtbcfdhimngoplaaGreatDoor
namespace Go.Proofs.YtbcfdhimngoplaaGreatDoor
open Go Go.ChangeShapes Go.WideShapes Go.ChangeAt Go.RowKit
set_option maxRecDepth 100000
namespace HeadW
theorem looks : Tryz.prog.looks [] = false := by kernel_rfl
theorem mapsRowed : mapsRowed Tryz.prog = true := by kernel_rfl
theorem stopsHeard : Tryz.prog.stopsHeard = true := by kernel_rfl
theorem plainKeys : Tryz.prog.plainKeys = true := by kernel_rfl
theorem main : Tryz.prog.mainIs = some (true, ( "591cd41afe7b4b4e67348e953bda9d0a59dcbbd26f32dd65a3fcd8801666d624" ).toList) := mainIs.trans (by kernel_rfl)
end HeadW
end Go.Proofs.YtbcfdhimngoplaaGreatDoor
namespace Go.Proofs.YtbcfdhimngoplaaGreatDoor
open Go.ChangeShapes Go.WideShapes Go.ChangeAt Go.RowKit Go.Shelf
set_option linter.unusedVariables false
set_option maxRecDepth 100000
structure Tt (W : World) : Prop where
 tb : Tb W
 tn : Tn W
theorem Tt.fr {w w' : World} (h : Tt w) (f : Fr w w') : Tt w' := ⟨h.tb.fr f, h.tn.fr f⟩
theorem accept_eq : (Rows.laid_unicode_utf8_acceptRanges : DataW Unit) = Lib.acceptData := by kernel_rfl
def turnsData : DataW Unit := .agg ((List.range 7).map fun i => .agg ([turnsL.getD (2 * i) 0, turnsL.getD (2 * i + 1) 0].map fun z => .lit (.int .i64 z)))
theorem turns_eq : (Rows.laid_starling_eval_turns : DataW Unit) = turnsData := by kernel_rfl
theorem c5 : Tryz.prog.cellsOf 5 = 1 := by kernel_rfl
theorem c3 : Tryz.prog.cellsOf 3 = 1 := by kernel_rfl
theorem c241 : Tryz.prog.cellsOf 214 = 256 := by kernel_rfl
theorem c243 : Tryz.prog.cellsOf 216 = 2 := by kernel_rfl
theorem c162 : Tryz.prog.cellsOf 151 = 2 := by kernel_rfl
theorem tb_of {W : World} (h3 : Lib.VarReads Tryz.prog W "unicode/utf8.first" Lib.firstData) (h4 : Lib.VarReads Tryz.prog W "unicode/utf8.acceptRanges" Lib.acceptData) : Tb W := by
 refine ⟨fun c hc => ?_, fun i hi => ?_⟩
 ·
  obtain ⟨g, t, cs, fuel, p, hg, hty, hvar, hd⟩ := h3
  obtain rfl := Option.some.inj ((show Tryz.prog.globalNamed "unicode/utf8.first" = some 3 by kernel_rfl).symm.trans hg)
  obtain rfl := Option.some.inj ((show (Tryz.prog.globals[3]?).map (·.type) = some 214 by kernel_rfl).symm.trans hty)
  have hcs := Lib.cells_of_tab (show Tryz.prog.underlying 214 = some (.array 256 5) by kernel_rfl) (show Tryz.prog.underlying 5 = some (.int .u8) by kernel_rfl) c5 c241 hd
  have := World.var?_cell hg hvar c
  rw [this, ← Array.getElem?_toList, hcs]
  simp [Lib.firstTab, hc]
 ·
  obtain ⟨g, t, cs, fuel, p, hg, hty, hvar, hd⟩ := h4
  obtain rfl := Option.some.inj ((show Tryz.prog.globalNamed "unicode/utf8.acceptRanges" = some 4 by kernel_rfl).symm.trans hg)
  obtain rfl := Option.some.inj ((show (Tryz.prog.globals[4]?).map (·.type) = some 217 by kernel_rfl).symm.trans hty)
  obtain ⟨fuel', d, q, hdi, he⟩ := Lib.array_elem (show Tryz.prog.underlying 217 = some (.array 16 216) by kernel_rfl) hd i hi
  simp only [List.getElem?_map, List.getElem?_range hi, Option.map_some, Option.some.injEq] at hdi
  subst hdi
  rw [c243] at he
  have hcs := Lib.ints_of_struct Tryz.underlying216 (fun j f hj => by
   match j, hj with
   | 0, hj => simp at hj; subst hj; exact ⟨by kernel_rfl, rfl, c5⟩
   | 1, hj => simp at hj; subst hj; exact ⟨by kernel_rfl, rfl, c5⟩
   | j + 2, hj => simp at hj) (by rw [c243]; rfl) he
  have e0 := congrArg (·[0]?) hcs
  have e1 := congrArg (·[1]?) hcs
  simp only [List.getElem?_take, List.getElem?_drop] at e0 e1
  constructor
  ·
   rw [World.var?_cell hg hvar (2 * i), ← Array.getElem?_toList]
   simpa [Nat.mul_comm] using e0
  ·
   rw [World.var?_cell hg hvar (2 * i + 1), ← Array.getElem?_toList]
   simpa [Nat.mul_comm] using e1
theorem tn_of {W : World} (h : Lib.VarReads Tryz.prog W "starling/eval.turns" turnsData) : Tn W := by
 have key : ∀ i, i < 7 → W.cell? ⟨0, 2 * i, none⟩ = some (.int .i64 (turnsL.getD (2 * i) 0)) ∧ W.cell? ⟨0, 2 * i + 1, none⟩ = some (.int .i64 (turnsL.getD (2 * i + 1) 0)) := by
  intro i hi
  obtain ⟨g, t, cs, fuel, p, hg, hty, hvar, hd⟩ := h
  obtain rfl := Option.some.inj ((show Tryz.prog.globalNamed "starling/eval.turns" = some 0 by kernel_rfl).symm.trans hg)
  obtain rfl := Option.some.inj ((show (Tryz.prog.globals[0]?).map (·.type) = some 152 by kernel_rfl).symm.trans hty)
  obtain ⟨fuel', d, q, hdi, he⟩ := Lib.array_elem (show Tryz.prog.underlying 152 = some (.array 7 151) by kernel_rfl) hd i hi
  simp only [List.getElem?_map, List.getElem?_range hi, Option.map_some, Option.some.injEq] at hdi
  subst hdi
  rw [c162] at he
  have hcs := Lib.ints_of_struct Tryz.underlying151 (fun j f hj => by
   match j, hj with
   | 0, hj => simp at hj; subst hj; exact ⟨by kernel_rfl, rfl, c3⟩
   | 1, hj => simp at hj; subst hj; exact ⟨by kernel_rfl, rfl, c3⟩
   | j + 2, hj => simp at hj) (by rw [c162]; rfl) he
  have e0 := congrArg (·[0]?) hcs
  have e1 := congrArg (·[1]?) hcs
  simp only [List.getElem?_take, List.getElem?_drop] at e0 e1
  constructor
  ·
   rw [World.var?_cell hg hvar (2 * i), ← Array.getElem?_toList]
   simpa [Nat.mul_comm] using e0
  ·
   rw [World.var?_cell hg hvar (2 * i + 1), ← Array.getElem?_toList]
   simpa [Nat.mul_comm] using e1
 intro j hj
 rcases Nat.mod_two_eq_zero_or_one j with h2 | h2
 ·
  have := (key (j / 2) (by omega)).1
  rwa [show 2 * (j / 2) = j by omega] at this
 ·
  have := (key (j / 2) (by omega)).2
  rwa [show 2 * (j / 2) + 1 = j by omega] at this
theorem tabs_of_laid {W : World} (h : laidMetH Tryz.prog [("math/bits.deBruijn32tab", Rows.laid_math_bits_deBruijn32tab), ("math/bits.deBruijn64tab", Rows.laid_math_bits_deBruijn64tab), ("internal/strconv.uint64pow10", Rows.laid_internal_strconv_uint64pow10), ("unicode/utf8.acceptRanges", Rows.laid_unicode_utf8_acceptRanges), ("starling/lex.signs", Rows.laid_starling_lex_signs), ("starling/eval.turns", Rows.laid_starling_eval_turns), ("unicode/utf8.first", Rows.laid_unicode_utf8_first)] W) : Tt W := by
 rw [MakeChecks.laidMetH_plain _ _ _ (by kernel_rfl)] at h
 have h1 : Lib.VarReads Tryz.prog W "unicode/utf8.first" Rows.laid_unicode_utf8_first := Lib.laidMet.reads h (by simp)
 have h2 : Lib.VarReads Tryz.prog W "unicode/utf8.first" Lib.firstData := by
  unfold Rows.laid_unicode_utf8_first at h1
  rw [Pinned.utf8First_eq] at h1
  exact h1
 exact ⟨tb_of h2 (accept_eq ▸ Lib.laidMet.reads h (by simp)), tn_of (turns_eq ▸ Lib.laidMet.reads h (by simp))⟩
end Go.Proofs.YtbcfdhimngoplaaGreatDoor
