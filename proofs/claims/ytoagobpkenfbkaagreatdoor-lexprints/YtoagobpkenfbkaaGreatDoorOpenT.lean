/-
  A row of tokens that is handed in, as a plain list.
-/
import Derived.Test.YtoagobpkenfbkaaGreatDoorLxZ
import Derived.Deep.Slices
import Derived.Deep.Strs
import Derived.Carry
import Derived.OpenShut
import Derived.ShutString
import Derived.SizedLaws
namespace Go.Proofs.YtoagobpkenfbkaaGreatDoor
open Go.ChangeShapes Go.WideShapes Go.ChangeAt Go.RowKit
set_option linter.unusedVariables false
set_option linter.unusedSimpArgs false

theorem Tryz.cellsTok : Tryz.prog.cellsOf 29 = 4 := by kernel_rfl
theorem Tryz.cellsInt : Tryz.prog.cellsOf 3 = 1 := by kernel_rfl
theorem Tryz.cellsI64 : Tryz.prog.cellsOf 2 = 1 := by kernel_rfl
theorem Tryz.cellsStr : Tryz.prog.cellsOf 9 = 1 := by kernel_rfl
theorem Tryz.readsToks : Tryz.prog.readableRec 22 = true := by kernel_rfl
theorem Tryz.bytesTok : Tryz.prog.bytesOf 29 = 40 := by kernel_rfl
theorem Tryz.hasToks : 22 < Tryz.prog.types.size := of_decide_eq_true (by kernel_rfl)

theorem add_at (a : Addr) (n : Nat) (h : a.spot = none) : a.add n = ⟨a.block, a.off + n, none⟩ := by
  obtain ⟨b, o, s⟩ := a
  simp only at h
  subst h
  unfold Addr.add
  split
  · rename_i h0; subst h0; rfl
  · rfl
theorem trod_struct4 {H : Type} {enc : TypeId × Value → H} {P : Program} {w : World} {base : Nat} {spare : Nat → Bool} {held : Bool} {t : TypeId} {f0 f1 f2 f3 : Field} {fuel : Nat} {cs : List Value} {x : DataW H × List MemPlace} (ht : P.underlying t = some (.struct #[f0, f1, f2, f3])) (h : DataW.trod enc P w base spare held fuel t cs = some x) :
    ∃ y0 y1 y2 y3 n, cs.length = P.cellsOf t ∧ DataW.trod enc P w base spare held n f0.type ((cs.drop f0.offset).take (P.cellsOf f0.type)) = some y0 ∧
      DataW.trod enc P w base spare held n f1.type ((cs.drop f1.offset).take (P.cellsOf f1.type)) = some y1 ∧ DataW.trod enc P w base spare held n f2.type ((cs.drop f2.offset).take (P.cellsOf f2.type)) = some y2 ∧ DataW.trod enc P w base spare held n f3.type ((cs.drop f3.offset).take (P.cellsOf f3.type)) = some y3 := by
  obtain ⟨xs, n, _, rfl, hl, hlen, hf⟩ := DataW.trod_struct ht h
  match xs, hlen with
  | [y0, y1, y2, y3], _ => exact ⟨y0, y1, y2, y3, n, hl, by simpa using hf 0 f0 rfl, by simpa using hf 1 f1 rfl, by simpa using hf 2 f2 rfl, by simpa using hf 3 f3 rfl⟩

/-- the numbers and texts of tokens that are handed in have their bounds -/
def WideT (l : List (Int × LX.Tk)) : Prop := ∀ p ∈ l, (-9223372036854775808 ≤ p.2.n ∧ p.2.n ≤ 9223372036854775807) ∧ p.2.s.length ≤ 9223372036854775807
theorem ba_eta (s : ByteArray) : (⟨s.data.toList.toArray⟩ : ByteArray) = s := by cases s; rfl
theorem ba_len (s : ByteArray) : s.data.toList.length = s.size := by rw [Array.length_toList]; rfl
set_option maxRecDepth 100000 in
theorem open_toks {H : Type} {enc : TypeId × Value → H} {W : World} {base : Nat} {r : Reach} {v : Value} {d : DataW H} {p : List MemPlace} (hval : Value.okWide Tryz.prog W r base 22 v)
    (h : DataW.Trod enc Tryz.prog W 0 (fun _ => true) true 22 v d p) :
    ∃ l : List (Int × LX.Tk), IsTk W v l ∧ WideT l ∧ l.length ≤ maxLen ∧ ((d = .nil ∧ l = []) ∨ ∃ es sp, d = .slice es sp ∧ es.length = l.length) := by
  obtain ⟨a0, len0, cap0, rfl⟩ := okWide_slice Tryz.underlying22 hval
  obtain ⟨fuel, hf⟩ := h
  rcases Deep.open_slice Tryz.underlying22 hf with ⟨hcs, hx⟩ | ⟨a, len, cap, m, n, D, Pl, hcs, hb, hl, hm, hmm, hx, hel⟩
  · simp only [Value.cells] at hcs
    simp at hcs
    obtain ⟨rfl, rfl, rfl⟩ := hcs
    simp only [Prod.mk.injEq] at hx
    exact ⟨[], ⟨none, 0, rfl, Or.inl rfl⟩, fun x hx => by simp at hx, by simp, Or.inl ⟨hx.1, rfl⟩⟩
  · simp only [Value.cells] at hcs
    simp at hcs
    obtain ⟨rfl, rfl, rfl⟩ := hcs
    simp only [Prod.mk.injEq] at hx
    simp only [if_true] at hmm
    subst hmm
    rw [Tryz.cellsTok] at hel
    have each : ∀ i, i < len0 → ∃ x : Int × LX.Tk, (W.cell? (a.add (i * 4)) = some (.int .i64 x.2.k) ∧ W.cell? ((a.add (i * 4)).add 1) = some (.int .i64 x.1) ∧ W.cell? ((a.add (i * 4)).add 2) = some (.int .i64 x.2.n) ∧ W.cell? ((a.add (i * 4)).add 3) = some (.string ⟨x.2.s.toArray⟩)) ∧ (-9223372036854775808 ≤ x.2.n ∧ x.2.n ≤ 9223372036854775807) ∧ x.2.s.length ≤ 9223372036854775807 := by
      intro i hi
      obtain ⟨cs', h1, h2⟩ := hel i (by omega)
      obtain ⟨_, hlen, hcell⟩ := World.cells?_some h1
      obtain ⟨y0, y1, y2, y3, q, _, t0, t1, t2, t3⟩ := trod_struct4 Tryz.underlying29 h2
      match cs', hlen with
      | [c0, c1, c2, c3], _ =>
        have z0 := hcell 0 (by omega)
        have z1 := hcell 1 (by omega)
        have z2 := hcell 2 (by omega)
        have z3 := hcell 3 (by omega)
        simp only [Tryz.cellsInt, Tryz.cellsI64, Tryz.cellsStr] at t0 t1 t2 t3
        obtain ⟨k, e0, _, w0⟩ := DataW.trod_int Tryz.underlying3 t0
        obtain ⟨pl, e1, _, w1⟩ := DataW.trod_int Tryz.underlying3 t1
        obtain ⟨nn, e2, _, w2⟩ := DataW.trod_int Tryz.underlying2 t2
        obtain ⟨s, e3, _, w3⟩ := DataW.trod_string Tryz.underlying9 t3
        simp at e0 e1 e2 e3
        subst e0 e1 e2 e3
        refine ⟨(pl, ⟨k, nn, s.data.toList⟩), ⟨by simpa [Addr.add] using z0, z1, z2, by rw [ba_eta]; exact z3⟩, wf_i64 w2, ?_⟩
        rw [ba_len]
        exact w3
    have inh : Inhabited (Int × LX.Tk) := ⟨(0, ⟨0, 0, []⟩)⟩
    obtain ⟨f, hfn⟩ := Deep.choose_lt each
    refine ⟨(List.range len0).map f, ⟨some a, _, by rw [List.length_map, List.length_range], ?_⟩, ?_, by simp; omega, Or.inr ⟨_, _, hx.1, by simp⟩⟩
    · by_cases h0 : len0 = 0
      · subst h0; exact Or.inl rfl
      · right
        obtain ⟨⟨g0, _, _, _⟩, _, _⟩ := hfn 0 (by omega)
        have hsp : a.spot = none := by
          unfold World.cell? at g0
          simp only [Nat.zero_mul, Addr.add, if_true] at g0
          split at g0
          · split at g0
            · cases g0
            · rename_i hs
              cases hq : a.spot with
              | none => rfl
              | some q => rw [hq] at hs; simp at hs
          · cases g0
        have hlt : a.block < W.heap.size := by
          have := World.block_lt_of_cell? _ _ g0
          simpa [Addr.add] using this
        refine ⟨a.block, a.off, ?_, hlt, ?_⟩
        · obtain ⟨b, o, s⟩ := a
          simp only at hsp
          rw [hsp]
        · intro i hi
          simp only [List.length_map, List.length_range] at hi
          obtain ⟨⟨g1, g2, g3, g4⟩, _, _⟩ := hfn i hi
          rw [add_at a _ hsp] at g1 g2 g3 g4
          rw [add_at _ _ rfl] at g2 g3 g4
          simp only [List.getElem_map, List.getElem_range]
          exact ⟨g1, g2, g3, g4⟩
    · intro x hx
      obtain ⟨i, hi, rfl⟩ := List.mem_map.1 hx
      exact (hfn i (by simpa using hi)).2

theorem shut_toks {H : Type} {enc : TypeId × Value → H} {W W' : World} {v : Value} {d : DataW H} {p : List MemPlace} (h : DataW.Trod enc Tryz.prog W 0 (fun _ => true) true 22 v d p) (hb : Below W.heap.size W W') :
    DataW.Trod enc Tryz.prog W' 0 (fun b => decide (b < W.heap.size)) true 22 v d p := by
  refine Below.trod laidOut Tryz.readsToks Tryz.hasToks h hb ?_
  obtain ⟨fuel, hf⟩ := h
  exact DataW.trod_lt fuel _ _ _ hf
end Go.Proofs.YtoagobpkenfbkaaGreatDoor
