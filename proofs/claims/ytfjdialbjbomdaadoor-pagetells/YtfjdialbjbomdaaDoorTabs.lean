/-
  A page that is handed in, as plain data; the tables that the statements list are not read here.
-/
import Derived.Test.YtfjdialbjbomdaaDoorPgJ
import Derived.Test.YtfjdialbjbomdaaDoorTie
import Derived.Test.YtfjdialbjbomdaaDoorCards
import Derived.ChangeMaps5
import Derived.PinnedBridge
import Derived.Lay
import Derived.SevenTiedAt
import Derived.Stop.Joined
import Derived.Deep.Slices
import Derived.Deep.Strs
import Derived.Carry
namespace Go.Proofs.YtfjdialbjbomdaaDoor
open Go.ChangeShapes Go.WideShapes Go.ChangeAt Go.RowKit
set_option linter.unusedVariables false
set_option linter.unusedSimpArgs false
set_option maxRecDepth 100000

def Tb (_ : World) : Prop := True
theorem tabs_of_laid {l : List (String × DataW Unit)} {W : World} (h : laidMetH Tryd.prog l W) : Tb W := True.intro
theorem Tryd.cellsPage : Tryd.prog.cellsOf 23 = 4 := by kernel_rfl
theorem Tryd.cellsInt : Tryd.prog.cellsOf 3 = 1 := by kernel_rfl
theorem Tryd.cellsStr : Tryd.prog.cellsOf 9 = 1 := by kernel_rfl
theorem Tryd.readsPage : Tryd.prog.readableRec 23 = true := by kernel_rfl
theorem Tryd.hasPage : 23 < Tryd.prog.types.size := of_decide_eq_true (by kernel_rfl)
theorem trod_struct4 {H : Type} {enc : TypeId × Value → H} {P : Program} {w : World} {base : Nat} {spare : Nat → Bool} {held : Bool} {t : TypeId} {f0 f1 f2 f3 : Field} {fuel : Nat} {cs : List Value} {x : DataW H × List MemPlace} (ht : P.underlying t = some (.struct #[f0, f1, f2, f3])) (h : DataW.trod enc P w base spare held fuel t cs = some x) :
    ∃ y0 y1 y2 y3 n, cs.length = P.cellsOf t ∧ DataW.trod enc P w base spare held n f0.type ((cs.drop f0.offset).take (P.cellsOf f0.type)) = some y0 ∧
      DataW.trod enc P w base spare held n f1.type ((cs.drop f1.offset).take (P.cellsOf f1.type)) = some y1 ∧ DataW.trod enc P w base spare held n f2.type ((cs.drop f2.offset).take (P.cellsOf f2.type)) = some y2 ∧ DataW.trod enc P w base spare held n f3.type ((cs.drop f3.offset).take (P.cellsOf f3.type)) = some y3 := by
  obtain ⟨xs, n, _, rfl, hl, hlen, hf⟩ := DataW.trod_struct ht h
  match xs, hlen with
  | [y0, y1, y2, y3], _ => exact ⟨y0, y1, y2, y3, n, hl, by simpa using hf 0 f0 rfl, by simpa using hf 1 f1 rfl, by simpa using hf 2 f2 rfl, by simpa using hf 3 f3 rfl⟩
theorem open_page {H : Type} {enc : TypeId × Value → H} {W : World} {base : Nat} {r : Reach} {v : Value} {d : DataW H} {p : List MemPlace} (hval : Value.okWide Tryd.prog W r base 23 v)
    (h : DataW.Trod enc Tryd.prog W 0 (fun _ => true) true 23 v d p) : ∃ x : PG.Pg, v = pgV x ∧ x.body.length ≤ maxLen := by
  obtain ⟨cs, rfl, hsz⟩ := okWide_struct Tryd.underlying23 hval
  rw [Tryd.cellsPage] at hsz
  obtain ⟨fuel, hf⟩ := h
  obtain ⟨y0, y1, y2, y3, q, _, t0, t1, t2, t3⟩ := trod_struct4 Tryd.underlying23 hf
  obtain ⟨l⟩ := cs
  match l, hsz with
  | [c0, c1, c2, c3], _ =>
    simp only [Tryd.cellsInt, Tryd.cellsStr] at t0 t1 t2 t3
    obtain ⟨k, e0, _, w0⟩ := DataW.trod_int Tryd.underlying3 t0
    obtain ⟨n1, e1, _, w1⟩ := DataW.trod_int Tryd.underlying3 t1
    obtain ⟨n2, e2, _, w2⟩ := DataW.trod_int Tryd.underlying3 t2
    obtain ⟨s, e3, _, w3⟩ := DataW.trod_string Tryd.underlying9 t3
    simp [Value.cells] at e0 e1 e2 e3
    subst e0 e1 e2 e3
    refine ⟨⟨k, n1, n2, s.data.toList⟩, ?_, by rw [dl_len]; exact w3⟩
    unfold pgV
    rw [dl_eq]
theorem shut_page {H : Type} {enc : TypeId × Value → H} {W W' : World} {v : Value} {d : DataW H} {p : List MemPlace} (h : DataW.Trod enc Tryd.prog W 0 (fun _ => true) true 23 v d p) (hb : Below W.heap.size W W') :
    DataW.Trod enc Tryd.prog W' 0 (fun b => decide (b < W.heap.size)) true 23 v d p := by
  refine Below.trod laidOut Tryd.readsPage Tryd.hasPage h hb ?_
  obtain ⟨fuel, hf⟩ := h
  exact DataW.trod_lt fuel _ _ _ hf
theorem slV_ok {p : PG.Pg} (h : PG.chk p = 0) : slV p = .tuple #[.string ⟨(PG.sld p).toArray⟩, .int .i64 0] := by
  unfold slV PG.sealE
  rw [if_pos h]
  rfl
theorem slV_bad {p : PG.Pg} (h : PG.chk p ≠ 0) : slV p = .tuple #[.string ⟨#[]⟩, .int .i64 (PG.chk p : Int)] := by
  unfold slV PG.sealE
  rw [if_neg h]
end Go.Proofs.YtfjdialbjbomdaaDoor
