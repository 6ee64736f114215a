/-
  untouched of a twin of one row that was not touched.
-/
import Derived.Test.YtjadmefiilkgmaaGreatDoorRvC
namespace Go.Proofs.YtjadmefiilkgmaaGreatDoor
open Go.ChangeShapes Go.WideShapes Go.ChangeAt Go.RowKit
set_option linter.unusedVariables false
set_option linter.unusedSimpArgs false
set_option maxRecDepth 100000

theorem lit1 (W : World) (x : VM.Vl) : IsRow (W.alloc (.cells #[.int .i64 x.k, .int .i64 x.n, .string x.s] 23)) (.slice (some ⟨W.heap.size, 0, none⟩) 1 1) [x] := by
  refine ⟨_, 1, rfl, Or.inr ⟨W.heap.size, 0, rfl, by simp, ?_⟩⟩
  intro i hi
  match i, hi with
  | 0, _ => simp [go_sem]
theorem Tw.cells {w : World} {B G C g c h ch : Nat} {l : List VM.Vl} (t : Tw w B G C g c h ch l) : w.cell? ⟨G, 0, none⟩ = some (.slice (some ⟨g, 0, none⟩) l.length c) ∧ w.cell? ⟨G, 1, none⟩ = some (.slice (some ⟨h, 0, none⟩) 1 ch) :=
  ⟨t.all.cellAt 0 (by decide), t.all.cellAt 1 (by decide)⟩
theorem Tw.caps {w : World} {B G C g c h ch : Nat} {l : List VM.Vl} (t : Tw w B G C g c h ch l) : 2 ≤ C ∧ l.length + 1 ≤ c := by
  obtain ⟨_, _, e1, h1, _⟩ := own_form t.all (by decide)
  obtain ⟨_, _, e2, h2, _⟩ := own_form t.row (by omega)
  simp only [Value.slice.injEq] at e1 e2
  omega
theorem Tw.rowAt {w : World} {B G C g c h ch : Nat} {l : List VM.Vl} (t : Tw w B G C g c h ch l) : IsRow w (.slice (some ⟨g, 0, none⟩) l.length c) l ∧ w.cell? ⟨g, l.length * 3, none⟩ = some (.int .i64 1) ∧ w.cell? ⟨g, l.length * 3 + 1, none⟩ = some (.int .i64 77) ∧ w.cell? ⟨g, l.length * 3 + 2, none⟩ = some (.string ⟨#[]⟩) := by
  have hx : (l ++ [v77]).length = l.length + 1 := by simp
  have key : ∀ i (hi : i < l.length + 1), w.cell? ⟨g, i * 3, none⟩ = some (.int .i64 ((l ++ [v77])[i]'(by omega)).k) ∧ w.cell? ⟨g, i * 3 + 1, none⟩ = some (.int .i64 ((l ++ [v77])[i]'(by omega)).n) ∧ w.cell? ⟨g, i * 3 + 2, none⟩ = some (.string ((l ++ [v77])[i]'(by omega)).s) := by
    intro i hi
    obtain ⟨a, b, c'⟩ := rowV_get (l ++ [v77]) i (by omega)
    exact ⟨(t.row.cellAt _ (by omega)).trans a, (t.row.cellAt _ (by omega)).trans b, (t.row.cellAt _ (by omega)).trans c'⟩
  obtain ⟨_, _, e2, _, _, hg⟩ := own_form t.row (by omega)
  simp only [Value.slice.injEq, Option.some.injEq, Addr.mk.injEq, and_true] at e2
  refine ⟨⟨_, c, rfl, Or.inr ⟨g, 0, rfl, by omega, ?_⟩⟩, ?_⟩
  · intro i hi
    have := key i (by omega)
    rw [List.getElem_append_left hi] at this
    simpa using this
  · have := key l.length (by omega)
    simpa [v77] using this
theorem s5 {w w' : World} {a b c d e : Addr} {u v x y z : Value} (f : Fr w w') (h : w.cell? a = some u ∧ w.cell? b = some v ∧ w.cell? c = some x ∧ w.cell? d = some y ∧ w.cell? e = some z) : w'.cell? a = some u ∧ w'.cell? b = some v ∧ w'.cell? c = some x ∧ w'.cell? d = some y ∧ w'.cell? e = some z :=
  ⟨cellAfter f h.1, cellAfter f h.2.1, cellAfter f h.2.2.1, cellAfter f h.2.2.2.1, cellAfter f h.2.2.2.2⟩

set_option maxHeartbeats 2000000 in
theorem untouched_one (b : Nat) (a : Option Addr) (cap B G C g c h ch : Nat) (l : List VM.Vl) (w : World) (hb : w.cell? ⟨b, 0, none⟩ = some (.slice a l.length cap)) (hr : IsRow w (.slice a l.length cap) l) (t : Tw w B G C g c h ch l) (hl : l.length * 32 ≤ 140737488351232) :
    Calls Tryz.prog 29 #[.slice (some ⟨G, 0, none⟩) 1 C, .slice (some ⟨b, 0, none⟩) 1 1] w fun e w' => e = .returned (.bool true) ∧ Fr w w' := by
  obtain ⟨hC, hc⟩ := t.caps
  obtain ⟨t0, t1⟩ := t.cells
  obtain ⟨hrow, r0, r1, r2⟩ := t.rowAt
  have hone : IsRow w (.slice (some ⟨h, 0, none⟩) 1 ch) [v78] := row_of_own t.one
  obtain ⟨D, rfl⟩ : ∃ D, C = D + 2 := ⟨C - 2, by omega⟩
  have q1 : ((D : Int) + 2 ≤ 1) = False := by simp; omega
  have q5 : decide ((D : Int) + 2 ≤ 1) = false := by rw [decide_eq_false_iff_not]; omega
  have w2 : IntKind.i64.wrap 2 = 2 := by decide +kernel
  have w3 : IntKind.i64.wrap (1 + 1) = 2 := by decide +kernel
  have w4 : (2 : Int) ≤ (D : Int) + 2 := by omega
  have w5 : IntKind.i64.wrap 1 = 1 := by decide +kernel
  have p1 : (l.length : Int) + 1 ≤ (c : Int) := by omega
  have p2 : (c = 0) = False := by simp; omega
  have p5 : (0 : Int) ≤ (l.length : Int) + 1 := by omega
  have p6 : ((l.length : Int) + 1).toNat = l.length + 1 := by omega
  have p7 : ¬ c = 0 := by omega
  have p3 : (l.length : Int) < (l.length : Int) + 1 := by omega
  have p4 : IntKind.i64.wrap ((l.length : Int) + 1) = (l.length : Int) + 1 := by simp only [IntKind.wrap]; simp [IntKind.min, IntKind.max, IntKind.signed, IntKind.bits]; omega
  have HONE := hideP hone
  have HROW := hideP hrow
  have HR := hideP hr
  have S0 := hideP (show w.cell? ⟨G, 0, none⟩ = some (.slice (some ⟨g, 0, none⟩) l.length c) ∧ w.cell? ⟨b, 0, none⟩ = some (.slice a l.length cap) ∧ w.cell? ⟨g, l.length * 3, none⟩ = some (.int .i64 1) ∧ w.cell? ⟨g, l.length * 3 + 1, none⟩ = some (.int .i64 77) ∧ w.cell? ⟨g, l.length * 3 + 2, none⟩ = some (.string ⟨#[]⟩) from ⟨t0, hb, r0, r1, r2⟩)
  have T1 := hideP t1
  clear hone hrow hr t0 r0 r1 r2 t hb
  go_enter Tryz.func29, Tryz.ntmps29
  go_wp2_with fail
  go_region_held3 (fun W' => W'.cell? ⟨G, 1, none⟩ = some (.slice (some ⟨h, 0, none⟩) 1 ch)) (first | exact T1.out | assumption | exact cellAfter (Fr.alloc (Fr.refl _) _) (by assumption))
    (first
    | (go_at_call 35; refine (vInt_any _ _).mono ?_; rintro e w5 ⟨rfl, hf5⟩; have hS5 := cellAfter hf5 T1.out)
    | (go_at_call 54; refine (rowOf_id _ _).mono ?_; rintro e w6 ⟨rfl, rfl⟩)
    | (go_at_call 24; refine (sameRow_eq _ _ [v78] _ (IsRow.fr HONE.out (Fr.trans (Fr.trans (Fr.drew (Fr.refl _)) hf5) ((Fr.refl _).alloc _))) (lit1 w5 v78) (by decide)).mono ?_; rintro e w7 ⟨rfl, hf7⟩; have hS7 := cellAfter hf7 (cellAfter ((Fr.refl w5).alloc _) hS5)))
  all_goals
    have F7 : Hid (Fr w w7) := Fr.trans (Fr.trans (Fr.drew (Fr.refl w)) hf5) (Fr.trans ((Fr.refl w5).alloc _) hf7)
    clear hf5 hS5 hf7 hS7
    go_wp2_with fail
    go_loopw [5] (fun iv wr => (iv = .int .i64 0 ∨ iv = .int .i64 1) ∧ Fr w wr) (fun iv _ => 1 - (intOf iv).toNat)
    case atStart => exact ⟨Or.inl rfl, F7.out⟩
    case round =>
      obtain ⟨rfl | rfl, hfr⟩ := hrel
      · have HS := hideP (s5 hfr S0.out)
        have HFR := hideP hfr
        clear hfr t1 F7
        go_wp2_with fail
        go_region_held3 (fun W' => W'.cell? ⟨G, 0, none⟩ = some (.slice (some ⟨g, 0, none⟩) l.length c) ∧ W'.cell? ⟨b, 0, none⟩ = some (.slice a l.length cap) ∧ W'.cell? ⟨g, l.length * 3, none⟩ = some (.int .i64 1) ∧ W'.cell? ⟨g, l.length * 3 + 1, none⟩ = some (.int .i64 77) ∧ W'.cell? ⟨g, l.length * 3 + 2, none⟩ = some (.string ⟨#[]⟩)) (first | exact HS.out | assumption | exact s5 (by assumption) (by assumption))
          (first
          | (go_at_call 24; refine (sameRow_eq _ _ l _ (IsRow.fr HROW.out (Fr.drew HFR.out)) (IsRow.fr HR.out (Fr.drew HFR.out)) (by omega)).mono ?_; rintro e w8 ⟨rfl, hf8⟩)
          | (go_at_call 35; refine (vInt_any _ _).mono ?_; rintro e w9 ⟨rfl, hf9⟩))
        all_goals
          have F9 : Hid (Fr w w9) := Fr.trans (Fr.drew HFR.out) (Fr.trans hf8 hf9)
          clear hf8 hf9 HS HFR
          go_wp2_with fail
          go_roundw
          case rel => exact ⟨Or.inr rfl, F9.out⟩
          case measure => simp [intOf]
      · have HFR := hideP hfr
        clear hfr
        go_wp2_with fail
        go_ret
        exact ⟨rfl, HFR.out⟩
end Go.Proofs.YtjadmefiilkgmaaGreatDoor
