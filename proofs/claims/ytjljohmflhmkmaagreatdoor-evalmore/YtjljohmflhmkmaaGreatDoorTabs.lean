/-
  The tables that the statements list: what compares and its counterparts, and the two tables of Go's decoder.
-/
import Derived.Test.YtjljohmflhmkmaaGreatDoorEwF
import Derived.Test.YtjljohmflhmkmaaGreatDoorOpenN
import Derived.Test.YtjljohmflhmkmaaGreatDoorTie
import Derived.Test.YtjljohmflhmkmaaGreatDoorCards
import Derived.ChangeMaps5
import Derived.PinnedBridge
import Derived.Lay
import Derived.Lib.LaidU8
import Derived.Lib.LaidTab
import Derived.SevenTiedAt
import Derived.Stop.Joined
namespace Go.Proofs.YtjljohmflhmkmaaGreatDoor
open Go.ChangeShapes Go.WideShapes Go.ChangeAt Go.RowKit Go.Shelf
set_option linter.unusedVariables false
set_option maxRecDepth 100000

/-- both tables -/
structure Tt (W : World) : Prop where
  tb : Tb W
  tn : Tn W
theorem Tt.fr {w w' : World} (h : Tt w) (f : Fr w w') : Tt w' := ⟨h.tb.fr f, h.tn.fr f⟩
theorem accept_eq : (Rows.laid_unicode_utf8_acceptRanges : DataW Unit) = Lib.acceptData := by kernel_rfl
def turnsData : DataW Unit := .agg ((List.range 7).map fun i => .agg ([turnsL.getD (2 * i) 0, turnsL.getD (2 * i + 1) 0].map fun z => .lit (.int .i64 z)))
theorem turns_eq : (Rows.laid_starling_eval_turns : DataW Unit) = turnsData := by kernel_rfl
theorem c5 : Tryz.prog.cellsOf 5 = 1 := by kernel_rfl
theorem c3 : Tryz.prog.cellsOf 3 = 1 := by kernel_rfl
theorem c176 : Tryz.prog.cellsOf 176 = 256 := by kernel_rfl
theorem c179 : Tryz.prog.cellsOf 179 = 2 := by kernel_rfl
theorem c96 : Tryz.prog.cellsOf 96 = 2 := by kernel_rfl
theorem tb_of {W : World} (h3 : Lib.VarReads Tryz.prog W "unicode/utf8.first" Lib.firstData) (h4 : Lib.VarReads Tryz.prog W "unicode/utf8.acceptRanges" Lib.acceptData) : Tb W := by
  refine ⟨fun c hc => ?_, fun i hi => ?_⟩
  · obtain ⟨g, t, cs, fuel, p, hg, hty, hvar, hd⟩ := h3
    obtain rfl := Option.some.inj ((show Tryz.prog.globalNamed "unicode/utf8.first" = some 1 by kernel_rfl).symm.trans hg)
    obtain rfl := Option.some.inj ((show (Tryz.prog.globals[1]?).map (·.type) = some 176 by kernel_rfl).symm.trans hty)
    have hcs := Lib.cells_of_tab (show Tryz.prog.underlying 176 = some (.array 256 5) by kernel_rfl) (show Tryz.prog.underlying 5 = some (.int .u8) by kernel_rfl) c5 c176 hd
    have := World.var?_cell hg hvar c
    rw [this, ← Array.getElem?_toList, hcs]
    simp [Lib.firstTab, hc]
  · obtain ⟨g, t, cs, fuel, p, hg, hty, hvar, hd⟩ := h4
    obtain rfl := Option.some.inj ((show Tryz.prog.globalNamed "unicode/utf8.acceptRanges" = some 2 by kernel_rfl).symm.trans hg)
    obtain rfl := Option.some.inj ((show (Tryz.prog.globals[2]?).map (·.type) = some 180 by kernel_rfl).symm.trans hty)
    obtain ⟨fuel', d, q, hdi, he⟩ := Lib.array_elem (show Tryz.prog.underlying 180 = some (.array 16 179) by kernel_rfl) hd i hi
    simp only [List.getElem?_map, List.getElem?_range hi, Option.map_some, Option.some.injEq] at hdi
    subst hdi
    rw [c179] at he
    have hcs := Lib.ints_of_struct Tryz.underlying179 (fun j f hj => by
      match j, hj with
      | 0, hj => simp at hj; subst hj; exact ⟨by kernel_rfl, rfl, c5⟩
      | 1, hj => simp at hj; subst hj; exact ⟨by kernel_rfl, rfl, c5⟩
      | j + 2, hj => simp at hj) (by rw [c179]; rfl) he
    have e0 := congrArg (·[0]?) hcs
    have e1 := congrArg (·[1]?) hcs
    simp only [List.getElem?_take, List.getElem?_drop] at e0 e1
    constructor
    · rw [World.var?_cell hg hvar (2 * i), ← Array.getElem?_toList]
      simpa [Nat.mul_comm] using e0
    · rw [World.var?_cell hg hvar (2 * i + 1), ← Array.getElem?_toList]
      simpa [Nat.mul_comm] using e1
theorem tn_of {W : World} (h : Lib.VarReads Tryz.prog W "starling/eval.turns" turnsData) : Tn W := by
  have key : ∀ i, i < 7 → W.cell? ⟨0, 2 * i, none⟩ = some (.int .i64 (turnsL.getD (2 * i) 0)) ∧ W.cell? ⟨0, 2 * i + 1, none⟩ = some (.int .i64 (turnsL.getD (2 * i + 1) 0)) := by
    intro i hi
    obtain ⟨g, t, cs, fuel, p, hg, hty, hvar, hd⟩ := h
    obtain rfl := Option.some.inj ((show Tryz.prog.globalNamed "starling/eval.turns" = some 0 by kernel_rfl).symm.trans hg)
    obtain rfl := Option.some.inj ((show (Tryz.prog.globals[0]?).map (·.type) = some 97 by kernel_rfl).symm.trans hty)
    obtain ⟨fuel', d, q, hdi, he⟩ := Lib.array_elem (show Tryz.prog.underlying 97 = some (.array 7 96) by kernel_rfl) hd i hi
    simp only [List.getElem?_map, List.getElem?_range hi, Option.map_some, Option.some.injEq] at hdi
    subst hdi
    rw [c96] at he
    have hcs := Lib.ints_of_struct Tryz.underlying96 (fun j f hj => by
      match j, hj with
      | 0, hj => simp at hj; subst hj; exact ⟨by kernel_rfl, rfl, c3⟩
      | 1, hj => simp at hj; subst hj; exact ⟨by kernel_rfl, rfl, c3⟩
      | j + 2, hj => simp at hj) (by rw [c96]; rfl) he
    have e0 := congrArg (·[0]?) hcs
    have e1 := congrArg (·[1]?) hcs
    simp only [List.getElem?_take, List.getElem?_drop] at e0 e1
    constructor
    · rw [World.var?_cell hg hvar (2 * i), ← Array.getElem?_toList]
      simpa [Nat.mul_comm] using e0
    · rw [World.var?_cell hg hvar (2 * i + 1), ← Array.getElem?_toList]
      simpa [Nat.mul_comm] using e1
  intro j hj
  rcases Nat.mod_two_eq_zero_or_one j with h2 | h2
  · have := (key (j / 2) (by omega)).1
    rwa [show 2 * (j / 2) = j by omega] at this
  · have := (key (j / 2) (by omega)).2
    rwa [show 2 * (j / 2) + 1 = j by omega] at this
theorem tabs_of_laid {W : World} (h : laidMetH Tryz.prog [("math/bits.deBruijn32tab", Rows.laid_math_bits_deBruijn32tab), ("math/bits.deBruijn64tab", Rows.laid_math_bits_deBruijn64tab), ("internal/strconv.uint64pow10", Rows.laid_internal_strconv_uint64pow10), ("unicode/utf8.acceptRanges", Rows.laid_unicode_utf8_acceptRanges), ("starling/lex.signs", Rows.laid_starling_lex_signs), ("starling/eval.turns", Rows.laid_starling_eval_turns), ("unicode/utf8.first", Rows.laid_unicode_utf8_first)] W) : Tt W := by
  rw [MakeChecks.laidMetH_plain _ _ _ (by kernel_rfl)] at h
  have h1 : Lib.VarReads Tryz.prog W "unicode/utf8.first" Rows.laid_unicode_utf8_first := Lib.laidMet.reads h (by simp)
  have h2 : Lib.VarReads Tryz.prog W "unicode/utf8.first" Lib.firstData := by
    unfold Rows.laid_unicode_utf8_first at h1
    rw [Pinned.utf8First_eq] at h1
    exact h1
  exact ⟨tb_of h2 (accept_eq ▸ Lib.laidMet.reads h (by simp)), tn_of (turns_eq ▸ Lib.laidMet.reads h (by simp))⟩
end Go.Proofs.YtjljohmflhmkmaaGreatDoor
