/-
  SameRows of two lists of rows that are alike.
-/
import Derived.Test.YtoepifbpchpfkaaGreatDoorSame
namespace Go.Proofs.YtoepifbpchpfkaaGreatDoor
open Go.ChangeShapes Go.WideShapes Go.ChangeAt Go.RowKit
set_option linter.unusedVariables false
set_option linter.unusedSimpArgs false
set_option maxRecDepth 100000
set_option maxHeartbeats 2000000
theorem c2_after {w w' : World} {a b : Addr} {u v : Value} (f : Fr w w') (h : w.cell? a = some u ∧ w.cell? b = some v) : w'.cell? a = some u ∧ w'.cell? b = some v :=
  ⟨(Below.cell f (World.block_lt_of_cell? _ _ h.1)).trans h.1, (Below.cell f (World.block_lt_of_cell? _ _ h.2)).trans h.2⟩
theorem sameRows_eq (v u : Value) (ls : List (List VM.Vl)) (w : World) (hv : IsRR w v ls) (hu : IsRR w u ls) (hl : ls.length ≤ 9223372036854775806) (hr : ∀ r ∈ ls, r.length ≤ 9223372036854775806) :
    Calls Tryz.prog 29 #[v, u] w fun e w' => e = .returned (.bool true) ∧ Fr w w' := by
  have HRr := hideP hr
  obtain ⟨a, c, rfl⟩ := hv.slice
  obtain ⟨a', c', rfl⟩ := hu.slice
  obtain ⟨qs, hq, _, hc, hcell, hrow⟩ := hv.at
  obtain ⟨ps, hp, _, hc', hcell', hrow'⟩ := hu.at
  have HCe := hideP hcell
  have HRo := hideP hrow
  have HCe2 := hideP hcell'
  have HRo2 := hideP hrow'
  clear hcell hrow hcell' hrow' hv hu hr
  go_enter Tryz.func29, Tryz.ntmps29
  go_wp2_with fail
  go_loopw [5] (fun iv wr => ∃ i : Nat, iv = .int .i64 i ∧ i ≤ ls.length ∧ Fr w wr) (fun iv _ => ls.length - (intOf iv).toNat)
  case atStart => exact ⟨0, rfl, Nat.zero_le _, Fr.refl _⟩
  case round =>
    obtain ⟨i, rfl, hi, hfr⟩ := hrel
    by_cases hlt : i < ls.length
    · have hlt' : (i : Int) < (ls.length : Int) := by omega
      obtain ⟨b, o, rfl, hb, c0⟩ := HCe.out i (by omega)
      obtain ⟨b', o', rfl, hb', c9⟩ := HCe2.out i (by omega)
      have h1 := (HRo.out i (by omega) hlt).1
      have h2 := (HRo2.out i (by omega) hlt).1
      have hck := fun W (f : Fr w W) => sameRow_eq _ _ ls[i] W (rowL_of (h1.fr f)) (rowL_of (h2.fr f)) (by have := HRr.out _ (List.getElem_mem hlt); omega)
      unfold Sq.v at hck
      have HS := hideP (c2_after hfr ⟨c0, c9⟩)
      have HF := hideP hfr
      obtain ⟨q, hqq⟩ : ∃ q, (qs[i]'(by omega)) = q := ⟨_, rfl⟩
      obtain ⟨p, hpp⟩ : ∃ p, (ps[i]'(by omega)) = p := ⟨_, rfl⟩
      rw [hqq, hpp] at HS hck
      obtain ⟨qa, qn, qc⟩ := q
      obtain ⟨pa, pn, pc⟩ := p
      simp only at HS hck
      have HCk := hideP hck
      clear hfr h1 h2 c0 c9 hck hqq hpp
      have hz := Fr.drew (Fr.refl wr)
      go_upto_region 6 with fail
      go_region_held3 (fun W => W.cell? ⟨b, o + i, none⟩ = some (.slice qa qn qc) ∧ W.cell? ⟨b', o' + i, none⟩ = some (.slice pa pn pc)) (first | exact HS.out | exact c2_after hz HS.out | exact c2_after hf9 HS.out) (first
        | (go_at_call 49; refine (HCk.out _ (HF.out.trans hz)).mono ?_; rintro _ w3 ⟨rfl, f3⟩; have hf9 := hz.trans f3; clear f3))
      all_goals (
        have F9 := hideP (HF.out.trans hf9)
        clear hf9 hz HS
        go_wp2_with fail
        go_roundw
        case rel => exact ⟨i + 1, by go_num, by omega, F9.out⟩
        case measure => simp [intOf]; omega)
    · obtain rfl : i = ls.length := by omega
      have HF := hideP hfr
      clear hfr
      go_wp2_with fail
      go_ret
      exact ⟨rfl, HF.out⟩
end Go.Proofs.YtoepifbpchpfkaaGreatDoor
