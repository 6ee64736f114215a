/-
  What copied of package bag answers: the same rows in memory of their own.
-/
import Derived.Test.YtoepifbpchpfkaaGreatDoorBgE
namespace Go.Proofs.YtoepifbpchpfkaaGreatDoor
open Go.ChangeShapes Go.WideShapes Go.ChangeAt Go.RowKit
set_option linter.unusedVariables false
set_option linter.unusedSimpArgs false
set_option maxRecDepth 100000
set_option maxHeartbeats 2000000
theorem Tryz.infoVs9 : (Tryz.prog.info? 49).map (fun i => (i.zero, i.size, i.bytes)) = some (some (.slice none 0 0), 1, 24) := by kernel_rfl
/-- rows of the call's own, each in memory of its own -/
def OwnRR (B : Nat) (w : World) (v : Value) (ls : List (List VM.Vl)) : Prop := ∃ (G : Nat) (arr : Array Value) (qs : List Sq), v = .slice (some ⟨G, 0, none⟩) ls.length ls.length ∧ B ≤ G ∧ Blk w G arr 49 ∧ (qs.length = ls.length ∧ arr.size = ls.length) ∧ (∀ j (h : j < qs.length), arr[j]? = some (.slice qs[j].a qs[j].n qs[j].c)) ∧ ∀ j (h1 : j < qs.length) (h2 : j < ls.length), w.ownsRow B 33 3 qs[j].v ls[j].length (flat cdV ls[j])
theorem OwnRR.rows {B : Nat} {w : World} {v : Value} {ls : List (List VM.Vl)} (h : OwnRR B w v ls) : IsRR w v ls := by
  obtain ⟨G, arr, qs, rfl, _, hb, ⟨hq, _⟩, hc, ho⟩ := h
  refine ⟨qs, ⟨_, ls.length, by rw [hq], by omega, .inr ⟨G, 0, rfl, hb.lt, fun j u hj => ?_⟩⟩, hq, fun i h1 h2 => isL_own (ho i h1 h2)⟩
  have hjl : j < qs.length := by
    have := (List.getElem?_eq_some_iff.1 hj).1
    rw [flat_len] at this
    simpa [cdS] using this
  have h2 := flat_get cdS qs j 0 hjl (by decide)
  have e : j * cdS.k + 0 = j := by show j * 1 + 0 = j; omega
  rw [e] at h2
  rw [h2] at hj
  have hu : u = .slice qs[j].a qs[j].n qs[j].c := by
    simp [cdS] at hj
    exact hj.symm
  rw [hu, Nat.zero_add]
  exact hb.cell j (hc j hjl)
theorem copied_any (v : Value) (ls : List (List VM.Vl)) (w : World) (h : IsRR w v ls) (hl : ls.length ≤ 1000) (hr : ∀ r ∈ ls, r.length ≤ 100) :
    Calls Tryz.prog 68 #[v] w fun e w' => (∃ u, e = .returned u ∧ OwnRR w.heap.size w' u ls) ∧ Fr w w' := by
  have HRr := hideP hr
  obtain ⟨a, c, rfl⟩ := h.slice
  obtain ⟨qs, hq, _, hc, hcell, hrow⟩ := h.at
  have HCe := hideP hcell
  have HRo := hideP hrow
  clear hcell hrow h hr
  obtain ⟨i0, hi0, hz0, hz1, hz2⟩ := info_parts Tryz.infoVs9
  obtain ⟨mc, hmc⟩ : ∃ mc, madeCells (Value.slice none 0 0).cells (ls.length * 1) = mc := ⟨_, rfl⟩
  have hms : mc.size = ls.length * 1 := by rw [← hmc]; exact size_madeCells _ _
  have hmk : ∀ W : World, (Instr.makeSlice 22 (.int .i64 (ls.length : Int)) (.int .i64 (ls.length : Int))).run Tryz.prog W = .ok (.slice (some ⟨W.heap.size, 0, none⟩) ls.length ls.length) (W.alloc (.cells mc 49)) := by
    intro W
    have hr := run_make (P := Tryz.prog) W 22 49 i0 _ Tryz.underlying22 hi0 hz0 .i64 .i64 (ls.length : Int) (ls.length : Int) (by omega) (by omega) (by rw [hz2]; omega) (by omega)
    simp only [hz1] at hr
    rw [show (ls.length : Int).toNat * 1 = ls.length * 1 by omega, hmc] at hr
    simpa using hr
  have HB0 := hideP (Blk.new w mc 49)
  have F0 := hideP ((Fr.refl w).alloc (.cells mc 49))
  have HMs := hideP hms
  clear hms hmc
  go_enter Tryz.func68, Tryz.ntmps68
  go_wp2_with fail
  clear hmk
  generalize w.alloc (.cells mc 49) = W0 at *
  go_loopw [4, 5, 11] (fun _ _ iv wr => ∃ (i : Nat) (arr : Array Value) (ps : List Sq), iv = .int .i64 i ∧ i ≤ ls.length ∧ Blk wr w.heap.size arr 49 ∧ arr.size = ls.length ∧ ps.length = i ∧ (∀ j (h : j < ps.length), arr[j]? = some (.slice ps[j].a ps[j].n ps[j].c)) ∧ (∀ j (h1 : j < ps.length) (h2 : j < ls.length), wr.ownsRow w.heap.size 33 3 ps[j].v ls[j].length (flat cdV ls[j])) ∧ Fr w wr) (fun _ _ iv _ => ls.length - (intOf iv).toNat)
  case atStart => exact ⟨0, mc, [], rfl, Nat.zero_le _, HB0.out, by rw [HMs.out]; omega, rfl, fun j h => by simp at h, fun j h => by simp at h, F0.out⟩
  case round =>
    obtain ⟨i, arr, ps, rfl, hi, hb, has, hps, harr, hown, hfr⟩ := hrel
    by_cases hlt : i < ls.length
    · have hlt' : (i : Int) < (ls.length : Int) := by omega
      obtain ⟨b, o, rfl, hbb, c0⟩ := HCe.out i (by omega)
      obtain ⟨h1, h2⟩ := HRo.out i (by omega) hlt
      have d0 := (Below.cell hfr (World.block_lt_of_cell? _ _ c0)).trans c0
      have HCl := hideP (cloneV_any _ ls[i] wr (h1.fr hfr) (HRr.out _ (List.getElem_mem hlt)))
      obtain ⟨q, hqq⟩ : ∃ q, (qs[i]'(by omega)) = q := ⟨_, rfl⟩
      rw [hqq] at HCl d0
      obtain ⟨qa, qn, qc⟩ := q
      simp only [Sq.v] at HCl d0
      have HF := hideP hfr
      have HBk := hideP hb
      have HAs := hideP has
      have HPs := hideP hps
      have HAr := hideP harr
      have HOw := hideP hown
      have hle := hfr.size
      clear hfr hb has hps harr hown h1 h2 c0 hqq
      go_wp2_with fail
      refine HCl.out.mono ?_
      rintro _ w2 ⟨v2, rfl, own2, f2⟩
      obtain ⟨va, vc, rfl⟩ := own_slice own2
      have HB2 := hideP (HBk.out.fr f2)
      obtain ⟨u9, hu9⟩ : ∃ u9, arr[i]? = some u9 := ⟨_, Array.getElem?_eq_getElem (by rw [HAs.out]; exact hlt)⟩
      have y0 := HB2.out.cell i hu9
      have y1 := HB2.out.frozen i
      have HO2 := hideP (own_low own2 hle)
      have HF2 := hideP (HF.out.trans f2)
      have HOw2 := hideP (fun j h1 h2 => own_fr (HOw.out j h1 h2) f2)
      clear f2 own2 HCl hu9
      obtain ⟨rl, hrl⟩ : ∃ rl, (ls[i]).length = rl := ⟨_, rfl⟩
      have HRl := hideP hrl
      rw [hrl]
      clear hrl
      go_wp2_with fail
      have hb3 := HB2.out.set i (.slice va rl vc)
      have keep : ∀ {n : Nat} {x : Value} {xs : List Value}, w2.ownsRow w.heap.size 33 3 x n xs → (w2.setCell ⟨w.heap.size, i, none⟩ (.slice va rl vc)).ownsRow w.heap.size 33 3 x n xs := by
        intro n x xs ho
        refine own_keep ho fun k cur hk hkc => ?_
        have hne : w.heap.size ≠ k := by
          rintro rfl
          have := HB2.out
          unfold Blk at this
          rw [this] at hkc
          injection hkc with hkc
          injection hkc with _ hkc
          exact absurd hkc (by decide)
        simp only [World.setCell, Array.getElem?_modify, if_neg hne]
      have F3 := hideP (HF2.out.setC w.heap.size i (.slice va rl vc) (Nat.le_refl _))
      go_roundw
      case rel =>
        refine ⟨i + 1, _, ps ++ [⟨va, rl, vc⟩], by go_num, by omega, hb3, by simp [HAs.out], by rw [List.length_append, HPs.out]; rfl, fun j hj => ?_, fun j hj1 hj2 => ?_, F3.out⟩
        · by_cases hji : j < ps.length
          · rw [List.getElem_append_left hji]
            rw [Array.getElem?_setIfInBounds_ne (by have := HPs.out; omega)]
            exact HAr.out j hji
          · have e : j = i := by rw [List.length_append, HPs.out] at hj; simp at hj; have := HPs.out; omega
            subst e
            rw [List.getElem_append_right (by have := HPs.out; omega)]
            simp [HPs.out, HAs.out, hlt]
        · by_cases hji : j < ps.length
          · have e : (ps ++ [(⟨va, rl, vc⟩ : Sq)])[j] = ps[j] := List.getElem_append_left hji
            rw [e]
            exact keep (HOw2.out j hji hj2)
          · have e : j = i := by rw [List.length_append, HPs.out] at hj1; simp at hj1; have := HPs.out; omega
            subst e
            have e : (ps ++ [(⟨va, rl, vc⟩ : Sq)])[j] = ⟨va, rl, vc⟩ := by rw [List.getElem_append_right (by have := HPs.out; omega)]; simp [HPs.out]
            rw [e]
            have := keep HO2.out
            rw [HRl.out] at this ⊢
            exact this
      case measure => simp [intOf]; omega
    · obtain rfl : i = ls.length := by omega
      have HX := hideP (show OwnRR w.heap.size wr (.slice (some ⟨w.heap.size, 0, none⟩) ls.length ls.length) ls from ⟨w.heap.size, arr, ps, rfl, Nat.le_refl _, hb, ⟨hps, has⟩, harr, hown⟩)
      have HF := hideP hfr
      clear hb has hps harr hown hfr
      go_wp2_with fail
      go_ret
      exact ⟨⟨_, rfl, HX.out⟩, HF.out⟩
end Go.Proofs.YtoepifbpchpfkaaGreatDoor
