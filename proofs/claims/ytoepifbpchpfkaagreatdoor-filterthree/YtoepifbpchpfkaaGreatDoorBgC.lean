/-
  What the document's RowsCheck answers.
-/
import Derived.Test.YtoepifbpchpfkaaGreatDoorBgB
import Derived.Test.YtoepifbpchpfkaaGreatDoorGpH
namespace Go.Proofs.YtoepifbpchpfkaaGreatDoor
open Go.ChangeShapes Go.WideShapes Go.ChangeAt Go.RowKit
set_option linter.unusedVariables false
set_option linter.unusedSimpArgs false
set_option maxRecDepth 100000
set_option maxHeartbeats 2000000
theorem rowL_of {W : World} {v : Value} {l : List VM.Vl} (h : IsL cdV W v l) : IsRow W v l := by
  obtain ⟨a, cap, rfl, hc, h0 | ⟨b, o, rfl, hb, hat⟩⟩ := h
  · exact ⟨a, cap, rfl, Or.inl h0⟩
  · exact ⟨_, cap, rfl, Or.inr ⟨b, o, rfl, hb, fun i hi => hat.v3 i hi⟩⟩
theorem rowsCheck_any (v : Value) (ls : List (List VM.Vl)) (w : World) (h : IsRR w v ls) (hl : ls.length ≤ 9223372036854775806) (hr : ∀ r ∈ ls, r.length ≤ 9223372036854775806) :
    Calls Tryz.prog 28 #[v] w fun e w' => e = .returned (.int .i64 ((BG.chk ls : Nat) : Int)) ∧ Fr w w' := by
  have HE : Hid (BG.chk ls = if 40 < ls.length then 2 else BG.rsE (BG.wd ls) ls) := rfl
  have HRr := hideP hr
  have hwd0 : ∀ (h0 : 0 < ls.length), BG.wd ls = (ls[0]'h0).length := by
    intro h0
    unfold BG.wd
    cases ls with
    | nil => simp at h0
    | cons r t => rfl
  have HW0 := hideP hwd0
  obtain ⟨a, c, rfl⟩ := h.slice
  obtain ⟨qs, hq, _, hc, hcell, hrow⟩ := h.at
  have HCe := hideP hcell
  have HRo := hideP hrow
  generalize BG.chk ls = R at *
  clear hcell hrow h hr hwd0
  by_cases h40 : 40 < ls.length
  · replace HE := hideP (HE.out.trans (if_pos h40))
    have h40' : (40 : Int) < (ls.length : Int) := by omega
    clear HRr HCe HRo hq HW0
    generalize ls.length = n at *
    go_enter Tryz.func28, Tryz.ntmps28
    go_wp2_with fail
    go_ret
    exact ⟨by rw [HE.out]; rfl, Fr.refl _⟩
  · replace HE := hideP (HE.out.trans (if_neg h40))
    have h40' : ¬ (40 : Int) < (ls.length : Int) := by omega
    obtain ⟨wd, hwd⟩ : ∃ wd, BG.wd ls = wd := ⟨_, rfl⟩
    rw [hwd] at HE HW0
    clear hwd
    go_enter Tryz.func28, Tryz.ntmps28
    go_wp2_with fail
    clear h40'
    go_loopw [3, 4] (fun iv _ wr => ∃ i : Nat, iv = .int .i64 i ∧ i ≤ ls.length ∧ R = BG.rsE wd (ls.drop i) ∧ Fr w wr) (fun iv _ _ => ls.length - (intOf iv).toNat)
    case atStart => exact ⟨0, rfl, Nat.zero_le _, HE.out, Fr.refl _⟩
    case round =>
      obtain ⟨i, rfl, hi, hR, hfr⟩ := hrel
      by_cases hlt : i < ls.length
      · have hlt' : (i : Int) < (ls.length : Int) := by omega
        have hl0 : (0 : Int) < (ls.length : Int) := by omega
        obtain ⟨b, o, rfl, hb, c0⟩ := HCe.out i (by omega)
        obtain ⟨b', o', e9, hb', c9⟩ := HCe.out 0 (by omega)
        cases e9
        obtain ⟨h1, h2⟩ := HRo.out i (by omega) hlt
        have h3 := (HRo.out 0 (by omega) (by omega)).2
        have hw0 := HW0.out (by omega)
        have d0 := (Below.cell hfr (World.block_lt_of_cell? _ _ c0)).trans c0
        have d9 := (Below.cell hfr (World.block_lt_of_cell? _ _ c9)).trans c9
        rw [Nat.add_zero] at d9
        rw [List.drop_eq_getElem_cons hlt] at hR
        have HR : Hid (R = if BG.rE wd ls[i] = 0 then BG.rsE wd (ls.drop (i + 1)) else BG.rE wd ls[i]) := hR
        have HRe : Hid (BG.rE wd ls[i] = if 8 < (ls[i]).length then 2 else if (ls[i]).length ≠ wd then 1 else VM.chkAll ls[i]) := rfl
        have hlr := HRr.out _ (List.getElem_mem hlt)
        have hck := fun W (f : Fr w W) => rcheckAll_any _ ls[i] W (rowL_of (h1.fr f)) (by omega)
        unfold Sq.v at hck
        have HF := hideP hfr
        rw [h2] at d0 hck
        rw [h3, ← hw0] at d9
        obtain ⟨rl, hrl⟩ : ∃ rl, (ls[i]).length = rl := ⟨_, rfl⟩
        obtain ⟨rv, hrv⟩ : ∃ rv, VM.chkAll ls[i] = rv := ⟨_, rfl⟩
        obtain ⟨re, hre⟩ : ∃ re, BG.rE wd ls[i] = re := ⟨_, rfl⟩
        rw [hrl] at d0 hck HRe
        rw [hrv] at hck HRe
        rw [hre] at HR HRe
        obtain ⟨qa, hqa⟩ : ∃ qa, (qs[i]'(by omega)).a = qa := ⟨_, rfl⟩
        obtain ⟨qc, hqc⟩ : ∃ qc, (qs[i]'(by omega)).c = qc := ⟨_, rfl⟩
        obtain ⟨pa, hpa⟩ : ∃ pa, (qs[0]'(by omega)).a = pa := ⟨_, rfl⟩
        obtain ⟨pc, hpc⟩ : ∃ pc, (qs[0]'(by omega)).c = pc := ⟨_, rfl⟩
        rw [hqa, hqc] at d0 hck
        rw [hpa, hpc] at d9
        have HCk := hideP hck
        clear hR hfr h1 h2 h3 hw0 c0 c9 hck hlr hrl hrv hre hqa hqc hpa hpc
        by_cases h8 : 8 < rl
        · have HR2 := hideP (show R = 2 by rw [HR.out, HRe.out, if_pos h8]; rfl)
          have h8' : (8 : Int) < (rl : Int) := by omega
          clear HR HRe h8
          go_wp2_with fail
          go_ret
          exact ⟨by rw [HR2.out]; rfl, HF.out⟩
        · replace HRe := hideP (HRe.out.trans (if_neg h8))
          have h8' : ¬ (8 : Int) < (rl : Int) := by omega
          have HF2 := hideP (HF.out.drew)
          have g0 := d0
          by_cases hw : rl = wd
          · subst hw
            replace HRe := hideP (HRe.out.trans (if_neg (by simp)))
            go_upto_region 8 with fail
            go_region
            all_goals (
              go_wp2_with fail
              refine (HCk.out _ HF2.out).mono ?_
              rintro _ w2 ⟨rfl, f2⟩
              have F2 := hideP (HF2.out.trans f2)
              clear f2 HCk
              by_cases h0 : rv = 0
              · subst h0
                have HR2 := hideP (show R = BG.rsE rl (ls.drop (i + 1)) by rw [HR.out, HRe.out, if_pos rfl])
                clear HR HRe
                go_wp2_with fail
                go_roundw
                case rel => exact ⟨i + 1, by go_num, by omega, HR2.out, F2.out⟩
                case measure => simp [intOf]; omega
              · have HR2 := hideP (show R = rv by rw [HR.out, HRe.out, if_neg h0])
                have e1 : ((rv : Int) != 0) = true := by simp; omega
                have e2 : ¬ ((rv : Int) = 0) := by omega
                clear HR HRe h0
                go_wp2_with fail
                go_ret
                exact ⟨by rw [HR2.out]; rfl, F2.out⟩)
          · have HR2 := hideP (show R = 1 by rw [HR.out, HRe.out, if_pos hw]; rfl)
            have q1 : ((rl : Int) != (wd : Int)) = true := by simp; omega
            have q2 : ¬ (rl : Int) = (wd : Int) := by omega
            clear HR HRe hw
            go_upto_region 8 with fail
            go_region
            all_goals (
              go_wp2_with fail
              go_ret
              exact ⟨by rw [HR2.out]; rfl, HF2.out⟩)
      · obtain rfl : i = ls.length := by omega
        have HZ := hideP (show R = 0 by rw [hR, List.drop_length]; rfl)
        have HF := hideP hfr
        clear hR hfr
        go_wp2_with fail
        go_ret
        exact ⟨by rw [HZ.out]; rfl, HF.out⟩
end Go.Proofs.YtoepifbpchpfkaaGreatDoor
