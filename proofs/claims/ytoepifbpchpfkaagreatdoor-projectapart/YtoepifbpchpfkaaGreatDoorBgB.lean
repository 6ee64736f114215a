/-
  What Check of package bag and copied answer.
-/
import Derived.Test.YtoepifbpchpfkaaGreatDoorBgA
namespace Go.Proofs.YtoepifbpchpfkaaGreatDoor
open Go.ChangeShapes Go.WideShapes Go.ChangeAt Go.RowKit
set_option linter.unusedVariables false
set_option linter.unusedSimpArgs false
set_option maxRecDepth 100000
set_option maxHeartbeats 2000000
theorem bagCheck_any (v : Value) (ls : List (List VM.Vl)) (w : World) (h : IsRR w v ls) (hl : ls.length ≤ 9223372036854775806) (hr : ∀ r ∈ ls, r.length ≤ 9223372036854775806) :
    Calls Tryz.prog 27 #[v] w fun e w' => e = .returned (.int .i64 ((BG.chk ls : Nat) : Int)) ∧ Fr w w' := by
  have HE : Hid (BG.chk ls = if 40 < ls.length then 2 else BG.rsE (BG.wd ls) ls) := rfl
  have HW := hideP (fun W (f : Fr w W) => width_any v ls W (h.fr f))
  have HRr := hideP hr
  obtain ⟨a, c, rfl⟩ := h.slice
  obtain ⟨qs, hq, _, hc, hcell, hrow⟩ := h.at
  have HCe := hideP hcell
  have HRo := hideP hrow
  generalize BG.chk ls = R at *
  clear hcell hrow h hr
  by_cases h40 : 40 < ls.length
  · replace HE := hideP (HE.out.trans (if_pos h40))
    have h40' : (40 : Int) < (ls.length : Int) := by omega
    clear HW HRr HCe HRo hq
    generalize ls.length = n at *
    go_enter Tryz.func27, Tryz.ntmps27
    go_wp2_with fail
    go_ret
    exact ⟨by rw [HE.out]; rfl, Fr.refl _⟩
  · replace HE := hideP (HE.out.trans (if_neg h40))
    have h40' : ¬ (40 : Int) < (ls.length : Int) := by omega
    obtain ⟨wd, hwd⟩ : ∃ wd, BG.wd ls = wd := ⟨_, rfl⟩
    rw [hwd] at HE HW
    clear hwd
    go_enter Tryz.func27, Tryz.ntmps27
    go_wp2_with fail
    clear h40'
    go_loopw [4, 5, 11] (fun _ _ iv wr => ∃ i : Nat, iv = .int .i64 i ∧ i ≤ ls.length ∧ R = BG.rsE wd (ls.drop i) ∧ Fr w wr) (fun _ _ iv _ => ls.length - (intOf iv).toNat)
    case atStart => exact ⟨0, rfl, Nat.zero_le _, HE.out, Fr.refl _⟩
    case round =>
      obtain ⟨i, rfl, hi, hR, hfr⟩ := hrel
      by_cases hlt : i < ls.length
      · have hlt' : (i : Int) < (ls.length : Int) := by omega
        obtain ⟨b, o, rfl, hb, c0⟩ := HCe.out i (by omega)
        obtain ⟨h1, h2⟩ := HRo.out i (by omega) hlt
        have d0 := (Below.cell hfr (World.block_lt_of_cell? _ _ c0)).trans c0
        rw [List.drop_eq_getElem_cons hlt] at hR
        have hck := fun W (f : Fr w W) => bcheckRow_any _ ls[i] wd W (h1.fr f) (HRr.out _ (List.getElem_mem hlt))
        have HR : Hid (R = if BG.rE wd ls[i] = 0 then BG.rsE wd (ls.drop (i + 1)) else BG.rE wd ls[i]) := hR
        have HF := hideP hfr
        unfold Sq.v at hck
        obtain ⟨ck, hcke⟩ : ∃ ck, BG.rE wd ls[i] = ck := ⟨_, rfl⟩
        rw [hcke] at HR hck
        have HCk := hideP hck
        clear hR hfr h1 h2 c0 hcke hck
        obtain ⟨qa, hqa⟩ : ∃ qa, (qs[i]'(by omega)).a = qa := ⟨_, rfl⟩
        obtain ⟨qn, hqn⟩ : ∃ qn, (qs[i]'(by omega)).n = qn := ⟨_, rfl⟩
        obtain ⟨qc, hqc⟩ : ∃ qc, (qs[i]'(by omega)).c = qc := ⟨_, rfl⟩
        rw [hqa, hqn, hqc] at d0 HCk
        clear hqa hqn hqc
        go_wp2_with fail
        refine (HW.out _ HF.out).mono ?_
        rintro _ _ ⟨rfl, rfl⟩
        go_wp2_with fail
        refine (HCk.out _ HF.out).mono ?_
        rintro _ w2 ⟨rfl, f2⟩
        have F2 := hideP (HF.out.trans f2)
        clear f2 HCk
        by_cases h0 : ck = 0
        · subst h0
          have HR2 := hideP (HR.out.trans (if_pos rfl))
          clear HR
          go_wp2_with fail
          go_roundw
          case rel => exact ⟨i + 1, by go_num, by omega, HR2.out, F2.out⟩
          case measure => simp [intOf]; omega
        · have HR2 := hideP (HR.out.trans (if_neg h0))
          have e1 : ((ck : Int) != 0) = true := by simp; omega
          have e2 : ¬ ((ck : Int) = 0) := by omega
          clear HR h0
          go_wp2_with fail
          go_ret
          exact ⟨by rw [HR2.out]; rfl, F2.out⟩
      · obtain rfl : i = ls.length := by omega
        have HZ := hideP (show R = 0 by rw [hR, List.drop_length]; rfl)
        have HF := hideP hfr
        clear hR hfr
        go_wp2_with fail
        go_ret
        exact ⟨by rw [HZ.out]; rfl, HF.out⟩
end Go.Proofs.YtoepifbpchpfkaaGreatDoor
