/-
  What belongs together: BgA, BgB, BgC, Same, BgD, BgE, BgF, BgG.
-/
import Derived.Test.YtbcfdhimngoplaaGreatDoorEvB
import Derived.Test.YtbcfdhimngoplaaGreatDoorGpA
import Derived.Test.YtbcfdhimngoplaaGreatDoorGpH
namespace Go.Proofs.YtbcfdhimngoplaaGreatDoor
open Go.ChangeShapes Go.WideShapes Go.ChangeAt Go.RowKit
set_option linter.unusedVariables false
set_option linter.unusedSimpArgs false
set_option maxRecDepth 100000
set_option maxHeartbeats 2000000
structure Sq where
 a : Option Addr
 n : Nat
 c : Nat
def Sq.v (x : Sq) : Value := .slice x.a x.n x.c
def cdS : Cd Sq := ⟨1, fun x => [.slice x.a x.n x.c], by decide, fun _ => rfl, fun x u h => by simp at h; subst h; rfl⟩
theorem At.s1 {w : World} {b o : Nat} {l : List Sq} (h : At cdS w b o l) (i : Nat) (hi : i < l.length) : w.cell? ⟨b, o + i, none⟩ = some (.slice l[i].a l[i].n l[i].c) :=
 h i _ (by have := flat_get cdS l i 0 hi (by decide); simpa [cdS] using this)
def IsRR (w : World) (v : Value) (ls : List (List VM.Vl)) : Prop := ∃ qs : List Sq, IsL cdS w v qs ∧ qs.length = ls.length ∧ ∀ i (h1 : i < qs.length) (h2 : i < ls.length), IsL cdV w qs[i].v ls[i]
theorem IsRR.fr {w w' : World} {v : Value} {ls : List (List VM.Vl)} (h : IsRR w v ls) (f : Fr w w') : IsRR w' v ls := by
 obtain ⟨qs, h1, h2, h3⟩ := h
 exact ⟨qs, h1.fr f, h2, fun i a b => (h3 i a b).fr f⟩
theorem IsRR.slice {w : World} {v : Value} {ls : List (List VM.Vl)} (h : IsRR w v ls) : ∃ a c, v = .slice a ls.length c := by
 obtain ⟨qs, ⟨a, c, h1, _⟩, h2, _⟩ := h
 exact ⟨a, c, by rw [h1, h2]⟩
theorem IsRR.at {w : World} {a : Option Addr} {n c : Nat} {ls : List (List VM.Vl)} (h : IsRR w (.slice a n c) ls) : ∃ qs : List Sq, qs.length = ls.length ∧ n = ls.length ∧ n ≤ c ∧ (∀ i (h1 : i < qs.length), ∃ b o, a = some ⟨b, o, none⟩ ∧ b < w.heap.size ∧ w.cell? ⟨b, o + i, none⟩ = some (.slice qs[i].a qs[i].n qs[i].c)) ∧ ∀ i (h1 : i < qs.length) (h2 : i < ls.length), IsL cdV w qs[i].v ls[i] ∧ qs[i].n = ls[i].length := by
 obtain ⟨qs, ⟨a', c', e, hc, hcs⟩, h2, h3⟩ := h
 cases e
 refine ⟨qs, h2, h2, hc, fun i hi => ?_, fun i h4 h5 => ⟨h3 i h4 h5, ?_⟩⟩
 ·
  rcases hcs with h | ⟨b, o, ha, hb, hat⟩
  · rw [h] at hi; simp at hi
  · exact ⟨b, o, ha, hb, hat.s1 i hi⟩
 ·
  obtain ⟨a1, c1, e1, _⟩ := h3 i h4 h5
  unfold Sq.v at e1
  injection e1
namespace BG
open VM
def wd (ls : List (List Vl)) : Nat := (ls.headD []).length
def rE (wd : Nat) (r : List Vl) : Nat := if 8 < r.length then 2 else if r.length ≠ wd then 1 else chkAll r
def rsE (wd : Nat) : List (List Vl) → Nat
 | [] => 0
 | r :: t => if rE wd r = 0 then rsE wd t else rE wd r
def chk (ls : List (List Vl)) : Nat := if 40 < ls.length then 2 else rsE (wd ls) ls
end BG
theorem width_any (v : Value) (ls : List (List VM.Vl)) (w : World) (h : IsRR w v ls) : Calls Tryz.prog 48 #[v] w fun e w' => e = .returned (.int .i64 ((BG.wd ls : Nat) : Int)) ∧ w' = w := by
 obtain ⟨a, c, rfl⟩ := h.slice
 obtain ⟨qs, hq, _, hc, hcell, hrow⟩ := h.at
 by_cases h0 : ls.length = 0
 ·
  have hl : ls = [] := List.length_eq_zero_iff.1 h0
  have hw : BG.wd ls = 0 := by rw [hl]; rfl
  rw [hw, h0]
  clear hcell hrow
  go_enter Tryz.func48, Tryz.ntmps48
  go_wp2_with fail
  go_ret
  exact ⟨rfl, rfl⟩
 ·
  obtain ⟨b, o, rfl, hb, c0⟩ := hcell 0 (by omega)
  obtain ⟨h1, h2⟩ := hrow 0 (by omega) (by omega)
  have hw : BG.wd ls = qs[0].n := by
   rw [h2]
   unfold BG.wd
   cases ls with
   | nil => simp at h0
   | cons r t => rfl
  rw [hw]
  rw [Nat.add_zero] at c0
  obtain ⟨qa, hqa⟩ : ∃ qa, qs[0].a = qa := ⟨_, rfl⟩
  obtain ⟨qn, hqn⟩ : ∃ qn, qs[0].n = qn := ⟨_, rfl⟩
  obtain ⟨qc, hqc⟩ : ∃ qc, qs[0].c = qc := ⟨_, rfl⟩
  rw [hqa, hqn, hqc] at c0
  rw [hqn]
  clear hcell hrow h1 h2 hw hqa hqn hqc h
  have hq9 : 0 < ls.length := by omega
  clear h0 hq
  generalize ls.length = n at *
  have q0 : ((n : Int) == 0) = false := beq_false_of_ne (by omega)
  have q1 : ¬ ((n : Int) = 0) := by omega
  have q2 : (0 : Int) < (n : Int) := by omega
  go_enter Tryz.func48, Tryz.ntmps48
  go_wp2_with fail
  go_ret
  exact ⟨rfl, rfl⟩
theorem bcheckRow_any (v : Value) (r : List VM.Vl) (wd : Nat) (w : World) (h : IsL cdV w v r) (hl : r.length ≤ 9223372036854775806) : Calls Tryz.prog 58 #[v, .int .i64 ((wd : Nat) : Int)] w fun e w' => e = .returned (.int .i64 ((BG.rE wd r : Nat) : Int)) ∧ Fr w w' := by
 have HE : Hid (BG.rE wd r = if 8 < r.length then 2 else if r.length ≠ wd then 1 else VM.chkAll r) := rfl
 generalize BG.rE wd r = R at *
 obtain ⟨a, cap, rfl, hcap, hcs⟩ := h
 have HC := hideP hcs
 clear hcs
 by_cases h8 : 8 < r.length
 ·
  replace HE := hideP (HE.out.trans (if_pos h8))
  have h8' : (8 : Int) < (r.length : Int) := by omega
  generalize r.length = n at *
  go_enter Tryz.func58, Tryz.ntmps58
  go_wp2_with fail
  go_ret
  exact ⟨by rw [HE.out]; rfl, Fr.refl _⟩
 ·
  replace HE := hideP (HE.out.trans (if_neg h8))
  have h8' : ¬ (8 : Int) < (r.length : Int) := by omega
  by_cases hw : r.length = wd
  ·
   subst hw
   replace HE := hideP (HE.out.trans (if_neg (by simp)))
   go_enter Tryz.func58, Tryz.ntmps58
   go_wp2_with fail
   clear h8'
   go_loopw [6, 7, 19] (fun _ _ iv wr => ∃ i : Nat, iv = .int .i64 i ∧ i ≤ r.length ∧ R = VM.chkAll (r.drop i) ∧ Fr w wr) (fun _ _ iv _ => r.length - (intOf iv).toNat)
   case atStart => exact ⟨0, rfl, Nat.zero_le _, HE.out, Fr.refl _⟩
   case round =>
    obtain ⟨i, rfl, hi, hR, hfr⟩ := hrel
    by_cases hlt : i < r.length
    ·
     have hlt' : (i : Int) < (r.length : Int) := by omega
     obtain ⟨b, o, rfl, hb, hat⟩ : ∃ b o, a = some ⟨b, o, none⟩ ∧ b < w.heap.size ∧ At cdV w b o r := by
      rcases HC.out with h | h
      · rw [h] at hlt; simp at hlt
      · exact h
     obtain ⟨d0, d1, d2⟩ := (hat.fr hb hfr).v3 i hlt
     rw [List.drop_eq_getElem_cons hlt] at hR
     have hck := fun W => check_any r[i].k r[i].n r[i].s W
     generalize r[i] = x at *
     obtain ⟨k, n, s⟩ := x
     simp only at d0 d1 d2 hck
     have HR : Hid (R = if VM.chk ⟨k, n, s⟩ = 0 then VM.chkAll (r.drop (i + 1)) else VM.chk ⟨k, n, s⟩) := hR
     have HF := hideP hfr
     clear hR hfr hat
     generalize VM.chk ⟨k, n, s⟩ = ck at *
     go_wp2_with fail
     refine (hck _).mono ?_
     rintro _ w2 ⟨rfl, f2⟩
     have F2 := hideP (HF.out.trans (((Fr.refl wr).alloc (.cells #[.int .i64 k, .int .i64 n, .string s] 56)).trans f2))
     clear f2 hck
     by_cases h0 : ck = 0
     ·
      subst h0
      have HR2 := hideP (HR.out.trans (if_pos rfl))
      clear HR
      go_wp2_with fail
      go_roundw
      case rel => exact ⟨i + 1, by go_num, by omega, HR2.out, F2.out⟩
      case measure => simp [intOf]; omega
     ·
      have HR2 := hideP (HR.out.trans (if_neg h0))
      have e1 : ((ck : Int) != 0) = true := by simp; omega
      have e2 : ¬ ((ck : Int) = 0) := by omega
      clear HR h0
      go_wp2_with fail
      go_ret
      exact ⟨by rw [HR2.out]; rfl, F2.out⟩
    ·
     obtain rfl : i = r.length := by omega
     have HZ := hideP (show R = 0 by rw [hR, List.drop_length]; rfl)
     have HF := hideP hfr
     clear hR hfr
     go_wp2_with fail
     go_ret
     exact ⟨by rw [HZ.out]; rfl, HF.out⟩
  ·
   replace HE := hideP (HE.out.trans (if_pos hw))
   have q1 : ((r.length : Int) != (wd : Int)) = true := by simp; omega
   have q2 : ¬ (r.length : Int) = (wd : Int) := by omega
   generalize r.length = n at *
   go_enter Tryz.func58, Tryz.ntmps58
   go_wp2_with fail
   go_ret
   exact ⟨by rw [HE.out]; rfl, Fr.refl _⟩
end Go.Proofs.YtbcfdhimngoplaaGreatDoor
namespace Go.Proofs.YtbcfdhimngoplaaGreatDoor
open Go.ChangeShapes Go.WideShapes Go.ChangeAt Go.RowKit
set_option linter.unusedVariables false
set_option linter.unusedSimpArgs false
set_option maxRecDepth 100000
set_option maxHeartbeats 2000000
theorem bagCheck_any (v : Value) (ls : List (List VM.Vl)) (w : World) (h : IsRR w v ls) (hl : ls.length ≤ 9223372036854775806) (hr : ∀ r ∈ ls, r.length ≤ 9223372036854775806) :
  Calls Tryz.prog 25 #[v] w fun e w' => e = .returned (.int .i64 ((BG.chk ls : Nat) : Int)) ∧ Fr w w' := by
 have HE : Hid (BG.chk ls = if 40 < ls.length then 2 else BG.rsE (BG.wd ls) ls) := rfl
 have HW := hideP (fun W (f : Fr w W) => width_any v ls W (h.fr f))
 have HRr := hideP hr
 obtain ⟨a, c, rfl⟩ := h.slice
 obtain ⟨qs, hq, _, hc, hcell, hrow⟩ := h.at
 have HCe := hideP hcell
 have HRo := hideP hrow
 generalize BG.chk ls = R at *
 clear hcell hrow h hr
 by_cases h40 : 40 < ls.length
 ·
  replace HE := hideP (HE.out.trans (if_pos h40))
  have h40' : (40 : Int) < (ls.length : Int) := by omega
  clear HW HRr HCe HRo hq
  generalize ls.length = n at *
  go_enter Tryz.func25, Tryz.ntmps25
  go_wp2_with fail
  go_ret
  exact ⟨by rw [HE.out]; rfl, Fr.refl _⟩
 ·
  replace HE := hideP (HE.out.trans (if_neg h40))
  have h40' : ¬ (40 : Int) < (ls.length : Int) := by omega
  obtain ⟨wd, hwd⟩ : ∃ wd, BG.wd ls = wd := ⟨_, rfl⟩
  rw [hwd] at HE HW
  clear hwd
  go_enter Tryz.func25, Tryz.ntmps25
  go_wp2_with fail
  clear h40'
  go_loopw [4, 5, 11] (fun _ _ iv wr => ∃ i : Nat, iv = .int .i64 i ∧ i ≤ ls.length ∧ R = BG.rsE wd (ls.drop i) ∧ Fr w wr) (fun _ _ iv _ => ls.length - (intOf iv).toNat)
  case atStart => exact ⟨0, rfl, Nat.zero_le _, HE.out, Fr.refl _⟩
  case round =>
   obtain ⟨i, rfl, hi, hR, hfr⟩ := hrel
   by_cases hlt : i < ls.length
   ·
    have hlt' : (i : Int) < (ls.length : Int) := by omega
    obtain ⟨b, o, rfl, hb, c0⟩ := HCe.out i (by omega)
    obtain ⟨h1, h2⟩ := HRo.out i (by omega) hlt
    have d0 := (Below.cell hfr (World.block_lt_of_cell? _ _ c0)).trans c0
    rw [List.drop_eq_getElem_cons hlt] at hR
    have hck := fun W (f : Fr w W) => bcheckRow_any _ ls[i] wd W (h1.fr f) (HRr.out _ (List.getElem_mem hlt))
    have HR : Hid (R = if BG.rE wd ls[i] = 0 then BG.rsE wd (ls.drop (i + 1)) else BG.rE wd ls[i]) := hR
    have HF := hideP hfr
    unfold Sq.v at hck
    obtain ⟨ck, hcke⟩ : ∃ ck, BG.rE wd ls[i] = ck := ⟨_, rfl⟩
    rw [hcke] at HR hck
    have HCk := hideP hck
    clear hR hfr h1 h2 c0 hcke hck
    obtain ⟨qa, hqa⟩ : ∃ qa, (qs[i]'(by omega)).a = qa := ⟨_, rfl⟩
    obtain ⟨qn, hqn⟩ : ∃ qn, (qs[i]'(by omega)).n = qn := ⟨_, rfl⟩
    obtain ⟨qc, hqc⟩ : ∃ qc, (qs[i]'(by omega)).c = qc := ⟨_, rfl⟩
    rw [hqa, hqn, hqc] at d0 HCk
    clear hqa hqn hqc
    go_wp2_with fail
    refine (HW.out _ HF.out).mono ?_
    rintro _ _ ⟨rfl, rfl⟩
    go_wp2_with fail
    refine (HCk.out _ HF.out).mono ?_
    rintro _ w2 ⟨rfl, f2⟩
    have F2 := hideP (HF.out.trans f2)
    clear f2 HCk
    by_cases h0 : ck = 0
    ·
     subst h0
     have HR2 := hideP (HR.out.trans (if_pos rfl))
     clear HR
     go_wp2_with fail
     go_roundw
     case rel => exact ⟨i + 1, by go_num, by omega, HR2.out, F2.out⟩
     case measure => simp [intOf]; omega
    ·
     have HR2 := hideP (HR.out.trans (if_neg h0))
     have e1 : ((ck : Int) != 0) = true := by simp; omega
     have e2 : ¬ ((ck : Int) = 0) := by omega
     clear HR h0
     go_wp2_with fail
     go_ret
     exact ⟨by rw [HR2.out]; rfl, F2.out⟩
   ·
    obtain rfl : i = ls.length := by omega
    have HZ := hideP (show R = 0 by rw [hR, List.drop_length]; rfl)
    have HF := hideP hfr
    clear hR hfr
    go_wp2_with fail
    go_ret
    exact ⟨by rw [HZ.out]; rfl, HF.out⟩
end Go.Proofs.YtbcfdhimngoplaaGreatDoor
namespace Go.Proofs.YtbcfdhimngoplaaGreatDoor
open Go.ChangeShapes Go.WideShapes Go.ChangeAt Go.RowKit
set_option linter.unusedVariables false
set_option linter.unusedSimpArgs false
set_option maxRecDepth 100000
set_option maxHeartbeats 2000000
theorem rowL_of {W : World} {v : Value} {l : List VM.Vl} (h : IsL cdV W v l) : IsRow W v l := by
 obtain ⟨a, cap, rfl, hc, h0 | ⟨b, o, rfl, hb, hat⟩⟩ := h
 · exact ⟨a, cap, rfl, Or.inl h0⟩
 · exact ⟨_, cap, rfl, Or.inr ⟨b, o, rfl, hb, fun i hi => hat.v3 i hi⟩⟩
theorem rowsCheck_any (v : Value) (ls : List (List VM.Vl)) (w : World) (h : IsRR w v ls) (hl : ls.length ≤ 9223372036854775806) (hr : ∀ r ∈ ls, r.length ≤ 9223372036854775806) :
  Calls Tryz.prog 47 #[v] w fun e w' => e = .returned (.int .i64 ((BG.chk ls : Nat) : Int)) ∧ Fr w w' := by
 have HE : Hid (BG.chk ls = if 40 < ls.length then 2 else BG.rsE (BG.wd ls) ls) := rfl
 have HRr := hideP hr
 have hwd0 : ∀ (h0 : 0 < ls.length), BG.wd ls = (ls[0]'h0).length := by
  intro h0
  unfold BG.wd
  cases ls with
  | nil => simp at h0
  | cons r t => rfl
 have HW0 := hideP hwd0
 obtain ⟨a, c, rfl⟩ := h.slice
 obtain ⟨qs, hq, _, hc, hcell, hrow⟩ := h.at
 have HCe := hideP hcell
 have HRo := hideP hrow
 generalize BG.chk ls = R at *
 clear hcell hrow h hr hwd0
 by_cases h40 : 40 < ls.length
 ·
  replace HE := hideP (HE.out.trans (if_pos h40))
  have h40' : (40 : Int) < (ls.length : Int) := by omega
  clear HRr HCe HRo hq HW0
  generalize ls.length = n at *
  go_enter Tryz.func47, Tryz.ntmps47
  go_wp2_with fail
  go_ret
  exact ⟨by rw [HE.out]; rfl, Fr.refl _⟩
 ·
  replace HE := hideP (HE.out.trans (if_neg h40))
  have h40' : ¬ (40 : Int) < (ls.length : Int) := by omega
  obtain ⟨wd, hwd⟩ : ∃ wd, BG.wd ls = wd := ⟨_, rfl⟩
  rw [hwd] at HE HW0
  clear hwd
  go_enter Tryz.func47, Tryz.ntmps47
  go_wp2_with fail
  clear h40'
  go_loopw [3, 4] (fun iv _ wr => ∃ i : Nat, iv = .int .i64 i ∧ i ≤ ls.length ∧ R = BG.rsE wd (ls.drop i) ∧ Fr w wr) (fun iv _ _ => ls.length - (intOf iv).toNat)
  case atStart => exact ⟨0, rfl, Nat.zero_le _, HE.out, Fr.refl _⟩
  case round =>
   obtain ⟨i, rfl, hi, hR, hfr⟩ := hrel
   by_cases hlt : i < ls.length
   ·
    have hlt' : (i : Int) < (ls.length : Int) := by omega
    have hl0 : (0 : Int) < (ls.length : Int) := by omega
    obtain ⟨b, o, rfl, hb, c0⟩ := HCe.out i (by omega)
    obtain ⟨b', o', e9, hb', c9⟩ := HCe.out 0 (by omega)
    cases e9
    obtain ⟨h1, h2⟩ := HRo.out i (by omega) hlt
    have h3 := (HRo.out 0 (by omega) (by omega)).2
    have hw0 := HW0.out (by omega)
    have d0 := (Below.cell hfr (World.block_lt_of_cell? _ _ c0)).trans c0
    have d9 := (Below.cell hfr (World.block_lt_of_cell? _ _ c9)).trans c9
    rw [Nat.add_zero] at d9
    rw [List.drop_eq_getElem_cons hlt] at hR
    have HR : Hid (R = if BG.rE wd ls[i] = 0 then BG.rsE wd (ls.drop (i + 1)) else BG.rE wd ls[i]) := hR
    have HRe : Hid (BG.rE wd ls[i] = if 8 < (ls[i]).length then 2 else if (ls[i]).length ≠ wd then 1 else VM.chkAll ls[i]) := rfl
    have hlr := HRr.out _ (List.getElem_mem hlt)
    have hck := fun W (f : Fr w W) => rcheckAll_any _ ls[i] W (rowL_of (h1.fr f)) (by omega)
    unfold Sq.v at hck
    have HF := hideP hfr
    rw [h2] at d0 hck
    rw [h3, ← hw0] at d9
    obtain ⟨rl, hrl⟩ : ∃ rl, (ls[i]).length = rl := ⟨_, rfl⟩
    obtain ⟨rv, hrv⟩ : ∃ rv, VM.chkAll ls[i] = rv := ⟨_, rfl⟩
    obtain ⟨re, hre⟩ : ∃ re, BG.rE wd ls[i] = re := ⟨_, rfl⟩
    rw [hrl] at d0 hck HRe
    rw [hrv] at hck HRe
    rw [hre] at HR HRe
    obtain ⟨qa, hqa⟩ : ∃ qa, (qs[i]'(by omega)).a = qa := ⟨_, rfl⟩
    obtain ⟨qc, hqc⟩ : ∃ qc, (qs[i]'(by omega)).c = qc := ⟨_, rfl⟩
    obtain ⟨pa, hpa⟩ : ∃ pa, (qs[0]'(by omega)).a = pa := ⟨_, rfl⟩
    obtain ⟨pc, hpc⟩ : ∃ pc, (qs[0]'(by omega)).c = pc := ⟨_, rfl⟩
    rw [hqa, hqc] at d0 hck
    rw [hpa, hpc] at d9
    have HCk := hideP hck
    clear hR hfr h1 h2 h3 hw0 c0 c9 hck hlr hrl hrv hre hqa hqc hpa hpc
    by_cases h8 : 8 < rl
    ·
     have HR2 := hideP (show R = 2 by rw [HR.out, HRe.out, if_pos h8]; rfl)
     have h8' : (8 : Int) < (rl : Int) := by omega
     clear HR HRe h8
     go_wp2_with fail
     go_ret
     exact ⟨by rw [HR2.out]; rfl, HF.out⟩
    ·
     replace HRe := hideP (HRe.out.trans (if_neg h8))
     have h8' : ¬ (8 : Int) < (rl : Int) := by omega
     have HF2 := hideP (HF.out.drew)
     have g0 := d0
     by_cases hw : rl = wd
     ·
      subst hw
      replace HRe := hideP (HRe.out.trans (if_neg (by simp)))
      go_upto_region 8 with fail
      go_region
      all_goals (
       go_wp2_with fail
       refine (HCk.out _ HF2.out).mono ?_
       rintro _ w2 ⟨rfl, f2⟩
       have F2 := hideP (HF2.out.trans f2)
       clear f2 HCk
       by_cases h0 : rv = 0
       ·
        subst h0
        have HR2 := hideP (show R = BG.rsE rl (ls.drop (i + 1)) by rw [HR.out, HRe.out, if_pos rfl])
        clear HR HRe
        go_wp2_with fail
        go_roundw
        case rel => exact ⟨i + 1, by go_num, by omega, HR2.out, F2.out⟩
        case measure => simp [intOf]; omega
       ·
        have HR2 := hideP (show R = rv by rw [HR.out, HRe.out, if_neg h0])
        have e1 : ((rv : Int) != 0) = true := by simp; omega
        have e2 : ¬ ((rv : Int) = 0) := by omega
        clear HR HRe h0
        go_wp2_with fail
        go_ret
        exact ⟨by rw [HR2.out]; rfl, F2.out⟩)
     ·
      have HR2 := hideP (show R = 1 by rw [HR.out, HRe.out, if_pos hw]; rfl)
      have q1 : ((rl : Int) != (wd : Int)) = true := by simp; omega
      have q2 : ¬ (rl : Int) = (wd : Int) := by omega
      clear HR HRe hw
      go_upto_region 8 with fail
      go_region
      all_goals (
       go_wp2_with fail
       go_ret
       exact ⟨by rw [HR2.out]; rfl, HF2.out⟩)
   ·
    obtain rfl : i = ls.length := by omega
    have HZ := hideP (show R = 0 by rw [hR, List.drop_length]; rfl)
    have HF := hideP hfr
    clear hR hfr
    go_wp2_with fail
    go_ret
    exact ⟨by rw [HZ.out]; rfl, HF.out⟩
end Go.Proofs.YtbcfdhimngoplaaGreatDoor
namespace Go.Proofs.YtbcfdhimngoplaaGreatDoor
open Go.ChangeShapes Go.WideShapes Go.ChangeAt Go.RowKit
set_option linter.unusedVariables false
set_option linter.unusedSimpArgs false
set_option maxRecDepth 100000 in
set_option maxHeartbeats 2000000 in
theorem sameRow_eq (v u : Value) (l : List VM.Vl) (w : World) (hv : IsRow w v l) (hu : IsRow w u l) (hl : l.length ≤ 9223372036854775806) :
  Calls Tryz.prog 40 #[v, u] w fun e w' => e = .returned (.bool true) ∧ Fr w w' := by
 obtain ⟨a, cap, rfl, hcs⟩ := hv
 obtain ⟨a2, cap2, rfl, hcs2⟩ := hu
 have HC : Hid _ := hcs
 have HC2 : Hid _ := hcs2
 clear hcs hcs2
 go_enter Tryz.func40, Tryz.ntmps40
 go_wp2_with fail
 go_loopw [5] (fun iv wr => ∃ i : Nat, iv = .int .i64 i ∧ i ≤ l.length ∧ Fr w wr) (fun iv _ => l.length - (intOf iv).toNat)
 case atStart => exact ⟨0, rfl, by omega, Fr.refl _⟩
 case round =>
  obtain ⟨i, rfl, hi, hfr⟩ := hrel
  by_cases hlt : i < l.length
  ·
   obtain ⟨b, o, rfl, hb, hc⟩ : ∃ b o, a = some ⟨b, o, none⟩ ∧ b < w.heap.size ∧ CellsAt w b o l := by
    rcases HC.out with h | h
    · subst h; simp at hlt
    · exact h
   obtain ⟨b2, o2, rfl, hb2, hc2⟩ : ∃ b o, a2 = some ⟨b, o, none⟩ ∧ b < w.heap.size ∧ CellsAt w b o l := by
    rcases HC2.out with h | h
    · subst h; simp at hlt
    · exact h
   obtain ⟨c0, c1, c2⟩ := (hc.fr hb hfr) i hlt
   obtain ⟨d0, d1, d2⟩ := (hc2.fr hb2 hfr) i hlt
   generalize l[i] = x at c0 c1 c2 d0 d1 d2
   obtain ⟨k, n, s⟩ := x
   simp only at c0 c1 c2 d0 d1 d2
   have hlt' : (i : Int) < (l.length : Int) := by omega
   have HF : Hid _ := hfr
   clear hc hc2 hfr
   go_wp2_with fail
   go_region
   go_wp2_with fail
   go_roundw
   case rel => exact ⟨i + 1, by go_num, by omega, Fr.drew HF.out⟩
   case measure => simp [intOf]; omega
  ·
   obtain rfl : i = l.length := by omega
   go_wp2_with fail
   go_ret
   exact ⟨rfl, hfr⟩
end Go.Proofs.YtbcfdhimngoplaaGreatDoor
namespace Go.Proofs.YtbcfdhimngoplaaGreatDoor
open Go.ChangeShapes Go.WideShapes Go.ChangeAt Go.RowKit
set_option linter.unusedVariables false
set_option linter.unusedSimpArgs false
set_option maxRecDepth 100000
set_option maxHeartbeats 2000000
theorem c2_after {w w' : World} {a b : Addr} {u v : Value} (f : Fr w w') (h : w.cell? a = some u ∧ w.cell? b = some v) : w'.cell? a = some u ∧ w'.cell? b = some v :=
 ⟨(Below.cell f (World.block_lt_of_cell? _ _ h.1)).trans h.1, (Below.cell f (World.block_lt_of_cell? _ _ h.2)).trans h.2⟩
theorem sameRows_eq (v u : Value) (ls : List (List VM.Vl)) (w : World) (hv : IsRR w v ls) (hu : IsRR w u ls) (hl : ls.length ≤ 9223372036854775806) (hr : ∀ r ∈ ls, r.length ≤ 9223372036854775806) :
  Calls Tryz.prog 13 #[v, u] w fun e w' => e = .returned (.bool true) ∧ Fr w w' := by
 have HRr := hideP hr
 obtain ⟨a, c, rfl⟩ := hv.slice
 obtain ⟨a', c', rfl⟩ := hu.slice
 obtain ⟨qs, hq, _, hc, hcell, hrow⟩ := hv.at
 obtain ⟨ps, hp, _, hc', hcell', hrow'⟩ := hu.at
 have HCe := hideP hcell
 have HRo := hideP hrow
 have HCe2 := hideP hcell'
 have HRo2 := hideP hrow'
 clear hcell hrow hcell' hrow' hv hu hr
 go_enter Tryz.func13, Tryz.ntmps13
 go_wp2_with fail
 go_loopw [5] (fun iv wr => ∃ i : Nat, iv = .int .i64 i ∧ i ≤ ls.length ∧ Fr w wr) (fun iv _ => ls.length - (intOf iv).toNat)
 case atStart => exact ⟨0, rfl, Nat.zero_le _, Fr.refl _⟩
 case round =>
  obtain ⟨i, rfl, hi, hfr⟩ := hrel
  by_cases hlt : i < ls.length
  ·
   have hlt' : (i : Int) < (ls.length : Int) := by omega
   obtain ⟨b, o, rfl, hb, c0⟩ := HCe.out i (by omega)
   obtain ⟨b', o', rfl, hb', c9⟩ := HCe2.out i (by omega)
   have h1 := (HRo.out i (by omega) hlt).1
   have h2 := (HRo2.out i (by omega) hlt).1
   have hck := fun W (f : Fr w W) => sameRow_eq _ _ ls[i] W (rowL_of (h1.fr f)) (rowL_of (h2.fr f)) (by have := HRr.out _ (List.getElem_mem hlt); omega)
   unfold Sq.v at hck
   have HS := hideP (c2_after hfr ⟨c0, c9⟩)
   have HF := hideP hfr
   obtain ⟨q, hqq⟩ : ∃ q, (qs[i]'(by omega)) = q := ⟨_, rfl⟩
   obtain ⟨p, hpp⟩ : ∃ p, (ps[i]'(by omega)) = p := ⟨_, rfl⟩
   rw [hqq, hpp] at HS hck
   obtain ⟨qa, qn, qc⟩ := q
   obtain ⟨pa, pn, pc⟩ := p
   simp only at HS hck
   have HCk := hideP hck
   clear hfr h1 h2 c0 c9 hck hqq hpp
   have hz := Fr.drew (Fr.refl wr)
   go_upto_region 6 with fail
   go_region_held3 (fun W => W.cell? ⟨b, o + i, none⟩ = some (.slice qa qn qc) ∧ W.cell? ⟨b', o' + i, none⟩ = some (.slice pa pn pc)) (first | exact HS.out | exact c2_after hz HS.out | exact c2_after hf9 HS.out) (first
    | (go_at_call 40; refine (HCk.out _ (HF.out.trans hz)).mono ?_; rintro _ w3 ⟨rfl, f3⟩; have hf9 := hz.trans f3; clear f3))
   all_goals (
    have F9 := hideP (HF.out.trans hf9)
    clear hf9 hz HS
    go_wp2_with fail
    go_roundw
    case rel => exact ⟨i + 1, by go_num, by omega, F9.out⟩
    case measure => simp [intOf]; omega)
  ·
   obtain rfl : i = ls.length := by omega
   have HF := hideP hfr
   clear hfr
   go_wp2_with fail
   go_ret
   exact ⟨rfl, HF.out⟩
end Go.Proofs.YtbcfdhimngoplaaGreatDoor
namespace Go.Proofs.YtbcfdhimngoplaaGreatDoor
open Go.ChangeShapes Go.WideShapes Go.ChangeAt Go.RowKit
set_option linter.unusedVariables false
set_option linter.unusedSimpArgs false
set_option maxRecDepth 100000
theorem Tryz.infoV9 : (Tryz.prog.info? 56).map (fun i => (i.zero, i.size, i.bytes)) = some (some (.agg #[.int .i64 0, .int .i64 0, .string ⟨#[]⟩]), 3, 32) := by kernel_rfl
set_option maxHeartbeats 2000000 in
theorem cloneV_any (v : Value) (l : List VM.Vl) (w : World) (hr : IsL cdV w v l) (hl : l.length ≤ 100) :
  Calls Tryz.prog 45 #[v] w fun e w' => ∃ v', e = .returned v' ∧ w'.ownsRow w.heap.size 56 3 v' l.length (flat cdV l) ∧ Fr w w' := by
 obtain ⟨i0, hi, hz0, hz1, hz2⟩ := info_parts Tryz.infoV9
 obtain ⟨a, cap, rfl, hcap, hcs⟩ := hr
 have qn : ∀ (w : World) (a : Option Addr) (n c n' c' : Nat), (binOp .eql 31 (.slice a n c) (.slice none n' c')).run Tryz.prog w = .ok (.bool a.isNone) w := fun w a n c n' c' => Lib.run_eql_slice_nil w _ _ a n c n' c' Tryz.underlying31
 cases a with
 | none =>
  have h0 : l = [] := by
   rcases hcs with h | ⟨b, o, h, _⟩
   · exact h
   · cases h
  subst h0
  clear hcs
  go_enter Tryz.func45, Tryz.ntmps45
  go_wp2_with fail
  go_ret
  exact ⟨_, rfl, World.ownsRow_nil _ _ _ _, Fr.refl _⟩
 | some A =>
  have hnews : ∀ j u, (flat cdV l)[j]? = some u → w.cell? (A.add j) = some u := by
   rcases hcs with h | ⟨b, o, h, _, hc⟩
   · subst h; intro j u hj; simp [flat] at hj
   ·
    cases h
    intro j u hj
    rw [Addr.add_lit]
    exact hc j u hj
  have HN : Hid _ := hideP hnews
  have hfl : (flat cdV l).length = l.length * 3 := flat_len cdV l
  have HL : Hid _ := hideP hfl
  have H1 : Hid _ := hideP (flat_one cdV l)
  clear hcs hnews hfl
  generalize flat cdV l = news at HN HL H1
  generalize l.length = n at hl HL hcap
  go_enter Tryz.func45, Tryz.ntmps45
  go_wp2_with (at_builtin; refine wpList_append_own _ rfl _ _ 31 rfl w.heap.size 56 i0 (.agg #[.int .i64 0, .int .i64 0, .string ⟨#[]⟩]) 3 32 Tryz.underlying31 hi hz0 hz1 hz2 rfl (by decide) _ _ _ rfl (World.ownsRow_made w #[] 0 (Nat.le_refl _) (Nat.zero_le _) (by simp)) A n cap news rfl ?qc1 ?qc2 ?qc3 ?qc4 ?qc5 ?qc6 ?_)
  case qc1 => exact HL.out
  case qc2 => intro j u hj; exact Lib.cell?_alloc_some _ (HN.out j u hj)
  case qc3 => exact H1.out
  case qc4 => unfold maxLen; omega
  case qc5 => omega
  case qc6 => simp
  intro v' w1 hown hgrow hnil
  have HO := hideP hown
  have HB : Hid (Fr w w1) := ((RowKit.Below.refl _ w).alloc (Nat.le_refl _) _).grown hgrow (by simp) (by intro k hk; simp [Value.ownBlock] at hk; omega)
  clear hown hnil hgrow
  go_wp2_with fail
  go_ret
  exact ⟨v', rfl, by simpa using HO.out, HB.out⟩
end Go.Proofs.YtbcfdhimngoplaaGreatDoor
namespace Go.Proofs.YtbcfdhimngoplaaGreatDoor
open Go.ChangeShapes Go.WideShapes Go.ChangeAt Go.RowKit
set_option linter.unusedVariables false
set_option linter.unusedSimpArgs false
set_option maxRecDepth 100000
set_option maxHeartbeats 2000000
theorem Tryz.infoVs9 : (Tryz.prog.info? 31).map (fun i => (i.zero, i.size, i.bytes)) = some (some (.slice none 0 0), 1, 24) := by kernel_rfl
def OwnRR (B : Nat) (w : World) (v : Value) (ls : List (List VM.Vl)) : Prop := ∃ (G : Nat) (arr : Array Value) (qs : List Sq), v = .slice (some ⟨G, 0, none⟩) ls.length ls.length ∧ B ≤ G ∧ Blk w G arr 31 ∧ (qs.length = ls.length ∧ arr.size = ls.length) ∧ (∀ j (h : j < qs.length), arr[j]? = some (.slice qs[j].a qs[j].n qs[j].c)) ∧ ∀ j (h1 : j < qs.length) (h2 : j < ls.length), w.ownsRow B 56 3 qs[j].v ls[j].length (flat cdV ls[j])
theorem OwnRR.rows {B : Nat} {w : World} {v : Value} {ls : List (List VM.Vl)} (h : OwnRR B w v ls) : IsRR w v ls := by
 obtain ⟨G, arr, qs, rfl, _, hb, ⟨hq, _⟩, hc, ho⟩ := h
 refine ⟨qs, ⟨_, ls.length, by rw [hq], by omega, .inr ⟨G, 0, rfl, hb.lt, fun j u hj => ?_⟩⟩, hq, fun i h1 h2 => isL_own (ho i h1 h2)⟩
 have hjl : j < qs.length := by
  have := (List.getElem?_eq_some_iff.1 hj).1
  rw [flat_len] at this
  simpa [cdS] using this
 have h2 := flat_get cdS qs j 0 hjl (by decide)
 have e : j * cdS.k + 0 = j := by show j * 1 + 0 = j; omega
 rw [e] at h2
 rw [h2] at hj
 have hu : u = .slice qs[j].a qs[j].n qs[j].c := by
  simp [cdS] at hj
  exact hj.symm
 rw [hu, Nat.zero_add]
 exact hb.cell j (hc j hjl)
theorem copied_any (v : Value) (ls : List (List VM.Vl)) (w : World) (h : IsRR w v ls) (hl : ls.length ≤ 1000) (hr : ∀ r ∈ ls, r.length ≤ 100) :
  Calls Tryz.prog 27 #[v] w fun e w' => (∃ u, e = .returned u ∧ OwnRR w.heap.size w' u ls) ∧ Fr w w' := by
 have HRr := hideP hr
 obtain ⟨a, c, rfl⟩ := h.slice
 obtain ⟨qs, hq, _, hc, hcell, hrow⟩ := h.at
 have HCe := hideP hcell
 have HRo := hideP hrow
 clear hcell hrow h hr
 obtain ⟨i0, hi0, hz0, hz1, hz2⟩ := info_parts Tryz.infoVs9
 obtain ⟨mc, hmc⟩ : ∃ mc, madeCells (Value.slice none 0 0).cells (ls.length * 1) = mc := ⟨_, rfl⟩
 have hms : mc.size = ls.length * 1 := by rw [← hmc]; exact size_madeCells _ _
 have hmk : ∀ W : World, (Instr.makeSlice 22 (.int .i64 (ls.length : Int)) (.int .i64 (ls.length : Int))).run Tryz.prog W = .ok (.slice (some ⟨W.heap.size, 0, none⟩) ls.length ls.length) (W.alloc (.cells mc 31)) := by
  intro W
  have hr := run_make (P := Tryz.prog) W 22 31 i0 _ Tryz.underlying22 hi0 hz0 .i64 .i64 (ls.length : Int) (ls.length : Int) (by omega) (by omega) (by rw [hz2]; omega) (by omega)
  simp only [hz1] at hr
  rw [show (ls.length : Int).toNat * 1 = ls.length * 1 by omega, hmc] at hr
  simpa using hr
 have HB0 := hideP (Blk.new w mc 31)
 have F0 := hideP ((Fr.refl w).alloc (.cells mc 31))
 have HMs := hideP hms
 clear hms hmc
 go_enter Tryz.func27, Tryz.ntmps27
 go_wp2_with fail
 clear hmk
 generalize w.alloc (.cells mc 31) = W0 at *
 go_loopw [4, 5, 11] (fun _ _ iv wr => ∃ (i : Nat) (arr : Array Value) (ps : List Sq), iv = .int .i64 i ∧ i ≤ ls.length ∧ Blk wr w.heap.size arr 31 ∧ arr.size = ls.length ∧ ps.length = i ∧ (∀ j (h : j < ps.length), arr[j]? = some (.slice ps[j].a ps[j].n ps[j].c)) ∧ (∀ j (h1 : j < ps.length) (h2 : j < ls.length), wr.ownsRow w.heap.size 56 3 ps[j].v ls[j].length (flat cdV ls[j])) ∧ Fr w wr) (fun _ _ iv _ => ls.length - (intOf iv).toNat)
 case atStart => exact ⟨0, mc, [], rfl, Nat.zero_le _, HB0.out, by rw [HMs.out]; omega, rfl, fun j h => by simp at h, fun j h => by simp at h, F0.out⟩
 case round =>
  obtain ⟨i, arr, ps, rfl, hi, hb, has, hps, harr, hown, hfr⟩ := hrel
  by_cases hlt : i < ls.length
  ·
   have hlt' : (i : Int) < (ls.length : Int) := by omega
   obtain ⟨b, o, rfl, hbb, c0⟩ := HCe.out i (by omega)
   obtain ⟨h1, h2⟩ := HRo.out i (by omega) hlt
   have d0 := (Below.cell hfr (World.block_lt_of_cell? _ _ c0)).trans c0
   have HCl := hideP (cloneV_any _ ls[i] wr (h1.fr hfr) (HRr.out _ (List.getElem_mem hlt)))
   obtain ⟨q, hqq⟩ : ∃ q, (qs[i]'(by omega)) = q := ⟨_, rfl⟩
   rw [hqq] at HCl d0
   obtain ⟨qa, qn, qc⟩ := q
   simp only [Sq.v] at HCl d0
   have HF := hideP hfr
   have HBk := hideP hb
   have HAs := hideP has
   have HPs := hideP hps
   have HAr := hideP harr
   have HOw := hideP hown
   have hle := hfr.size
   clear hfr hb has hps harr hown h1 h2 c0 hqq
   go_wp2_with fail
   refine HCl.out.mono ?_
   rintro _ w2 ⟨v2, rfl, own2, f2⟩
   obtain ⟨va, vc, rfl⟩ := own_slice own2
   have HB2 := hideP (HBk.out.fr f2)
   obtain ⟨u9, hu9⟩ : ∃ u9, arr[i]? = some u9 := ⟨_, Array.getElem?_eq_getElem (by rw [HAs.out]; exact hlt)⟩
   have y0 := HB2.out.cell i hu9
   have y1 := HB2.out.frozen i
   have HO2 := hideP (own_low own2 hle)
   have HF2 := hideP (HF.out.trans f2)
   have HOw2 := hideP (fun j h1 h2 => own_fr (HOw.out j h1 h2) f2)
   clear f2 own2 HCl hu9
   obtain ⟨rl, hrl⟩ : ∃ rl, (ls[i]).length = rl := ⟨_, rfl⟩
   have HRl := hideP hrl
   rw [hrl]
   clear hrl
   go_wp2_with fail
   have hb3 := HB2.out.set i (.slice va rl vc)
   have keep : ∀ {n : Nat} {x : Value} {xs : List Value}, w2.ownsRow w.heap.size 56 3 x n xs → (w2.setCell ⟨w.heap.size, i, none⟩ (.slice va rl vc)).ownsRow w.heap.size 56 3 x n xs := by
    intro n x xs ho
    refine own_keep ho fun k cur hk hkc => ?_
    have hne : w.heap.size ≠ k := by
     rintro rfl
     have := HB2.out
     unfold Blk at this
     rw [this] at hkc
     injection hkc with hkc
     injection hkc with _ hkc
     exact absurd hkc (by decide)
    simp only [World.setCell, Array.getElem?_modify, if_neg hne]
   have F3 := hideP (HF2.out.setC w.heap.size i (.slice va rl vc) (Nat.le_refl _))
   go_roundw
   case rel =>
    refine ⟨i + 1, _, ps ++ [⟨va, rl, vc⟩], by go_num, by omega, hb3, by simp [HAs.out], by rw [List.length_append, HPs.out]; rfl, fun j hj => ?_, fun j hj1 hj2 => ?_, F3.out⟩
    ·
     by_cases hji : j < ps.length
     ·
      rw [List.getElem_append_left hji]
      rw [Array.getElem?_setIfInBounds_ne (by have := HPs.out; omega)]
      exact HAr.out j hji
     ·
      have e : j = i := by rw [List.length_append, HPs.out] at hj; simp at hj; have := HPs.out; omega
      subst e
      rw [List.getElem_append_right (by have := HPs.out; omega)]
      simp [HPs.out, HAs.out, hlt]
    ·
     by_cases hji : j < ps.length
     ·
      have e : (ps ++ [(⟨va, rl, vc⟩ : Sq)])[j] = ps[j] := List.getElem_append_left hji
      rw [e]
      exact keep (HOw2.out j hji hj2)
     ·
      have e : j = i := by rw [List.length_append, HPs.out] at hj1; simp at hj1; have := HPs.out; omega
      subst e
      have e : (ps ++ [(⟨va, rl, vc⟩ : Sq)])[j] = ⟨va, rl, vc⟩ := by rw [List.getElem_append_right (by have := HPs.out; omega)]; simp [HPs.out]
      rw [e]
      have := keep HO2.out
      rw [HRl.out] at this ⊢
      exact this
   case measure => simp [intOf]; omega
  ·
   obtain rfl : i = ls.length := by omega
   have HX := hideP (show OwnRR w.heap.size wr (.slice (some ⟨w.heap.size, 0, none⟩) ls.length ls.length) ls from ⟨w.heap.size, arr, ps, rfl, Nat.le_refl _, hb, ⟨hps, has⟩, harr, hown⟩)
   have HF := hideP hfr
   clear hb has hps harr hown hfr
   go_wp2_with fail
   go_ret
   exact ⟨⟨_, rfl, HX.out⟩, HF.out⟩
end Go.Proofs.YtbcfdhimngoplaaGreatDoor
namespace Go.Proofs.YtbcfdhimngoplaaGreatDoor
open Go.ChangeShapes Go.WideShapes Go.ChangeAt Go.RowKit
set_option linter.unusedVariables false
set_option linter.unusedSimpArgs false
set_option maxRecDepth 100000
set_option maxHeartbeats 2000000
theorem isL_cut {α : Type} {E : Cd α} {W : World} {b o n c : Nat} {l : List α} (hl : n = l.length) (hb : b < W.heap.size) (hat : At E W b o l) (f s : Nat) (hs : f + s ≤ n) (hc : n ≤ c) (A : Option Addr) (hA : s = 0 ∨ A = some ⟨b, o + f * E.k, none⟩) : IsL E W (.slice A s (c - f)) ((l.drop f).take s) := by
 subst hl
 have hlen : ((l.drop f).take s).length = s := by rw [List.length_take, List.length_drop]; omega
 refine ⟨A, c - f, by rw [hlen], by rw [hlen]; omega, ?_⟩
 rcases hA with rfl | rfl
 · left; simp
 ·
  right
  refine ⟨b, o + f * E.k, rfl, hb, fun j u hj => ?_⟩
  have e : flat E l = flat E (l.take f) ++ (flat E ((l.drop f).take s) ++ flat E ((l.drop f).drop s)) := by rw [← flat_app, ← flat_app, List.take_append_drop, List.take_append_drop]
  have hf : (flat E (l.take f)).length = f * E.k := by rw [flat_len, List.length_take, Nat.min_eq_left (by omega)]
  have hjl : j < (flat E ((l.drop f).take s)).length := (List.getElem?_eq_some_iff.1 hj).1
  have h2 : (flat E l)[f * E.k + j]? = some u := by
   rw [e, List.getElem?_append_right (by omega), hf, show f * E.k + j - f * E.k = j by omega, List.getElem?_append_left hjl]
   exact hj
  have := hat _ _ h2
  rwa [← Nat.add_assoc] at this
theorem OwnRR.low {B B' : Nat} {w : World} {v : Value} {ls : List (List VM.Vl)} (h : OwnRR B w v ls) (hB : B' ≤ B) : OwnRR B' w v ls := by
 obtain ⟨G, arr, qs, e, hG, hb, hq, hc, ho⟩ := h
 exact ⟨G, arr, qs, e, Nat.le_trans hB hG, hb, hq, hc, fun j h1 h2 => own_low (ho j h1 h2) hB⟩
theorem isRR_cut {W : World} {a : Option Addr} {n c : Nat} {ls : List (List VM.Vl)} (h : IsRR W (.slice a n c) ls) (f s : Nat) (hs : f + s ≤ n) (A : Option Addr) (hA : ∀ b o, a = some ⟨b, o, none⟩ → s = 0 ∨ A = some ⟨b, o + f, none⟩) : IsRR W (.slice A s (c - f)) ((ls.drop f).take s) := by
 obtain ⟨qs, ⟨a', c', e, hc, hcs⟩, h2, h3⟩ := h
 cases e
 refine ⟨(qs.drop f).take s, ?_, by simp [h2], fun i h4 h5 => ?_⟩
 ·
  rcases hcs with h | ⟨b, o, rfl, hb, hat⟩
  ·
   subst h
   have : s = 0 := by simp at hs; omega
   subst this
   exact ⟨A, c - f, by simp, by simp, .inl (by simp)⟩
  ·
   refine isL_cut (E := cdS) rfl hb hat f s hs hc A ?_
   rcases hA b o rfl with h | h
   · exact .inl h
   ·
    right
    rw [h]
    have e : f * cdS.k = f := by show f * 1 = f; omega
    rw [e]
 ·
  have l1 : f + i < qs.length := by simp at h4; omega
  have l2 : f + i < ls.length := by rw [← h2]; exact l1
  have e1 : ((qs.drop f).take s)[i] = qs[f + i] := by simp
  have e2 : ((ls.drop f).take s)[i] = ls[f + i] := by simp
  rw [e1, e2]
  exact h3 _ l1 l2
theorem BG.rsE_all (wd : Nat) : ∀ (ls : List (List VM.Vl)), BG.rsE wd ls = 0 → ∀ r ∈ ls, r.length ≤ 8 ∧ VM.chkAll r = 0 ∧ r.length = wd
 | [], _, r, hr => by simp at hr
 | x :: t, h, r, hr => by
  unfold BG.rsE at h
  split at h
  ·
   rename_i h0
   rcases List.mem_cons.1 hr with rfl | hr
   ·
    unfold BG.rE at h0
    split at h0
    · cases h0
    split at h0
    · cases h0
    ·
     rename_i h1 h2
     exact ⟨by omega, h0, by simpa using h2⟩
   · exact BG.rsE_all wd t h r hr
  · rename_i h0; exact absurd h h0
theorem BG.chk_all {ls : List (List VM.Vl)} (h : BG.chk ls = 0) : ls.length ≤ 40 ∧ ∀ r ∈ ls, r.length ≤ 8 ∧ VM.chkAll r = 0 ∧ r.length = BG.wd ls := by
 unfold BG.chk at h
 split at h
 · cases h
 · exact ⟨by omega, BG.rsE_all _ ls h⟩
theorem min_k (x : Int) (n : Nat) (h0 : 0 ≤ x) : ∃ K : Nat, K ≤ n ∧ min x (n : Int) = (K : Int) ∧ K = min x.toNat n := ⟨min x.toNat n, by omega, by omega, rfl⟩
end Go.Proofs.YtbcfdhimngoplaaGreatDoor
