/-
  Lists of rows: how they lie, and what width, checkRow and Check of package bag answer.
-/
import Derived.Test.YtoepifbpchpfkaaGreatDoorEvB
import Derived.Test.YtoepifbpchpfkaaGreatDoorGpA
namespace Go.Proofs.YtoepifbpchpfkaaGreatDoor
open Go.ChangeShapes Go.WideShapes Go.ChangeAt Go.RowKit
set_option linter.unusedVariables false
set_option linter.unusedSimpArgs false
set_option maxRecDepth 100000
set_option maxHeartbeats 2000000
/-- a slice value -/
structure Sq where
  a : Option Addr
  n : Nat
  c : Nat
def Sq.v (x : Sq) : Value := .slice x.a x.n x.c
def cdS : Cd Sq := ⟨1, fun x => [.slice x.a x.n x.c], by decide, fun _ => rfl, fun x u h => by simp at h; subst h; rfl⟩
theorem At.s1 {w : World} {b o : Nat} {l : List Sq} (h : At cdS w b o l) (i : Nat) (hi : i < l.length) : w.cell? ⟨b, o + i, none⟩ = some (.slice l[i].a l[i].n l[i].c) :=
  h i _ (by have := flat_get cdS l i 0 hi (by decide); simpa [cdS] using this)
/-- a slice of slices stands for a list of rows -/
def IsRR (w : World) (v : Value) (ls : List (List VM.Vl)) : Prop := ∃ qs : List Sq, IsL cdS w v qs ∧ qs.length = ls.length ∧ ∀ i (h1 : i < qs.length) (h2 : i < ls.length), IsL cdV w qs[i].v ls[i]
theorem IsRR.fr {w w' : World} {v : Value} {ls : List (List VM.Vl)} (h : IsRR w v ls) (f : Fr w w') : IsRR w' v ls := by
  obtain ⟨qs, h1, h2, h3⟩ := h
  exact ⟨qs, h1.fr f, h2, fun i a b => (h3 i a b).fr f⟩
theorem IsRR.slice {w : World} {v : Value} {ls : List (List VM.Vl)} (h : IsRR w v ls) : ∃ a c, v = .slice a ls.length c := by
  obtain ⟨qs, ⟨a, c, h1, _⟩, h2, _⟩ := h
  exact ⟨a, c, by rw [h1, h2]⟩
/-- the i-th row's own slice -/
theorem IsRR.at {w : World} {a : Option Addr} {n c : Nat} {ls : List (List VM.Vl)} (h : IsRR w (.slice a n c) ls) : ∃ qs : List Sq, qs.length = ls.length ∧ n = ls.length ∧ n ≤ c ∧ (∀ i (h1 : i < qs.length), ∃ b o, a = some ⟨b, o, none⟩ ∧ b < w.heap.size ∧ w.cell? ⟨b, o + i, none⟩ = some (.slice qs[i].a qs[i].n qs[i].c)) ∧ ∀ i (h1 : i < qs.length) (h2 : i < ls.length), IsL cdV w qs[i].v ls[i] ∧ qs[i].n = ls[i].length := by
  obtain ⟨qs, ⟨a', c', e, hc, hcs⟩, h2, h3⟩ := h
  cases e
  refine ⟨qs, h2, h2, hc, fun i hi => ?_, fun i h4 h5 => ⟨h3 i h4 h5, ?_⟩⟩
  · rcases hcs with h | ⟨b, o, ha, hb, hat⟩
    · rw [h] at hi; simp at hi
    · exact ⟨b, o, ha, hb, hat.s1 i hi⟩
  · obtain ⟨a1, c1, e1, _⟩ := h3 i h4 h5
    unfold Sq.v at e1
    injection e1
namespace BG
open VM
/-- how wide rows are -/
def wd (ls : List (List Vl)) : Nat := (ls.headD []).length
/-- what is wrong with a row -/
def rE (wd : Nat) (r : List Vl) : Nat := if 8 < r.length then 2 else if r.length ≠ wd then 1 else chkAll r
/-- the first error among rows -/
def rsE (wd : Nat) : List (List Vl) → Nat
  | [] => 0
  | r :: t => if rE wd r = 0 then rsE wd t else rE wd r
def chk (ls : List (List Vl)) : Nat := if 40 < ls.length then 2 else rsE (wd ls) ls
end BG
theorem width_any (v : Value) (ls : List (List VM.Vl)) (w : World) (h : IsRR w v ls) : Calls Tryz.prog 62 #[v] w fun e w' => e = .returned (.int .i64 ((BG.wd ls : Nat) : Int)) ∧ w' = w := by
  obtain ⟨a, c, rfl⟩ := h.slice
  obtain ⟨qs, hq, _, hc, hcell, hrow⟩ := h.at
  by_cases h0 : ls.length = 0
  · have hl : ls = [] := List.length_eq_zero_iff.1 h0
    have hw : BG.wd ls = 0 := by rw [hl]; rfl
    rw [hw, h0]
    clear hcell hrow
    go_enter Tryz.func62, Tryz.ntmps62
    go_wp2_with fail
    go_ret
    exact ⟨rfl, rfl⟩
  · obtain ⟨b, o, rfl, hb, c0⟩ := hcell 0 (by omega)
    obtain ⟨h1, h2⟩ := hrow 0 (by omega) (by omega)
    have hw : BG.wd ls = qs[0].n := by
      rw [h2]
      unfold BG.wd
      cases ls with
      | nil => simp at h0
      | cons r t => rfl
    rw [hw]
    rw [Nat.add_zero] at c0
    obtain ⟨qa, hqa⟩ : ∃ qa, qs[0].a = qa := ⟨_, rfl⟩
    obtain ⟨qn, hqn⟩ : ∃ qn, qs[0].n = qn := ⟨_, rfl⟩
    obtain ⟨qc, hqc⟩ : ∃ qc, qs[0].c = qc := ⟨_, rfl⟩
    rw [hqa, hqn, hqc] at c0
    rw [hqn]
    clear hcell hrow h1 h2 hw hqa hqn hqc h
    have hq9 : 0 < ls.length := by omega
    clear h0 hq
    generalize ls.length = n at *
    have q0 : ((n : Int) == 0) = false := beq_false_of_ne (by omega)
    have q1 : ¬ ((n : Int) = 0) := by omega
    have q2 : (0 : Int) < (n : Int) := by omega
    go_enter Tryz.func62, Tryz.ntmps62
    go_wp2_with fail
    go_ret
    exact ⟨rfl, rfl⟩
theorem bcheckRow_any (v : Value) (r : List VM.Vl) (wd : Nat) (w : World) (h : IsL cdV w v r) (hl : r.length ≤ 9223372036854775806) : Calls Tryz.prog 61 #[v, .int .i64 ((wd : Nat) : Int)] w fun e w' => e = .returned (.int .i64 ((BG.rE wd r : Nat) : Int)) ∧ Fr w w' := by
  have HE : Hid (BG.rE wd r = if 8 < r.length then 2 else if r.length ≠ wd then 1 else VM.chkAll r) := rfl
  generalize BG.rE wd r = R at *
  obtain ⟨a, cap, rfl, hcap, hcs⟩ := h
  have HC := hideP hcs
  clear hcs
  by_cases h8 : 8 < r.length
  · replace HE := hideP (HE.out.trans (if_pos h8))
    have h8' : (8 : Int) < (r.length : Int) := by omega
    generalize r.length = n at *
    go_enter Tryz.func61, Tryz.ntmps61
    go_wp2_with fail
    go_ret
    exact ⟨by rw [HE.out]; rfl, Fr.refl _⟩
  · replace HE := hideP (HE.out.trans (if_neg h8))
    have h8' : ¬ (8 : Int) < (r.length : Int) := by omega
    by_cases hw : r.length = wd
    · subst hw
      replace HE := hideP (HE.out.trans (if_neg (by simp)))
      go_enter Tryz.func61, Tryz.ntmps61
      go_wp2_with fail
      clear h8'
      go_loopw [6, 7, 19] (fun _ _ iv wr => ∃ i : Nat, iv = .int .i64 i ∧ i ≤ r.length ∧ R = VM.chkAll (r.drop i) ∧ Fr w wr) (fun _ _ iv _ => r.length - (intOf iv).toNat)
      case atStart => exact ⟨0, rfl, Nat.zero_le _, HE.out, Fr.refl _⟩
      case round =>
        obtain ⟨i, rfl, hi, hR, hfr⟩ := hrel
        by_cases hlt : i < r.length
        · have hlt' : (i : Int) < (r.length : Int) := by omega
          obtain ⟨b, o, rfl, hb, hat⟩ : ∃ b o, a = some ⟨b, o, none⟩ ∧ b < w.heap.size ∧ At cdV w b o r := by
            rcases HC.out with h | h
            · rw [h] at hlt; simp at hlt
            · exact h
          obtain ⟨d0, d1, d2⟩ := (hat.fr hb hfr).v3 i hlt
          rw [List.drop_eq_getElem_cons hlt] at hR
          have hck := fun W => check_any r[i].k r[i].n r[i].s W
          generalize r[i] = x at *
          obtain ⟨k, n, s⟩ := x
          simp only at d0 d1 d2 hck
          have HR : Hid (R = if VM.chk ⟨k, n, s⟩ = 0 then VM.chkAll (r.drop (i + 1)) else VM.chk ⟨k, n, s⟩) := hR
          have HF := hideP hfr
          clear hR hfr hat
          generalize VM.chk ⟨k, n, s⟩ = ck at *
          go_wp2_with fail
          refine (hck _).mono ?_
          rintro _ w2 ⟨rfl, f2⟩
          have F2 := hideP (HF.out.trans (((Fr.refl wr).alloc (.cells #[.int .i64 k, .int .i64 n, .string s] 33)).trans f2))
          clear f2 hck
          by_cases h0 : ck = 0
          · subst h0
            have HR2 := hideP (HR.out.trans (if_pos rfl))
            clear HR
            go_wp2_with fail
            go_roundw
            case rel => exact ⟨i + 1, by go_num, by omega, HR2.out, F2.out⟩
            case measure => simp [intOf]; omega
          · have HR2 := hideP (HR.out.trans (if_neg h0))
            have e1 : ((ck : Int) != 0) = true := by simp; omega
            have e2 : ¬ ((ck : Int) = 0) := by omega
            clear HR h0
            go_wp2_with fail
            go_ret
            exact ⟨by rw [HR2.out]; rfl, F2.out⟩
        · obtain rfl : i = r.length := by omega
          have HZ := hideP (show R = 0 by rw [hR, List.drop_length]; rfl)
          have HF := hideP hfr
          clear hR hfr
          go_wp2_with fail
          go_ret
          exact ⟨by rw [HZ.out]; rfl, HF.out⟩
    · replace HE := hideP (HE.out.trans (if_pos hw))
      have q1 : ((r.length : Int) != (wd : Int)) = true := by simp; omega
      have q2 : ¬ (r.length : Int) = (wd : Int) := by omega
      generalize r.length = n at *
      go_enter Tryz.func61, Tryz.ntmps61
      go_wp2_with fail
      go_ret
      exact ⟨by rw [HE.out]; rfl, Fr.refl _⟩
end Go.Proofs.YtoepifbpchpfkaaGreatDoor
