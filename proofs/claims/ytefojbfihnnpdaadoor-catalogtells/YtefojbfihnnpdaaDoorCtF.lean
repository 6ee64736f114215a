/-
  What fitsColumn and Fits of package catalog answer.
-/
import Derived.Test.YtefojbfihnnpdaaDoorCtD
import Derived.Deep.DeepCutAuto
import Derived.Deep.CutRange
namespace Go.Proofs.YtefojbfihnnpdaaDoor
open Go.ChangeShapes Go.WideShapes Go.ChangeAt Go.RowKit
set_option linter.unusedVariables false
set_option linter.unusedSimpArgs false
set_option maxRecDepth 100000
set_option maxHeartbeats 2000000

namespace CT
def fit (c : Cl) (v : VM.Vl) : Nat := if VM.chk v ≠ 0 then VM.chk v else if v.k = 0 ∧ c.nn = true then 5 else if v.k ≠ 0 ∧ c.k ≠ 0 ∧ c.k ≠ v.k then 7 else 0
def fitL : List Cl → List VM.Vl → Nat
  | c :: l, v :: r => if fit c v ≠ 0 then fit c v else fitL l r
  | _, _ => 0
def fits (s : Sc) (r : List VM.Vl) : Nat := if chk [s] ≠ 0 then chk [s] else if r.length ≠ s.c.length then 1 else fitL s.c r
end CT
theorem fitsColumn_any (c : CT.Cl) (x : VM.Vl) (w : World) :
    Calls Tryd.prog 38 #[.agg #[.string c.n, .int .i64 c.k, .bool c.nn, .bool c.u], .agg #[.int .i64 x.k, .int .i64 x.n, .string x.s]] w fun e w' => e = .returned (.int .i64 (CT.fit c x)) ∧ Fr w w' := by
  have cv := fun W => check_any x.k x.n x.s W
  have HF : Hid (CT.fit c x = if VM.chk x ≠ 0 then VM.chk x else if x.k = 0 ∧ c.nn = true then 5 else if x.k ≠ 0 ∧ c.k ≠ 0 ∧ c.k ≠ x.k then 7 else 0) := rfl
  obtain ⟨z, hz⟩ : ∃ z, CT.fit c x = z := ⟨_, rfl⟩
  rw [hz] at HF ⊢
  rw [show VM.chk ⟨x.k, x.n, x.s⟩ = VM.chk x from rfl] at cv
  generalize VM.chk x = ch at cv HF
  obtain ⟨cn, ck, cb, cu⟩ := c
  obtain ⟨xk, xn, xs⟩ := x
  simp only at HF cv ⊢
  clear hz
  have B2 := Blk.new (w.alloc (.cells #[.string cn, .int .i64 ck, .bool cb, .bool cu] 44)) #[.int .i64 xk, .int .i64 xn, .string xs] 46
  rw [World.size_alloc] at B2
  have HB1 := hideP ((Blk.new w #[.string cn, .int .i64 ck, .bool cb, .bool cu] 44).old (.cells #[.int .i64 xk, .int .i64 xn, .string xs] 46))
  have HB2 := hideP B2
  clear B2
  by_cases h0 : ch = 0
  · subst h0
    replace HF := hideP (HF.out.trans (if_neg (by simp)))
    have go : ∀ (r : Nat), z = r → (xk = 0 ∧ cb = true ∧ r = 5 ∨ xk = 0 ∧ cb = false ∧ r = 0 ∨ xk ≠ 0 ∧ ck = 0 ∧ r = 0 ∨ xk ≠ 0 ∧ ck ≠ 0 ∧ ck ≠ xk ∧ r = 7 ∨ xk ≠ 0 ∧ ck ≠ 0 ∧ ck = xk ∧ r = 0) →
        Calls Tryd.prog 38 #[.agg #[.string cn, .int .i64 ck, .bool cb, .bool cu], .agg #[.int .i64 xk, .int .i64 xn, .string xs]] w fun e w' => e = .returned (.int .i64 z) ∧ Fr w w' := by
      intro r hr hh
      clear HF
      rw [hr]
      clear hr
      rcases hh with ⟨rfl, rfl, rfl⟩ | ⟨rfl, rfl, rfl⟩ | ⟨h1, rfl, rfl⟩ | ⟨h1, h2, h3, rfl⟩ | ⟨h1, h2, rfl, rfl⟩
      · go_enter Tryd.func38, Tryd.ntmps38
        go_wp2_with fail
        refine (cv _).mono ?_
        rintro _ w1 ⟨rfl, f1⟩
        have j1 := (HB1.out.fr f1).cell 1 rfl
        have j2 := (HB1.out.fr f1).cell 2 rfl
        have j3 := (HB2.out.fr f1).cell 0 rfl
        go_wp2_with fail
        go_ret
        exact ⟨rfl, (((Fr.refl w).alloc _).alloc _).trans f1⟩
      · go_enter Tryd.func38, Tryd.ntmps38
        go_wp2_with fail
        refine (cv _).mono ?_
        rintro _ w1 ⟨rfl, f1⟩
        have j1 := (HB1.out.fr f1).cell 1 rfl
        have j2 := (HB1.out.fr f1).cell 2 rfl
        have j3 := (HB2.out.fr f1).cell 0 rfl
        go_wp2_with fail
        go_ret
        exact ⟨rfl, (((Fr.refl w).alloc _).alloc _).trans f1⟩
      · have e1 : (xk == 0) = false := by simpa using h1
        have e2 : (xk != 0) = true := by simpa using h1
        go_enter Tryd.func38, Tryd.ntmps38
        go_wp2_with fail
        refine (cv _).mono ?_
        rintro _ w1 ⟨rfl, f1⟩
        have j1 := (HB1.out.fr f1).cell 1 rfl
        have j2 := (HB1.out.fr f1).cell 2 rfl
        have j3 := (HB2.out.fr f1).cell 0 rfl
        go_wp2_with fail
        go_ret
        exact ⟨rfl, (((Fr.refl w).alloc _).alloc _).trans f1⟩
      · have e1 : (xk == 0) = false := by simpa using h1
        have e2 : (xk != 0) = true := by simpa using h1
        have e3 : (ck != 0) = true := by simpa using h2
        have e4 : (ck != xk) = true := by simpa using h3
        go_enter Tryd.func38, Tryd.ntmps38
        go_wp2_with fail
        refine (cv _).mono ?_
        rintro _ w1 ⟨rfl, f1⟩
        have j1 := (HB1.out.fr f1).cell 1 rfl
        have j2 := (HB1.out.fr f1).cell 2 rfl
        have j3 := (HB2.out.fr f1).cell 0 rfl
        go_wp2_with fail
        go_ret
        exact ⟨rfl, (((Fr.refl w).alloc _).alloc _).trans f1⟩
      · have e1 : (ck == 0) = false := by simpa using h1
        have e2 : (ck != 0) = true := by simpa using h1
        go_enter Tryd.func38, Tryd.ntmps38
        go_wp2_with fail
        refine (cv _).mono ?_
        rintro _ w1 ⟨rfl, f1⟩
        have j1 := (HB1.out.fr f1).cell 1 rfl
        have j2 := (HB1.out.fr f1).cell 2 rfl
        have j3 := (HB2.out.fr f1).cell 0 rfl
        go_wp2_with fail
        go_ret
        exact ⟨rfl, (((Fr.refl w).alloc _).alloc _).trans f1⟩
    by_cases g1 : xk = 0
    · cases cb with
      | true => exact go 5 (by rw [HF.out, if_pos ⟨g1, rfl⟩]) (.inl ⟨g1, rfl, rfl⟩)
      | false => exact go 0 (by rw [HF.out, if_neg (by simp), if_neg (by simp [g1])]) (.inr (.inl ⟨g1, rfl, rfl⟩))
    · by_cases g2 : ck = 0
      · exact go 0 (by rw [HF.out, if_neg (by simp [g1]), if_neg (by simp [g2])]) (.inr (.inr (.inl ⟨g1, g2, rfl⟩)))
      · by_cases g3 : ck = xk
        · exact go 0 (by rw [HF.out, if_neg (by simp [g1]), if_neg (by simp [g3])]) (.inr (.inr (.inr (.inr ⟨g1, g2, g3, rfl⟩))))
        · exact go 7 (by rw [HF.out, if_neg (by simp [g1]), if_pos ⟨g1, g2, g3⟩]) (.inr (.inr (.inr (.inl ⟨g1, g2, g3, rfl⟩))))
  · replace HF := hideP (HF.out.trans (if_pos h0))
    have e1 : ((ch : Int) != 0) = true := by simp; omega
    have e2 : ¬ ((ch : Int) = 0) := by omega
    go_enter Tryd.func38, Tryd.ntmps38
    go_wp2_with fail
    refine (cv _).mono ?_
    rintro _ w1 ⟨rfl, f1⟩
    go_wp2_with fail
    go_ret
    exact ⟨ret_int (by rw [HF.out]), (((Fr.refl w).alloc _).alloc _).trans f1⟩
theorem lit_sc (W : World) (s : CT.Sc) (sl : Sl) (h : IsL cdC W (slV sl) s.c) : IsSc (W.alloc (.cells #[.int .i64 s.id, .string s.n, slV sl] 39)) (.slice (some ⟨W.heap.size, 0, none⟩) 1 1) [s] :=
  ⟨[(s, sl)], lit_one cdS W (s, sl) 39, rfl, fun p hp => by
    obtain rfl : p = (s, sl) := by simpa using hp
    exact h.fr ((Fr.refl W).alloc _)⟩
theorem fits_any (s : CT.Sc) (u v : Value) (r : List VM.Vl) (w : World) (h : IsL cdC w u s.c) (hv : IsRow w v r) (hw : WS [s]) (hr : r.length ≤ 9223372036854775806) :
    Calls Tryd.prog 17 #[.agg #[.int .i64 s.id, .string s.n, u], v] w fun e w' => e = .returned (.int .i64 (CT.fits s r)) ∧ Fr w w' := by
  obtain ⟨a, cap, rfl, hcap, hcs⟩ := id h
  obtain ⟨av, capv, rfl, hvs⟩ := hv
  have hsc : s.c.length ≤ 9223372036854775806 := (hw s (by simp)).2.2
  have HB := hideP (Blk.new w #[.int .i64 s.id, .string s.n, .slice a s.c.length cap] 39)
  have hls := lit_sc (w.alloc (.cells #[.int .i64 s.id, .string s.n, .slice a s.c.length cap] 39)) s (a, s.c.length, cap) (h.fr ((Fr.refl w).alloc _))
  rw [World.size_alloc] at hls
  have cc := ccheck_any _ [s] _ hls hw
  simp only [slV] at cc
  have HF : Hid (CT.fits s r = if CT.chk [s] ≠ 0 then CT.chk [s] else if r.length ≠ s.c.length then 1 else CT.fitL s.c r) := rfl
  obtain ⟨z, hz⟩ : ∃ z, CT.fits s r = z := ⟨_, rfl⟩
  rw [hz] at HF ⊢
  generalize CT.chk [s] = ch at cc HF
  obtain ⟨m, hm⟩ : ∃ m, s.c.length = m := ⟨_, rfl⟩
  rw [hm] at cc HF HB hsc hcap ⊢
  have HM := hideP hm
  have HC := hideP hcs
  have HV := hideP hvs
  have F1 : Hid (Fr w ((w.alloc (.cells #[.int .i64 s.id, .string s.n, .slice a m cap] 39)).alloc (.cells #[.int .i64 s.id, .string s.n, .slice a m cap] 39))) := ((Fr.refl w).alloc _).alloc _
  clear h hls hz hcs hvs hm hw
  by_cases h0 : ch = 0
  · subst h0
    replace HF := hideP (HF.out.trans (if_neg (by simp)))
    go_enter Tryd.func17, Tryd.ntmps17
    go_wp2_with fail
    refine cc.mono ?_
    rintro _ w1 ⟨rfl, f1⟩
    have k2 := ((HB.out.old _).fr f1).cell 2 rfl
    have F2 : Hid (Fr w w1) := F1.out.trans f1
    clear cc f1 F1
    by_cases h1 : r.length = m
    · replace HF := hideP (HF.out.trans (if_neg (by simp [h1])))
      have HR := hideP h1
      rw [h1]
      clear h1 hr
      go_wp2_with fail
      go_loopw [6, 7, 8, 24] (fun _ _ _ iv wr => ∃ i : Nat, iv = .int .i64 i ∧ i ≤ m ∧ Fr w wr ∧ z = CT.fitL (s.c.drop i) (r.drop i)) (fun _ _ _ iv _ => m - (intOf iv).toNat)
      case atStart => exact ⟨0, rfl, Nat.zero_le _, F2.out, HF.out⟩
      case round =>
        obtain ⟨i, rfl, hi, hfr, hall⟩ := hrel
        have HFr := hideP hfr
        clear hfr
        by_cases hlt : i < m
        · have hlt2 : i < s.c.length := by rw [HM.out]; exact hlt
          have hlt3 : i < r.length := by rw [HR.out]; exact hlt
          have hlt' : (i : Int) < (m : Int) := by omega
          obtain ⟨b, o, rfl, hb, hc⟩ : ∃ b o, a = some ⟨b, o, none⟩ ∧ b < w.heap.size ∧ At cdC w b o s.c := by
            rcases HC.out with h | h
            · rw [h] at hlt2; simp at hlt2
            · exact h
          obtain ⟨bv, ov, rfl, hbv, hcv⟩ : ∃ b o, av = some ⟨b, o, none⟩ ∧ b < w.heap.size ∧ CellsAt w b o r := by
            rcases HV.out with h | h
            · rw [h] at hlt3; simp at hlt3
            · exact h
          obtain ⟨c0, c1, c2, c3⟩ := (hc.fr hb HFr.out).co i hlt2
          obtain ⟨d0, d1, d2⟩ := (hcv.fr hbv HFr.out) i hlt3
          rw [List.drop_eq_getElem_cons hlt2, List.drop_eq_getElem_cons hlt3, CT.fitL] at hall
          have cf := fun W => fitsColumn_any s.c[i] r[i] W
          generalize CT.fit s.c[i] r[i] = ft at hall cf
          generalize s.c[i].n = x0 at c0 cf
          generalize s.c[i].k = x1 at c1 cf
          generalize s.c[i].nn = x2 at c2 cf
          generalize s.c[i].u = x3 at c3 cf
          generalize r[i].k = y0 at d0 cf
          generalize r[i].n = y1 at d1 cf
          generalize r[i].s = y2 at d2 cf
          have HBC := hideP (Blk.new wr #[.string x0, .int .i64 x1, .bool x2, .bool x3] 44)
          have fal := (Fr.refl wr).alloc (.cells #[.string x0, .int .i64 x1, .bool x2, .bool x3] 44)
          have q0 := HBC.out.cell 0 rfl
          have q1 := HBC.out.cell 1 rfl
          have q2 := HBC.out.cell 2 rfl
          have q3 := HBC.out.cell 3 rfl
          have hbv2 : bv < wr.heap.size := Nat.lt_of_lt_of_le hbv HFr.out.size
          have r0 := (Below.cell fal hbv2).trans d0
          have r1 := (Below.cell fal hbv2).trans d1
          have r2 := (Below.cell fal hbv2).trans d2
          have HA := hideP hall
          have CF := hideP cf
          clear hall hc hcv cf
          by_cases hft : ft = 0
          · have HZ := hideP (HA.out.trans (if_neg (by simp [hft])))
            subst hft
            clear HA
            go_upto_region 9 with fail
            go_region_with (go_at_call 38; refine (CF.out _).mono ?_; rintro _ w5 ⟨rfl, f5⟩; have F5 : Hid (Fr w w5) := (Fr.drew (HFr.out.trans fal)).trans f5; clear f5)
            all_goals (
              go_wp2_with fail
              go_roundw
              case rel => exact ⟨i + 1, by go_num, by omega, F5.out, HZ.out⟩
              case measure => simp [intOf]; omega)
          · have HZ := hideP (HA.out.trans (if_pos hft))
            have e1 : ((ft : Int) != 0) = true := by simp; omega
            have e2 : ¬ ((ft : Int) = 0) := by omega
            clear HA
            go_upto_region 9 with fail
            go_region_with (go_at_call 38; refine (CF.out _).mono ?_; rintro _ w5 ⟨rfl, f5⟩; have F5 : Hid (Fr w w5) := (Fr.drew (HFr.out.trans fal)).trans f5; clear f5)
            all_goals go_wp2_with fail
            all_goals go_ret
            all_goals exact ⟨ret_int (by rw [HZ.out]), F5.out⟩
        · have HZ : Hid (z = 0) := by unfold Hid; rw [hall, List.drop_of_length_le (by rw [HM.out]; omega)]; rfl
          have hlt' : ¬ (i : Int) < (m : Int) := by omega
          clear hall
          go_wp2_with fail
          go_ret
          exact ⟨ret_int (by rw [HZ.out]; rfl), HFr.out⟩
    · replace HF := hideP (HF.out.trans (if_pos h1))
      have e1 : ((r.length : Int) != (m : Int)) = true := by simp; omega
      have e2 : ¬ ((r.length : Int) = (m : Int)) := by omega
      go_wp2_with fail
      go_ret
      exact ⟨ret_int (by rw [HF.out]; rfl), F2.out⟩
  · replace HF := hideP (HF.out.trans (if_pos h0))
    have e1 : ((ch : Int) != 0) = true := by simp; omega
    have e2 : ¬ ((ch : Int) = 0) := by omega
    go_enter Tryd.func17, Tryd.ntmps17
    go_wp2_with fail
    refine cc.mono ?_
    rintro _ w1 ⟨rfl, f1⟩
    go_wp2_with fail
    go_ret
    exact ⟨ret_int (by rw [HF.out]), F1.out.trans f1⟩
end Go.Proofs.YtefojbfihnnpdaaDoor
