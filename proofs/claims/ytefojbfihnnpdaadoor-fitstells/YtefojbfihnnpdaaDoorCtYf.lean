/-
  The document's own FitsOf.
-/
import Derived.Test.YtefojbfihnnpdaaDoorCtYs
import Derived.Test.YtefojbfihnnpdaaDoorCtF
namespace Go.Proofs.YtefojbfihnnpdaaDoor
open Go.ChangeShapes Go.WideShapes Go.ChangeAt Go.RowKit
set_option linter.unusedVariables false
set_option linter.unusedSimpArgs false
set_option maxRecDepth 100000
set_option maxHeartbeats 2000000

set_option maxRecDepth 100000 in
set_option maxHeartbeats 1000000 in
theorem rcheck_any (k n : Int) (s : ByteArray) (w : World) :
    Calls Tryd.prog 39 #[.agg #[.int .i64 k, .int .i64 n, .string s]] w fun e w' => e = .returned (.int .i64 (VM.chk ⟨k, n, s⟩)) ∧ Fr w w' := by
  have hk : k < 0 ∨ k = 0 ∨ k = 1 ∨ k = 2 ∨ k = 3 ∨ 3 < k := by omega
  by_cases hz : s.size = 0
  · obtain rfl : s = ⟨#[]⟩ := by
      have := (toList_nil s).2 hz
      rw [ByteArray.toList_eq] at this
      cases s
      simp_all
    clear hz
    rcases hk with hk | rfl | rfl | rfl | rfl | hk
    all_goals
      go_enter Tryd.func39, Tryd.ntmps39
      go_wp2
      all_goals
        go_ret
        refine ⟨ret_int ?_, (Fr.refl _).alloc _⟩
        try simp only [Bool.or_eq_true, Bool.and_eq_true, beq_iff_eq, bne_iff_ne, decide_eq_true_eq, Bool.not_eq_true', Bool.or_eq_false_iff, beq_eq_false_iff_ne] at *
        unfold VM.chk
        simp only [show (⟨#[]⟩ : ByteArray).size = 0 from rfl]
        repeat' split
        all_goals first | rfl | omega | (exfalso; simp_all)
  · have h1 : (s.toList == []) = false := by simp only [beq_eq_false_iff_ne, ne_eq, toList_nil]; exact hz
    have h2 : (s.toList != []) = true := by simp only [bne_iff_ne, ne_eq, toList_nil]; exact hz
    have h3 : ¬ s.toList = [] := by rw [toList_nil]; exact hz
    rcases hk with hk | rfl | rfl | rfl | rfl | hk
    all_goals
      go_enter Tryd.func39, Tryd.ntmps39
      go_wp2
      all_goals
        clear h1 h2 h3
        go_ret
        refine ⟨ret_int ?_, (Fr.refl _).alloc _⟩
        try simp only [Bool.or_eq_true, Bool.and_eq_true, beq_iff_eq, bne_iff_ne, decide_eq_true_eq, Bool.not_eq_true', Bool.or_eq_false_iff, beq_eq_false_iff_ne, toList_nil] at *
        unfold VM.chk
        simp only
        repeat' split
        all_goals first | rfl | omega | (exfalso; simp_all)
theorem s3_after {w w' : World} {a b c : Addr} {u v z : Value} (f : Fr w w') (h : w.cell? a = some u ∧ w.cell? b = some v ∧ w.cell? c = some z) : w'.cell? a = some u ∧ w'.cell? b = some v ∧ w'.cell? c = some z :=
  ⟨(Below.cell f (World.block_lt_of_cell? _ _ h.1)).trans h.1, (Below.cell f (World.block_lt_of_cell? _ _ h.2.1)).trans h.2.1, (Below.cell f (World.block_lt_of_cell? _ _ h.2.2)).trans h.2.2⟩
theorem fitsOf_any (s : CT.Sc) (u v : Value) (r : List VM.Vl) (w : World) (h : IsL cdC w u s.c) (hv : IsRow w v r) (hw : WS [s]) (hr : r.length ≤ 9223372036854775806) :
    Calls Tryd.prog 18 #[.agg #[.int .i64 s.id, .string s.n, u], v] w fun e w' => e = .returned (.int .i64 (CT.fits s r)) ∧ Fr w w' := by
  obtain ⟨a, cap, rfl, hcap, hcs⟩ := id h
  obtain ⟨av, capv, rfl, hvs⟩ := hv
  have hsc : s.c.length ≤ 9223372036854775806 := (hw s (by simp)).2.2
  have HB := hideP (Blk.new w #[.int .i64 s.id, .string s.n, .slice a s.c.length cap] 39)
  have hls := lit_sc (w.alloc (.cells #[.int .i64 s.id, .string s.n, .slice a s.c.length cap] 39)) s (a, s.c.length, cap) (h.fr ((Fr.refl w).alloc _))
  rw [World.size_alloc] at hls
  have cc := schemasCheck_any _ [s] _ hls hw
  simp only [slV] at cc
  have HF : Hid (CT.fits s r = if CT.chk [s] ≠ 0 then CT.chk [s] else if r.length ≠ s.c.length then 1 else CT.fitL s.c r) := rfl
  obtain ⟨z, hz⟩ : ∃ z, CT.fits s r = z := ⟨_, rfl⟩
  rw [hz] at HF ⊢
  generalize CT.chk [s] = ch at cc HF
  obtain ⟨m, hm⟩ : ∃ m, s.c.length = m := ⟨_, rfl⟩
  rw [hm] at cc HF HB hsc hcap ⊢
  have HM := hideP hm
  have HC := hideP hcs
  have HV := hideP hvs
  have F1 : Hid (Fr w ((w.alloc (.cells #[.int .i64 s.id, .string s.n, .slice a m cap] 39)).alloc (.cells #[.int .i64 s.id, .string s.n, .slice a m cap] 39))) := ((Fr.refl w).alloc _).alloc _
  have HB1 := hideP (HB.out.old (.cells #[.int .i64 s.id, .string s.n, .slice a m cap] 39))
  clear h hls hz hcs hvs hm hw
  by_cases h0 : ch = 0
  · subst h0
    replace HF := hideP (HF.out.trans (if_neg (by simp)))
    go_enter Tryd.func18, Tryd.ntmps18
    go_wp2_with fail
    refine cc.mono ?_
    rintro _ w1 ⟨rfl, f1⟩
    have HBw := hideP (HB1.out.fr f1)
    have k2 := HBw.out.cell 2 rfl
    have F2 : Hid (Fr w w1) := F1.out.trans f1
    clear cc f1 F1 HB HB1
    by_cases h1 : r.length = m
    · replace HF := hideP (HF.out.trans (if_neg (by simp [h1])))
      have HR := hideP h1
      rw [h1]
      clear h1 hr
      go_wp2_with fail
      clear k2
      go_loopw [5, 6] (fun _ iv wr => ∃ i : Nat, iv = .int .i64 i ∧ i ≤ m ∧ Fr w1 wr ∧ z = CT.fitL (s.c.drop i) (r.drop i)) (fun _ iv _ => m - (intOf iv).toNat)
      case atStart => exact ⟨0, rfl, Nat.zero_le _, Fr.refl _, HF.out⟩
      case round =>
        obtain ⟨i, rfl, hi, hfr, hall⟩ := hrel
        have HFr := hideP hfr
        clear hfr
        by_cases hlt : i < m
        · have hlt2 : i < s.c.length := by rw [HM.out]; exact hlt
          have hlt3 : i < r.length := by rw [HR.out]; exact hlt
          have hlt' : (i : Int) < (m : Int) := by omega
          obtain ⟨b, o, rfl, hb, hc⟩ : ∃ b o, a = some ⟨b, o, none⟩ ∧ b < w.heap.size ∧ At cdC w b o s.c := by
            rcases HC.out with h | h
            · rw [h] at hlt2; simp at hlt2
            · exact h
          obtain ⟨bv, ov, rfl, hbv, hcv⟩ : ∃ b o, av = some ⟨b, o, none⟩ ∧ b < w.heap.size ∧ CellsAt w b o r := by
            rcases HV.out with h | h
            · rw [h] at hlt3; simp at hlt3
            · exact h
          have hcells : ∀ W, Fr wr W → (W.cell? ⟨b, o + i * 4 + 1, none⟩ = some (.int .i64 s.c[i].k) ∧ W.cell? ⟨b, o + i * 4 + 2, none⟩ = some (.bool s.c[i].nn)) ∧ W.cell? ⟨bv, ov + i * 3, none⟩ = some (.int .i64 r[i].k) ∧ W.cell? ⟨w.heap.size, 2, none⟩ = some (.slice (some ⟨b, o, none⟩) m cap) := fun W f => by
            have f' := (F2.out.trans HFr.out).trans f
            obtain ⟨c0, c1, c2, c3⟩ := (hc.fr hb f').co i hlt2
            exact ⟨⟨c1, c2⟩, (hcv.fr hbv f' i hlt3).1, (HBw.out.fr (HFr.out.trans f)).cell 2 rfl⟩
          obtain ⟨d0, d1, d2⟩ := (hcv.fr hbv (F2.out.trans HFr.out)) i hlt3
          rw [List.drop_eq_getElem_cons hlt2, List.drop_eq_getElem_cons hlt3, CT.fitL] at hall
          have cv := fun W => rcheck_any r[i].k r[i].n r[i].s W
          have hft : CT.fit s.c[i] r[i] = if VM.chk r[i] ≠ 0 then VM.chk r[i] else if r[i].k = 0 ∧ s.c[i].nn = true then 5 else if r[i].k ≠ 0 ∧ s.c[i].k ≠ 0 ∧ s.c[i].k ≠ r[i].k then 7 else 0 := rfl
          rw [show VM.chk ⟨r[i].k, r[i].n, r[i].s⟩ = VM.chk r[i] from rfl] at cv
          generalize CT.fit s.c[i] r[i] = ft at hall hft
          generalize VM.chk r[i] = ch at hft cv
          generalize s.c[i].k = ck at hcells hft
          generalize s.c[i].nn = cb at hcells hft
          generalize r[i].k = xk at d0 cv hcells hft
          generalize r[i].n = xn at d1 cv
          generalize r[i].s = xs at d2 cv
          have HA := hideP hall
          have HCE := hideP hcells
          have HFt := hideP hft
          clear hall hc hcv hcells hft
          by_cases g0 : ch = 0
          · subst g0
            replace HFt := hideP (HFt.out.trans (if_neg (by simp)))
            have fin : ∀ q : Nat, ft = q → (xk = 0 ∧ cb = true ∧ q = 5 ∨ xk = 0 ∧ cb = false ∧ q = 0 ∨ xk ≠ 0 ∧ ck = 0 ∧ q = 0 ∨ xk ≠ 0 ∧ ck ≠ 0 ∧ ck ≠ xk ∧ q = 7 ∨ xk ≠ 0 ∧ ck ≠ 0 ∧ ck = xk ∧ q = 0) := by
              intro q hq
              subst hq
              rw [HFt.out]
              by_cases e1 : xk = 0
              · cases cb with
                | true => rw [if_pos ⟨e1, rfl⟩]; exact .inl ⟨e1, rfl, rfl⟩
                | false => rw [if_neg (by simp), if_neg (by simp [e1])]; exact .inr (.inl ⟨e1, rfl, rfl⟩)
              · by_cases e2 : ck = 0
                · rw [if_neg (by simp [e1]), if_neg (by simp [e2])]; exact .inr (.inr (.inl ⟨e1, e2, rfl⟩))
                · by_cases e3 : ck = xk
                  · rw [if_neg (by simp [e1]), if_neg (by simp [e3])]; exact .inr (.inr (.inr (.inr ⟨e1, e2, e3, rfl⟩)))
                  · rw [if_neg (by simp [e1]), if_pos ⟨e1, e2, e3⟩]; exact .inr (.inr (.inr (.inl ⟨e1, e2, e3, rfl⟩)))
            have fin2 := fin ft rfl
            clear fin HFt
            go_wp2_with fail
            refine (cv _).mono ?_
            rintro _ w5 ⟨rfl, f5⟩
            obtain ⟨⟨p1, p2⟩, p3, p4⟩ := HCE.out w5 f5
            have F5 := hideP (HFr.out.trans f5)
            have hz := Fr.drew (Fr.refl w5)
            clear f5 d0 d1 d2 cv HCE
            rcases fin2 with ⟨rfl, rfl, rfl⟩ | ⟨rfl, rfl, rfl⟩ | ⟨e1, rfl, rfl⟩ | ⟨e1, e2, e3, rfl⟩ | ⟨e1, e2, rfl, rfl⟩
            · have HZ := hideP (HA.out.trans (if_pos (by simp)))
              go_wp2_with fail
              go_ret
              exact ⟨ret_int (by rw [HZ.out]; rfl), F2.out.trans F5.out⟩
            · have HZ := hideP (HA.out.trans (if_neg (by simp)))
              go_wp2_with fail
              first | go_region | fail
              go_wp2_with fail
              go_roundw
              case rel => exact ⟨i + 1, by go_num, by omega, F5.out.trans hz, HZ.out⟩
              case measure => simp [intOf]; omega
            · have HZ := hideP (HA.out.trans (if_neg (by simp)))
              have q1 : (xk == 0) = false := by simpa using e1
              have q2 : (xk != 0) = true := by simpa using e1
              go_wp2_with fail
              first | go_region | fail
              all_goals go_wp2_with fail
              all_goals go_roundw
              case rel => exact ⟨i + 1, by go_num, by omega, F5.out.trans hz, HZ.out⟩
              case measure => simp [intOf]; omega
            · have HZ := hideP (HA.out.trans (if_pos (by simp)))
              have q1 : (xk == 0) = false := by simpa using e1
              have q2 : (xk != 0) = true := by simpa using e1
              have q3 : (ck != 0) = true := by simpa using e2
              have q4 : (xk != ck) = true := by simp; exact fun h => e3 h.symm
              have q5 : ¬ xk = ck := fun h => e3 h.symm
              have HS3 := hideP (show w5.cell? ⟨b, o + i * 4 + 1, none⟩ = some (.int .i64 ck) ∧ w5.cell? ⟨bv, ov + i * 3, none⟩ = some (.int .i64 xk) ∧ w5.cell? ⟨w.heap.size, 2, none⟩ = some (.slice (some ⟨b, o, none⟩) m cap) from ⟨p1, p3, p4⟩)
              go_upto_region 14 with fail
              go_region_held3 (fun W => W.cell? ⟨b, o + i * 4 + 1, none⟩ = some (.int .i64 ck) ∧ W.cell? ⟨bv, ov + i * 3, none⟩ = some (.int .i64 xk) ∧ W.cell? ⟨w.heap.size, 2, none⟩ = some (.slice (some ⟨b, o, none⟩) m cap)) (first | exact HS3.out | exact s3_after hz HS3.out) (first | fail)
              all_goals go_wp2_with fail
              all_goals go_ret
              all_goals exact ⟨ret_int (by rw [HZ.out]; rfl), F2.out.trans (F5.out.trans hz)⟩
            · have HZ := hideP (HA.out.trans (if_neg (by simp)))
              have q1 : (ck == 0) = false := by simpa using e1
              have q2 : (ck != 0) = true := by simpa using e1
              have HS3 := hideP (show w5.cell? ⟨b, o + i * 4 + 1, none⟩ = some (.int .i64 ck) ∧ w5.cell? ⟨bv, ov + i * 3, none⟩ = some (.int .i64 ck) ∧ w5.cell? ⟨w.heap.size, 2, none⟩ = some (.slice (some ⟨b, o, none⟩) m cap) from ⟨p1, p3, p4⟩)
              go_upto_region 14 with fail
              go_region_held3 (fun W => W.cell? ⟨b, o + i * 4 + 1, none⟩ = some (.int .i64 ck) ∧ W.cell? ⟨bv, ov + i * 3, none⟩ = some (.int .i64 ck) ∧ W.cell? ⟨w.heap.size, 2, none⟩ = some (.slice (some ⟨b, o, none⟩) m cap)) (first | exact HS3.out | exact s3_after hz HS3.out) (first | fail)
              all_goals go_wp2_with fail
              all_goals go_roundw
              case rel => exact ⟨i + 1, by go_num, by omega, F5.out.trans hz, HZ.out⟩
              case measure => simp [intOf]; omega
          · have hfc := HFt.out.trans (if_pos g0)
            have HZ := hideP (HA.out.trans (if_pos (by rw [hfc]; exact g0)))
            have HZ2 := hideP hfc
            have e1 : ((ch : Int) != 0) = true := by simp; omega
            have e2 : ¬ ((ch : Int) = 0) := by omega
            clear HA HFt hfc
            go_wp2_with fail
            refine (cv _).mono ?_
            rintro _ w5 ⟨rfl, f5⟩
            go_wp2_with fail
            go_ret
            exact ⟨ret_int (by rw [HZ.out, HZ2.out]), F2.out.trans (HFr.out.trans f5)⟩
        · have HZ : Hid (z = 0) := by unfold Hid; rw [hall, List.drop_of_length_le (by rw [HM.out]; omega)]; rfl
          have hlt' : ¬ (i : Int) < (m : Int) := by omega
          clear hall
          go_wp2_with fail
          go_ret
          exact ⟨ret_int (by rw [HZ.out]; rfl), F2.out.trans HFr.out⟩
    · replace HF := hideP (HF.out.trans (if_pos h1))
      have e1 : ((r.length : Int) != (m : Int)) = true := by simp; omega
      have e2 : ¬ ((r.length : Int) = (m : Int)) := by omega
      go_wp2_with fail
      go_ret
      exact ⟨ret_int (by rw [HF.out]; rfl), F2.out⟩
  · replace HF := hideP (HF.out.trans (if_pos h0))
    have e1 : ((ch : Int) != 0) = true := by simp; omega
    have e2 : ¬ ((ch : Int) = 0) := by omega
    go_enter Tryd.func18, Tryd.ntmps18
    go_wp2_with fail
    refine cc.mono ?_
    rintro _ w1 ⟨rfl, f1⟩
    go_wp2_with fail
    go_ret
    exact ⟨ret_int (by rw [HF.out]), F1.out.trans f1⟩
end Go.Proofs.YtefojbfihnnpdaaDoor
