/-
  What the document's nodeOf answers of like.
-/
import Derived.Test.YtjljohmflhmkmaaGreatDoorGpJ
import Derived.Test.YtjljohmflhmkmaaGreatDoorGpI
namespace Go.Proofs.YtjljohmflhmkmaaGreatDoor
open Go.ChangeShapes Go.WideShapes Go.ChangeAt Go.RowKit
set_option linter.unusedVariables false
set_option linter.unusedSimpArgs false
set_option maxRecDepth 100000
set_option maxHeartbeats 4000000

theorem nodeOf_like (op kids vk vn : Int) (vs nm : ByteArray) (l : List VM.Vl) (kv cv rv : Value) (w : World) (R : Except Nat VM.Vl) (hop : op = 20 ∨ op = 21) (h : IsL cdV w kv l) (hp : 0 < l.length) (hl : l.length ≤ 7) (pe : Nat) (mt : Bool) (hl2 : l.length = 2) (hR : R = if 0 < l.countP EV.kI + l.countP EV.kB then .error 7 else if 0 < l.countP EV.kN then .ok EX.nul else if pe ≠ 0 then .error pe else .ok (EV.vt (if mt = decide (op = 20) then 2 else 0)))
    (hpc : ∀ W, Calls Tryz.prog 86 #[.string (l[1]'(by omega)).s] W fun e w' => e = .returned (.int .i64 (pe : Int)) ∧ Fr W w')
    (hmt : pe = 0 → ∀ W, Calls Tryz.prog 88 #[.string (l[1]'(by omega)).s, .string (l[0]'hp).s] W fun e w' => e = .returned (.bool mt) ∧ Fr W w') :
    Calls Tryz.prog 60 #[.agg #[.int .i64 op, .int .i64 kids, .int .i64 vk, .int .i64 vn, .string vs, .string nm], kv, cv, rv] w fun e w' => e = .returned (exV R) ∧ Fr w w' := by
  obtain ⟨W0, hW0⟩ : ∃ W0, (w.alloc (.cells #[.int .i64 op, .int .i64 kids, .int .i64 vk, .int .i64 vn, .string vs, .string nm] 38)).alloc (.cells #[.int .i64 0, .int .i64 0, .string ⟨#[]⟩] 26) = W0 := ⟨_, rfl⟩
  have HN := hideP (show Blk W0 w.heap.size #[.int .i64 op, .int .i64 kids, .int .i64 vk, .int .i64 vn, .string vs, .string nm] 38 by rw [← hW0]; exact (Blk.new w _ _).old _)
  have HB1 := hideP (show Blk W0 (w.heap.size + 1) #[.int .i64 0, .int .i64 0, .string ⟨#[]⟩] 26 by rw [← hW0]; have := Blk.new (w.alloc (.cells #[.int .i64 op, .int .i64 kids, .int .i64 vk, .int .i64 vn, .string vs, .string nm] 38)) #[.int .i64 0, .int .i64 0, .string ⟨#[]⟩] 26; simpa using this)
  have HF0 := hideP (show Fr w W0 by rw [← hW0]; exact ((Fr.refl w).alloc _).alloc _)
  have hle0 := Fr.size HF0.out
  have u0 := HN.out.cell 0 rfl
  have u1 := HN.out.cell 1 rfl
  have u2 := HN.out.cell 2 rfl
  have u3 := HN.out.cell 3 rfl
  have u4 := HN.out.cell 4 rfl
  have u5 := HN.out.cell 5 rfl
  obtain ⟨a, cap, rfl, hcap, hcs⟩ := h
  obtain ⟨b, o, rfl, hb, hat⟩ : ∃ b o, a = some ⟨b, o, none⟩ ∧ b < w.heap.size ∧ At cdV w b o l := by
    rcases hcs with h | h
    · rw [h] at hp; simp at hp
    · exact h
  have HAt := hideP (hat.fr hb HF0.out)
  have HAt0 := hideP hat
  have HR := hideP hR
  have HOp := hideP hop
  have q1 : (op == 1) = false := by simp; omega
  have q2 : (op == 2) = false := by simp; omega
  clear hcs hat hR hop
  have HPc := hideP hpc
  have HMt := hideP hmt
  have HS := hideP (show W0.cell? ⟨w.heap.size, 0, none⟩ = some (.int .i64 op) ∧ W0.cell? ⟨b, o + 2, none⟩ = some (.string (l[0]'hp).s) ∧ W0.cell? ⟨b, o + 3 + 2, none⟩ = some (.string (l[1]'(by omega)).s) from ⟨u0, by have := (HAt.out.v3 0 hp).2.2; simpa using this, by have := (HAt.out.v3 1 (by omega)).2.2; simpa using this⟩)
  obtain ⟨s0, hs0⟩ : ∃ s0, (l[0]'hp).s = s0 := ⟨_, rfl⟩
  obtain ⟨s1, hs1⟩ : ∃ s1, (l[1]'(by omega)).s = s1 := ⟨_, rfl⟩
  rw [hs0] at HMt HS
  rw [hs1] at HPc HMt HS
  have HL2 := hideP hl2
  clear hpc hmt hs0 hs1 hl2
  go_enter Tryz.func60, Tryz.ntmps60
  go_wp2_with fail
  clear q1 q2
  go_loop [11, 12, 13, 14, 15] (fun x0 x1 x2 x3 x4 => ∃ i c0 c1 c2 c3 : Nat, x4 = .int .i64 i ∧ x0 = .int .i64 c0 ∧ x1 = .int .i64 c1 ∧ x2 = .int .i64 c2 ∧ x3 = .int .i64 c3 ∧ i ≤ l.length ∧ c0 + c1 + c2 + c3 = i ∧ (l.take i).countP EV.kN = c0 ∧ (l.take i).countP EV.kT = c1 ∧ (l.take i).countP EV.kI = c2 ∧ (l.take i).countP EV.kB = c3) (fun _ _ _ _ x4 => l.length - (intOf x4).toNat)
  case atStart => exact ⟨0, 0, 0, 0, 0, rfl, rfl, rfl, rfl, rfl, Nat.zero_le _, rfl, rfl, rfl, rfl, rfl⟩
  case round =>
    obtain ⟨i, c0, c1, c2, c3, rfl, rfl, rfl, rfl, rfl, hi, hs, e0, e1, e2, e3⟩ := hrel
    by_cases hlt : i < l.length
    · have hlt' : (i : Int) < (l.length : Int) := by omega
      have d0 := (HAt.out.v3 i hlt).1
      have t0 := EV.countP_take EV.kN hlt
      have t1 := EV.countP_take EV.kT hlt
      have t2 := EV.countP_take EV.kI hlt
      have t3 := EV.countP_take EV.kB hlt
      rw [e0] at t0
      rw [e1] at t1
      rw [e2] at t2
      rw [e3] at t3
      generalize l[i] = x at *
      obtain ⟨k, xn, xs⟩ := x
      simp only [EV.kN, EV.kT, EV.kI, EV.kB] at d0 t0 t1 t2 t3
      rcases (show k = 0 ∨ k = 1 ∨ k = 2 ∨ (k ≠ 0 ∧ k ≠ 1 ∧ k ≠ 2) by omega) with rfl | rfl | rfl | ⟨k0, k1, k2⟩
      · have HT := hideP (show _ ∧ _ ∧ _ ∧ _ from ⟨t0, t1, t2, t3⟩)
        clear t0 t1 t2 t3 e0 e1 e2 e3
        go_wp2_with fail
        go_round
        case rel => exact ⟨i + 1, c0 + 1, c1, c2, c3, by go_num, by go_num, rfl, rfl, rfl, by omega, by omega, by rw [HT.out.1]; simp, by rw [HT.out.2.1]; simp, by rw [HT.out.2.2.1]; simp, by rw [HT.out.2.2.2]; simp⟩
        case measure => simp [intOf]; omega
      · have HT := hideP (show _ ∧ _ ∧ _ ∧ _ from ⟨t0, t1, t2, t3⟩)
        clear t0 t1 t2 t3 e0 e1 e2 e3
        go_wp2_with fail
        go_round
        case rel => exact ⟨i + 1, c0, c1, c2 + 1, c3, by go_num, rfl, rfl, by go_num, rfl, by omega, by omega, by rw [HT.out.1]; simp, by rw [HT.out.2.1]; simp, by rw [HT.out.2.2.1]; simp, by rw [HT.out.2.2.2]; simp⟩
        case measure => simp [intOf]; omega
      · have HT := hideP (show _ ∧ _ ∧ _ ∧ _ from ⟨t0, t1, t2, t3⟩)
        clear t0 t1 t2 t3 e0 e1 e2 e3
        go_wp2_with fail
        go_round
        case rel => exact ⟨i + 1, c0, c1 + 1, c2, c3, by go_num, rfl, by go_num, rfl, rfl, by omega, by omega, by rw [HT.out.1]; simp, by rw [HT.out.2.1]; simp, by rw [HT.out.2.2.1]; simp, by rw [HT.out.2.2.2]; simp⟩
        case measure => simp [intOf]; omega
      · have HT := hideP (show _ ∧ _ ∧ _ ∧ _ from ⟨t0, t1, t2, t3⟩)
        have HK := hideP (show k ≠ 0 ∧ k ≠ 1 ∧ k ≠ 2 from ⟨k0, k1, k2⟩)
        have z0 : (k == 0) = false := by simpa using k0
        have z1 : (k == 1) = false := by simpa using k1
        have z2 : (k == 2) = false := by simpa using k2
        clear t0 t1 t2 t3 e0 e1 e2 e3 k0 k1 k2
        go_wp2_with fail
        go_round
        case rel => exact ⟨i + 1, c0, c1, c2, c3 + 1, by go_num, rfl, rfl, rfl, by go_num, by omega, by omega, by rw [HT.out.1]; simp [HK.out], by rw [HT.out.2.1]; simp [HK.out], by rw [HT.out.2.2.1]; simp [HK.out], by rw [HT.out.2.2.2]; simp [HK.out]⟩
        case measure => simp [intOf]; omega
    · obtain rfl : i = l.length := by omega
      rw [List.take_length] at e0 e1 e2 e3
      have hlt' : ((l.length : Int) < (l.length : Int)) = False := by simp
      rw [e0, e2, e3] at HR
      have hop := HOp.out
      clear e0 e1 e2 e3 HOp
      have hl1 : (1 : Int) < (l.length : Int) := by have := HL2.out; omega
      have hl0 : (0 : Int) < (l.length : Int) := by have := HL2.out; omega
      have hwr : wrap64 ((c2 : Int) + (c3 : Int)) = (c2 : Int) + (c3 : Int) := WH.wrap_ok ⟨by omega, by omega⟩
      by_cases hA : 0 < c2 + c3
      · have hA' := pos_add hA
        replace HR := hideP (HR.out.trans (if_pos hA))
        have v0 := HB1.out.cell 0 rfl
        have v1 := HB1.out.cell 1 rfl
        have v2 := HB1.out.cell 2 rfl
        have y0 := HB1.out.frozen 0
        have y1 := HB1.out.frozen 1
        have y2 := HB1.out.frozen 2
        rcases hop with rfl | rfl
        all_goals (
          go_upto_region 32 with fail
          clear hwr hA' hA
          go_wp2_with fail
          refine bodyPost_ret (v := .tuple #[.agg #[.int .i64 0, .int .i64 0, .string ⟨#[]⟩], .int .i64 7]) ?_ rfl ⟨by rw [HR.out]; rfl, HF0.out.put3 (w.heap.size + 1) (by first | exact Nat.le_refl _ | exact Nat.le_succ _) _ _ _⟩
          obtain ⟨r0, r1, r2⟩ : (put3 W0 (w.heap.size + 1) (.int .i64 0) (.int .i64 0) (.string ⟨#[]⟩)).cell? ⟨w.heap.size + 1, 0, none⟩ = _ ∧ (put3 W0 (w.heap.size + 1) (.int .i64 0) (.int .i64 0) (.string ⟨#[]⟩)).cell? ⟨w.heap.size + 1, 1, none⟩ = _ ∧ (put3 W0 (w.heap.size + 1) (.int .i64 0) (.int .i64 0) (.string ⟨#[]⟩)).cell? ⟨w.heap.size + 1, 2, none⟩ = _ := ⟨(HB1.out.put3 _ _ _).cell 0 rfl, (HB1.out.put3 _ _ _).cell 1 rfl, (HB1.out.put3 _ _ _).cell 2 rfl⟩
          change (results Tryz.f60 _).run Tryz.prog (put3 W0 _ _ _ _) = .ok _ (put3 W0 _ _ _ _)
          simp [results, Tryz.results60, go_sem, r0, r1, r2])
      · have hA' := npos_add hA
        replace HR := hideP (HR.out.trans (if_neg hA))
        by_cases hB : 0 < c0
        · have hB' := pos_one hB
          replace HR := hideP (HR.out.trans (if_pos hB))
          have v0 := HB1.out.cell 0 rfl
          have v1 := HB1.out.cell 1 rfl
          have v2 := HB1.out.cell 2 rfl
          have y0 := HB1.out.frozen 0
          have y1 := HB1.out.frozen 1
          have y2 := HB1.out.frozen 2
          rcases hop with rfl | rfl
          all_goals (
            go_upto_region 34 with fail
            clear hwr hA' hA hB hB'
            go_wp2_with fail
            refine bodyPost_ret (v := .tuple #[.agg #[.int .i64 0, .int .i64 0, .string ⟨#[]⟩], .int .i64 0]) ?_ rfl ⟨by rw [HR.out]; rfl, HF0.out.put3 (w.heap.size + 1) (by first | exact Nat.le_refl _ | exact Nat.le_succ _) _ _ _⟩
            obtain ⟨r0, r1, r2⟩ : (put3 W0 (w.heap.size + 1) (.int .i64 0) (.int .i64 0) (.string ⟨#[]⟩)).cell? ⟨w.heap.size + 1, 0, none⟩ = _ ∧ (put3 W0 (w.heap.size + 1) (.int .i64 0) (.int .i64 0) (.string ⟨#[]⟩)).cell? ⟨w.heap.size + 1, 1, none⟩ = _ ∧ (put3 W0 (w.heap.size + 1) (.int .i64 0) (.int .i64 0) (.string ⟨#[]⟩)).cell? ⟨w.heap.size + 1, 2, none⟩ = _ := ⟨(HB1.out.put3 _ _ _).cell 0 rfl, (HB1.out.put3 _ _ _).cell 1 rfl, (HB1.out.put3 _ _ _).cell 2 rfl⟩
            change (results Tryz.f60 _).run Tryz.prog (put3 W0 _ _ _ _) = .ok _ (put3 W0 _ _ _ _)
            simp [results, Tryz.results60, go_sem, r0, r1, r2])
        · have hB' := npos_one hB
          replace HR := hideP (HR.out.trans (if_neg hB))
          have w0 := HS.out.1
          have w1 := HS.out.2.1
          have w2 := HS.out.2.2
          by_cases hpe : pe = 0
          · subst hpe
            replace HR := hideP (HR.out.trans (if_neg (by simp)))
            have HM := hideP (HMt.out rfl)
            clear HMt
            cases mt
            all_goals (
              rcases hop with rfl | rfl
              · go_upto_region 35 with fail
                clear hwr hA' hA hB hB'
                go_wp2_with fail
                refine (HPc.out _).mono ?_
                rintro _ w3 ⟨rfl, f3⟩
                have HS3 := hideP (s3_after f3 HS.out)
                have HB3 := hideP (HB1.out.fr f3)
                have HF3 := hideP (HF0.out.trans f3)
                have hz := Fr.drew (Fr.refl w3)
                have nb1 : w.heap.size ≠ w.heap.size + 1 := Nat.ne_of_lt (Nat.lt_succ_self _)
                have nb2 : b ≠ w.heap.size + 1 := Nat.ne_of_lt (Nat.lt_succ_of_lt hb)
                clear f3 u0 u1 u2 u3 u4 u5 w0 w1 w2
                go_upto_region 38 with fail
                go_region_held3 (fun W => W.cell? ⟨w.heap.size, 0, none⟩ = some (.int .i64 20) ∧ W.cell? ⟨b, o + 2, none⟩ = some (.string s0) ∧ W.cell? ⟨b, o + 3 + 2, none⟩ = some (.string s1)) (first | exact HS3.out | exact s3_after hz HS3.out | exact s3_after hf9 HS3.out | exact s3_after hf8 HS3.out | exact s3_put (s3_after hf8 HS3.out) nb1 nb2 nb2) (first
                  | (go_at_call 88; refine (HM.out _).mono ?_; rintro _ w4 ⟨rfl, f4⟩; have hf9 := hz.trans f4; clear f4)
                  | (go_at_call 62; (first | refine (rt_t _).mono ?_ | refine (rt_f _).mono ?_); rintro _ w5 ⟨rfl, rfl⟩)
                  | (go_at_call 87; (first | refine (tv_2 _).mono ?_ | refine (tv_0 _).mono ?_); rintro _ w6 ⟨rfl, f6⟩; have hf8 := hf9.trans f6; have HB8 := hideP (HB3.out.fr hf8); clear f6; have v0 := HB8.out.cell 0 rfl; have v1 := HB8.out.cell 1 rfl; have v2 := HB8.out.cell 2 rfl; have y0 := HB8.out.frozen 0; have y1 := HB8.out.frozen 1; have y2 := HB8.out.frozen 2))
                all_goals (
                  have HF8 := hideP (HF3.out.trans hf8)
                  go_wp2_with fail
                  first
                    | (refine bodyPost_ret (v := .tuple #[.agg #[.int .i64 1, .int .i64 1, .string ⟨#[]⟩], .int .i64 0]) ?_ rfl ⟨by rw [HR.out]; rfl, HF8.out.put3 (w.heap.size + 1) (by first | exact Nat.le_refl _ | exact Nat.le_succ _) _ _ _⟩
                       obtain ⟨r0, r1, r2⟩ : (put3 w6 (w.heap.size + 1) (.int .i64 1) (.int .i64 1) (.string ⟨#[]⟩)).cell? ⟨w.heap.size + 1, 0, none⟩ = _ ∧ (put3 w6 (w.heap.size + 1) (.int .i64 1) (.int .i64 1) (.string ⟨#[]⟩)).cell? ⟨w.heap.size + 1, 1, none⟩ = _ ∧ (put3 w6 (w.heap.size + 1) (.int .i64 1) (.int .i64 1) (.string ⟨#[]⟩)).cell? ⟨w.heap.size + 1, 2, none⟩ = _ := ⟨(HB8.out.put3 _ _ _).cell 0 rfl, (HB8.out.put3 _ _ _).cell 1 rfl, (HB8.out.put3 _ _ _).cell 2 rfl⟩
                       change (results Tryz.f60 _).run Tryz.prog (put3 w6 _ _ _ _) = .ok _ (put3 w6 _ _ _ _)
                       simp [results, Tryz.results60, go_sem, r0, r1, r2])
                    | (refine bodyPost_ret (v := .tuple #[.agg #[.int .i64 1, .int .i64 0, .string ⟨#[]⟩], .int .i64 0]) ?_ rfl ⟨by rw [HR.out]; rfl, HF8.out.put3 (w.heap.size + 1) (by first | exact Nat.le_refl _ | exact Nat.le_succ _) _ _ _⟩
                       obtain ⟨r0, r1, r2⟩ : (put3 w6 (w.heap.size + 1) (.int .i64 1) (.int .i64 0) (.string ⟨#[]⟩)).cell? ⟨w.heap.size + 1, 0, none⟩ = _ ∧ (put3 w6 (w.heap.size + 1) (.int .i64 1) (.int .i64 0) (.string ⟨#[]⟩)).cell? ⟨w.heap.size + 1, 1, none⟩ = _ ∧ (put3 w6 (w.heap.size + 1) (.int .i64 1) (.int .i64 0) (.string ⟨#[]⟩)).cell? ⟨w.heap.size + 1, 2, none⟩ = _ := ⟨(HB8.out.put3 _ _ _).cell 0 rfl, (HB8.out.put3 _ _ _).cell 1 rfl, (HB8.out.put3 _ _ _).cell 2 rfl⟩
                       change (results Tryz.f60 _).run Tryz.prog (put3 w6 _ _ _ _) = .ok _ (put3 w6 _ _ _ _)
                       simp [results, Tryz.results60, go_sem, r0, r1, r2]))
              · go_upto_region 35 with fail
                clear hwr hA' hA hB hB'
                go_wp2_with fail
                refine (HPc.out _).mono ?_
                rintro _ w3 ⟨rfl, f3⟩
                have HS3 := hideP (s3_after f3 HS.out)
                have HB3 := hideP (HB1.out.fr f3)
                have HF3 := hideP (HF0.out.trans f3)
                have hz := Fr.drew (Fr.refl w3)
                have nb1 : w.heap.size ≠ w.heap.size + 1 := Nat.ne_of_lt (Nat.lt_succ_self _)
                have nb2 : b ≠ w.heap.size + 1 := Nat.ne_of_lt (Nat.lt_succ_of_lt hb)
                clear f3 u0 u1 u2 u3 u4 u5 w0 w1 w2
                go_upto_region 38 with fail
                go_region_held3 (fun W => W.cell? ⟨w.heap.size, 0, none⟩ = some (.int .i64 21) ∧ W.cell? ⟨b, o + 2, none⟩ = some (.string s0) ∧ W.cell? ⟨b, o + 3 + 2, none⟩ = some (.string s1)) (first | exact HS3.out | exact s3_after hz HS3.out | exact s3_after hf9 HS3.out | exact s3_after hf8 HS3.out | exact s3_put (s3_after hf8 HS3.out) nb1 nb2 nb2) (first
                  | (go_at_call 88; refine (HM.out _).mono ?_; rintro _ w4 ⟨rfl, f4⟩; have hf9 := hz.trans f4; clear f4)
                  | (go_at_call 62; (first | refine (rt_t _).mono ?_ | refine (rt_f _).mono ?_); rintro _ w5 ⟨rfl, rfl⟩)
                  | (go_at_call 87; (first | refine (tv_2 _).mono ?_ | refine (tv_0 _).mono ?_); rintro _ w6 ⟨rfl, f6⟩; have hf8 := hf9.trans f6; have HB8 := hideP (HB3.out.fr hf8); clear f6; have v0 := HB8.out.cell 0 rfl; have v1 := HB8.out.cell 1 rfl; have v2 := HB8.out.cell 2 rfl; have y0 := HB8.out.frozen 0; have y1 := HB8.out.frozen 1; have y2 := HB8.out.frozen 2))
                all_goals (
                  have HF8 := hideP (HF3.out.trans hf8)
                  go_wp2_with fail
                  first
                    | (refine bodyPost_ret (v := .tuple #[.agg #[.int .i64 1, .int .i64 1, .string ⟨#[]⟩], .int .i64 0]) ?_ rfl ⟨by rw [HR.out]; rfl, HF8.out.put3 (w.heap.size + 1) (by first | exact Nat.le_refl _ | exact Nat.le_succ _) _ _ _⟩
                       obtain ⟨r0, r1, r2⟩ : (put3 w6 (w.heap.size + 1) (.int .i64 1) (.int .i64 1) (.string ⟨#[]⟩)).cell? ⟨w.heap.size + 1, 0, none⟩ = _ ∧ (put3 w6 (w.heap.size + 1) (.int .i64 1) (.int .i64 1) (.string ⟨#[]⟩)).cell? ⟨w.heap.size + 1, 1, none⟩ = _ ∧ (put3 w6 (w.heap.size + 1) (.int .i64 1) (.int .i64 1) (.string ⟨#[]⟩)).cell? ⟨w.heap.size + 1, 2, none⟩ = _ := ⟨(HB8.out.put3 _ _ _).cell 0 rfl, (HB8.out.put3 _ _ _).cell 1 rfl, (HB8.out.put3 _ _ _).cell 2 rfl⟩
                       change (results Tryz.f60 _).run Tryz.prog (put3 w6 _ _ _ _) = .ok _ (put3 w6 _ _ _ _)
                       simp [results, Tryz.results60, go_sem, r0, r1, r2])
                    | (refine bodyPost_ret (v := .tuple #[.agg #[.int .i64 1, .int .i64 0, .string ⟨#[]⟩], .int .i64 0]) ?_ rfl ⟨by rw [HR.out]; rfl, HF8.out.put3 (w.heap.size + 1) (by first | exact Nat.le_refl _ | exact Nat.le_succ _) _ _ _⟩
                       obtain ⟨r0, r1, r2⟩ : (put3 w6 (w.heap.size + 1) (.int .i64 1) (.int .i64 0) (.string ⟨#[]⟩)).cell? ⟨w.heap.size + 1, 0, none⟩ = _ ∧ (put3 w6 (w.heap.size + 1) (.int .i64 1) (.int .i64 0) (.string ⟨#[]⟩)).cell? ⟨w.heap.size + 1, 1, none⟩ = _ ∧ (put3 w6 (w.heap.size + 1) (.int .i64 1) (.int .i64 0) (.string ⟨#[]⟩)).cell? ⟨w.heap.size + 1, 2, none⟩ = _ := ⟨(HB8.out.put3 _ _ _).cell 0 rfl, (HB8.out.put3 _ _ _).cell 1 rfl, (HB8.out.put3 _ _ _).cell 2 rfl⟩
                       change (results Tryz.f60 _).run Tryz.prog (put3 w6 _ _ _ _) = .ok _ (put3 w6 _ _ _ _)
                       simp [results, Tryz.results60, go_sem, r0, r1, r2])))
          · replace HR := hideP (HR.out.trans (if_pos hpe))
            have e1 := ne_nat hpe
            have e2 := ne_nat' hpe
            rcases hop with rfl | rfl
            all_goals (
              go_upto_region 35 with fail
              clear hwr hA' hA hB hB'
              go_wp2_with fail
              refine (HPc.out _).mono ?_
              rintro _ w3 ⟨rfl, f3⟩
              have HB3 := hideP (HB1.out.fr f3)
              have HF3 := hideP (HF0.out.trans f3)
              clear f3
              have v0 := HB3.out.cell 0 rfl
              have v1 := HB3.out.cell 1 rfl
              have v2 := HB3.out.cell 2 rfl
              have y0 := HB3.out.frozen 0
              have y1 := HB3.out.frozen 1
              have y2 := HB3.out.frozen 2
              go_wp2_with fail
              refine bodyPost_ret (v := .tuple #[.agg #[.int .i64 0, .int .i64 0, .string ⟨#[]⟩], .int .i64 (pe : Int)]) ?_ rfl ⟨by rw [HR.out]; rfl, HF3.out.put3 (w.heap.size + 1) (by first | exact Nat.le_refl _ | exact Nat.le_succ _) _ _ _⟩
              obtain ⟨r0, r1, r2⟩ : (put3 w3 (w.heap.size + 1) (.int .i64 0) (.int .i64 0) (.string ⟨#[]⟩)).cell? ⟨w.heap.size + 1, 0, none⟩ = _ ∧ (put3 w3 (w.heap.size + 1) (.int .i64 0) (.int .i64 0) (.string ⟨#[]⟩)).cell? ⟨w.heap.size + 1, 1, none⟩ = _ ∧ (put3 w3 (w.heap.size + 1) (.int .i64 0) (.int .i64 0) (.string ⟨#[]⟩)).cell? ⟨w.heap.size + 1, 2, none⟩ = _ := ⟨(HB3.out.put3 _ _ _).cell 0 rfl, (HB3.out.put3 _ _ _).cell 1 rfl, (HB3.out.put3 _ _ _).cell 2 rfl⟩
              change (results Tryz.f60 _).run Tryz.prog (put3 w3 _ _ _ _) = .ok _ (put3 w3 _ _ _ _)
              simp [results, Tryz.results60, go_sem, r0, r1, r2])
end Go.Proofs.YtjljohmflhmkmaaGreatDoor
