/-
  What the document's nodeOf answers.
-/
import Derived.Test.YtjljohmflhmkmaaGreatDoorGpJ
namespace Go.Proofs.YtjljohmflhmkmaaGreatDoor
open Go.ChangeShapes Go.WideShapes Go.ChangeAt Go.RowKit
set_option linter.unusedVariables false
set_option linter.unusedSimpArgs false
set_option maxRecDepth 100000
set_option maxHeartbeats 4000000

theorem nodeOf_num (op kids vk vn : Int) (vs nm : ByteArray) (l : List VM.Vl) (kv cv rv : Value) (w : World) (R : Except Nat VM.Vl) (hop : op = 3 ∨ op = 5 ∨ op = 6 ∨ op = 7 ∨ op = 8 ∨ op = 9) (h : IsL cdV w kv l) (hp : 0 < l.length) (hl : l.length ≤ 7) (D : Except Nat Int) (hR : R = if 0 < l.countP EV.kT + l.countP EV.kB then .error 7 else if 0 < l.countP EV.kN then .ok EX.nul else match D with | .error c => .error c | .ok n => .ok ⟨1, n, ⟨#[]⟩⟩)
    (hne : ∀ c, D = .error c → c ≠ 0) (hcall : ∀ W, Calls Tryz.prog 85 #[.int .i64 op, .int .i64 (l[0]'hp).n, .int .i64 (l[l.length - 1]'(by omega)).n] W fun e w' => e = .returned (exT D) ∧ w' = W) :
    Calls Tryz.prog 60 #[.agg #[.int .i64 op, .int .i64 kids, .int .i64 vk, .int .i64 vn, .string vs, .string nm], kv, cv, rv] w fun e w' => e = .returned (exV R) ∧ Fr w w' := by
  obtain ⟨W0, hW0⟩ : ∃ W0, (w.alloc (.cells #[.int .i64 op, .int .i64 kids, .int .i64 vk, .int .i64 vn, .string vs, .string nm] 38)).alloc (.cells #[.int .i64 0, .int .i64 0, .string ⟨#[]⟩] 26) = W0 := ⟨_, rfl⟩
  have HN := hideP (show Blk W0 w.heap.size #[.int .i64 op, .int .i64 kids, .int .i64 vk, .int .i64 vn, .string vs, .string nm] 38 by rw [← hW0]; exact (Blk.new w _ _).old _)
  have HB1 := hideP (show Blk W0 (w.heap.size + 1) #[.int .i64 0, .int .i64 0, .string ⟨#[]⟩] 26 by rw [← hW0]; have := Blk.new (w.alloc (.cells #[.int .i64 op, .int .i64 kids, .int .i64 vk, .int .i64 vn, .string vs, .string nm] 38)) #[.int .i64 0, .int .i64 0, .string ⟨#[]⟩] 26; simpa using this)
  have HF0 := hideP (show Fr w W0 by rw [← hW0]; exact ((Fr.refl w).alloc _).alloc _)
  have hle0 := Fr.size HF0.out
  have u0 := HN.out.cell 0 rfl
  have u1 := HN.out.cell 1 rfl
  have u2 := HN.out.cell 2 rfl
  have u3 := HN.out.cell 3 rfl
  have u4 := HN.out.cell 4 rfl
  have u5 := HN.out.cell 5 rfl
  obtain ⟨a, cap, rfl, hcap, hcs⟩ := h
  obtain ⟨b, o, rfl, hb, hat⟩ : ∃ b o, a = some ⟨b, o, none⟩ ∧ b < w.heap.size ∧ At cdV w b o l := by
    rcases hcs with h | h
    · rw [h] at hp; simp at hp
    · exact h
  have HAt := hideP (hat.fr hb HF0.out)
  have HAt0 := hideP hat
  have HR := hideP hR
  have HOp := hideP hop
  have q1 : (op == 1) = false := by simp; omega
  have q2 : (op == 2) = false := by simp; omega
  clear hcs hat hR hop
  have HCa := hideP hcall
  have HNe := hideP hne
  clear hne
  have HS := hideP (show W0.cell? ⟨w.heap.size, 0, none⟩ = some (.int .i64 op) ∧ W0.cell? ⟨b, o + 1, none⟩ = some (.int .i64 (l[0]'hp).n) ∧ W0.cell? ⟨b, o + (l.length - 1) * 3 + 1, none⟩ = some (.int .i64 (l[l.length - 1]'(by omega)).n) from ⟨u0, by have := (HAt.out.v3 0 hp).2.1; simpa using this, (HAt.out.v3 (l.length - 1) (by omega)).2.1⟩)
  obtain ⟨n0, hn0⟩ : ∃ n0, (l[0]'hp).n = n0 := ⟨_, rfl⟩
  obtain ⟨n1, hn1⟩ : ∃ n1, (l[l.length - 1]'(by omega)).n = n1 := ⟨_, rfl⟩
  rw [hn0, hn1] at HCa HS
  obtain ⟨m, hm⟩ : ∃ m, l.length - 1 = m := ⟨_, rfl⟩
  rw [hm] at HS
  have HM := hideP (show l.length = m + 1 by omega)
  clear hcall hn0 hn1 hm
  go_enter Tryz.func60, Tryz.ntmps60
  go_wp2_with fail
  clear q1 q2
  go_loop [11, 12, 13, 14, 15] (fun x0 x1 x2 x3 x4 => ∃ i c0 c1 c2 c3 : Nat, x4 = .int .i64 i ∧ x0 = .int .i64 c0 ∧ x1 = .int .i64 c1 ∧ x2 = .int .i64 c2 ∧ x3 = .int .i64 c3 ∧ i ≤ l.length ∧ c0 + c1 + c2 + c3 = i ∧ (l.take i).countP EV.kN = c0 ∧ (l.take i).countP EV.kT = c1 ∧ (l.take i).countP EV.kI = c2 ∧ (l.take i).countP EV.kB = c3) (fun _ _ _ _ x4 => l.length - (intOf x4).toNat)
  case atStart => exact ⟨0, 0, 0, 0, 0, rfl, rfl, rfl, rfl, rfl, Nat.zero_le _, rfl, rfl, rfl, rfl, rfl⟩
  case round =>
    obtain ⟨i, c0, c1, c2, c3, rfl, rfl, rfl, rfl, rfl, hi, hs, e0, e1, e2, e3⟩ := hrel
    by_cases hlt : i < l.length
    · have hlt' : (i : Int) < (l.length : Int) := by omega
      have d0 := (HAt.out.v3 i hlt).1
      have t0 := EV.countP_take EV.kN hlt
      have t1 := EV.countP_take EV.kT hlt
      have t2 := EV.countP_take EV.kI hlt
      have t3 := EV.countP_take EV.kB hlt
      rw [e0] at t0
      rw [e1] at t1
      rw [e2] at t2
      rw [e3] at t3
      generalize l[i] = x at *
      obtain ⟨k, xn, xs⟩ := x
      simp only [EV.kN, EV.kT, EV.kI, EV.kB] at d0 t0 t1 t2 t3
      rcases (show k = 0 ∨ k = 1 ∨ k = 2 ∨ (k ≠ 0 ∧ k ≠ 1 ∧ k ≠ 2) by omega) with rfl | rfl | rfl | ⟨k0, k1, k2⟩
      · have HT := hideP (show _ ∧ _ ∧ _ ∧ _ from ⟨t0, t1, t2, t3⟩)
        clear t0 t1 t2 t3 e0 e1 e2 e3
        go_wp2_with fail
        go_round
        case rel => exact ⟨i + 1, c0 + 1, c1, c2, c3, by go_num, by go_num, rfl, rfl, rfl, by omega, by omega, by rw [HT.out.1]; simp, by rw [HT.out.2.1]; simp, by rw [HT.out.2.2.1]; simp, by rw [HT.out.2.2.2]; simp⟩
        case measure => simp [intOf]; omega
      · have HT := hideP (show _ ∧ _ ∧ _ ∧ _ from ⟨t0, t1, t2, t3⟩)
        clear t0 t1 t2 t3 e0 e1 e2 e3
        go_wp2_with fail
        go_round
        case rel => exact ⟨i + 1, c0, c1, c2 + 1, c3, by go_num, rfl, rfl, by go_num, rfl, by omega, by omega, by rw [HT.out.1]; simp, by rw [HT.out.2.1]; simp, by rw [HT.out.2.2.1]; simp, by rw [HT.out.2.2.2]; simp⟩
        case measure => simp [intOf]; omega
      · have HT := hideP (show _ ∧ _ ∧ _ ∧ _ from ⟨t0, t1, t2, t3⟩)
        clear t0 t1 t2 t3 e0 e1 e2 e3
        go_wp2_with fail
        go_round
        case rel => exact ⟨i + 1, c0, c1 + 1, c2, c3, by go_num, rfl, by go_num, rfl, rfl, by omega, by omega, by rw [HT.out.1]; simp, by rw [HT.out.2.1]; simp, by rw [HT.out.2.2.1]; simp, by rw [HT.out.2.2.2]; simp⟩
        case measure => simp [intOf]; omega
      · have HT := hideP (show _ ∧ _ ∧ _ ∧ _ from ⟨t0, t1, t2, t3⟩)
        have HK := hideP (show k ≠ 0 ∧ k ≠ 1 ∧ k ≠ 2 from ⟨k0, k1, k2⟩)
        have z0 : (k == 0) = false := by simpa using k0
        have z1 : (k == 1) = false := by simpa using k1
        have z2 : (k == 2) = false := by simpa using k2
        clear t0 t1 t2 t3 e0 e1 e2 e3 k0 k1 k2
        go_wp2_with fail
        go_round
        case rel => exact ⟨i + 1, c0, c1, c2, c3 + 1, by go_num, rfl, rfl, rfl, by go_num, by omega, by omega, by rw [HT.out.1]; simp [HK.out], by rw [HT.out.2.1]; simp [HK.out], by rw [HT.out.2.2.1]; simp [HK.out], by rw [HT.out.2.2.2]; simp [HK.out]⟩
        case measure => simp [intOf]; omega
    · obtain rfl : i = l.length := by omega
      rw [List.take_length] at e0 e1 e2 e3
      have hlt' : ((l.length : Int) < (l.length : Int)) = False := by simp
      rw [e0, e1, e3] at HR
      have hop := HOp.out
      clear e0 e1 e2 e3 HOp
      replace hop : op = 3 ∨ ((op == 3) = false ∧ 5 ≤ op ∧ op ≤ 9) := by
        rcases hop with h | h
        · exact .inl h
        · exact .inr ⟨by simp; omega, by omega, by omega⟩
      have hwr : wrap64 ((c1 : Int) + (c3 : Int)) = (c1 : Int) + (c3 : Int) := WH.wrap_ok ⟨by omega, by omega⟩
      by_cases hA : 0 < c1 + c3
      · have hA' := pos_add hA
        replace HR := hideP (HR.out.trans (if_pos hA))
        rcases hop with rfl | ⟨q3, q5, q9⟩
        all_goals (
          go_upto_region 23 with fail
          clear hwr hA' hA
          have v0 := HB1.out.cell 0 rfl
          have v1 := HB1.out.cell 1 rfl
          have v2 := HB1.out.cell 2 rfl
          have y0 := HB1.out.frozen 0
          have y1 := HB1.out.frozen 1
          have y2 := HB1.out.frozen 2
          go_wp2_with fail
          refine bodyPost_ret (v := .tuple #[.agg #[.int .i64 0, .int .i64 0, .string ⟨#[]⟩], .int .i64 7]) ?_ rfl ⟨by rw [HR.out]; rfl, HF0.out.put3 (w.heap.size + 1) (by first | exact Nat.le_refl _ | exact Nat.le_succ _) _ _ _⟩
          obtain ⟨r0, r1, r2⟩ : (put3 W0 (w.heap.size + 1) (.int .i64 0) (.int .i64 0) (.string ⟨#[]⟩)).cell? ⟨w.heap.size + 1, 0, none⟩ = _ ∧ (put3 W0 (w.heap.size + 1) (.int .i64 0) (.int .i64 0) (.string ⟨#[]⟩)).cell? ⟨w.heap.size + 1, 1, none⟩ = _ ∧ (put3 W0 (w.heap.size + 1) (.int .i64 0) (.int .i64 0) (.string ⟨#[]⟩)).cell? ⟨w.heap.size + 1, 2, none⟩ = _ := ⟨(HB1.out.put3 _ _ _).cell 0 rfl, (HB1.out.put3 _ _ _).cell 1 rfl, (HB1.out.put3 _ _ _).cell 2 rfl⟩
          change (results Tryz.f60 _).run Tryz.prog (put3 W0 _ _ _ _) = .ok _ (put3 W0 _ _ _ _)
          simp [results, Tryz.results60, go_sem, r0, r1, r2])
      · have hA' := npos_add hA
        replace HR := hideP (HR.out.trans (if_neg hA))
        by_cases hB : 0 < c0
        · have hB' := pos_one hB
          replace HR := hideP (HR.out.trans (if_pos hB))
          rcases hop with rfl | ⟨q3, q5, q9⟩
          all_goals (
            go_upto_region 25 with fail
            clear hwr hA' hA hB' hB
            have v0 := HB1.out.cell 0 rfl
            have v1 := HB1.out.cell 1 rfl
            have v2 := HB1.out.cell 2 rfl
            have y0 := HB1.out.frozen 0
            have y1 := HB1.out.frozen 1
            have y2 := HB1.out.frozen 2
            go_wp2_with fail
            refine bodyPost_ret (v := .tuple #[.agg #[.int .i64 0, .int .i64 0, .string ⟨#[]⟩], .int .i64 0]) ?_ rfl ⟨by rw [HR.out]; rfl, HF0.out.put3 (w.heap.size + 1) (by first | exact Nat.le_refl _ | exact Nat.le_succ _) _ _ _⟩
            obtain ⟨r0, r1, r2⟩ : (put3 W0 (w.heap.size + 1) (.int .i64 0) (.int .i64 0) (.string ⟨#[]⟩)).cell? ⟨w.heap.size + 1, 0, none⟩ = _ ∧ (put3 W0 (w.heap.size + 1) (.int .i64 0) (.int .i64 0) (.string ⟨#[]⟩)).cell? ⟨w.heap.size + 1, 1, none⟩ = _ ∧ (put3 W0 (w.heap.size + 1) (.int .i64 0) (.int .i64 0) (.string ⟨#[]⟩)).cell? ⟨w.heap.size + 1, 2, none⟩ = _ := ⟨(HB1.out.put3 _ _ _).cell 0 rfl, (HB1.out.put3 _ _ _).cell 1 rfl, (HB1.out.put3 _ _ _).cell 2 rfl⟩
            change (results Tryz.f60 _).run Tryz.prog (put3 W0 _ _ _ _) = .ok _ (put3 W0 _ _ _ _)
            simp [results, Tryz.results60, go_sem, r0, r1, r2])
        · have hB' := npos_one hB
          replace HR := hideP (HR.out.trans (if_neg hB))
          have hz := Fr.drew (Fr.refl W0)
          cases D with
          | error c =>
            have HC := hideP (HNe.out c rfl)
            have e1 := ne_nat HC.out
            have e2 := ne_nat' HC.out
            simp only [exT] at HCa
            clear HNe
            rcases hop with rfl | ⟨q3, q5, q9⟩
            · go_upto_region 26 with fail
              clear hwr hA' hB'
              have hm1 : (0 : Int) < (l.length : Int) := by omega
              have hm2 : IntKind.i64.wrap ((l.length : Int) - 1) = (m : Int) := by
                have := HM.out
                simp only [IntKind.wrap]; simp [IntKind.min, IntKind.max, IntKind.signed, IntKind.bits]; omega
              have hm3 : (m : Int) < (l.length : Int) := by have := HM.out; omega
              have hm5 : (0 : Int) ≤ (m : Int) := by omega
              have hm4 : IntKind.i64.wrap (m : Int) = (m : Int) := by
                have := HM.out
                simp only [IntKind.wrap]; simp [IntKind.min, IntKind.max, IntKind.signed, IntKind.bits]; omega
              go_region_held3 (fun W => W.cell? ⟨w.heap.size, 0, none⟩ = some (.int .i64 3) ∧ W.cell? ⟨b, o + 1, none⟩ = some (.int .i64 n0) ∧ W.cell? ⟨b, o + m * 3 + 1, none⟩ = some (.int .i64 n1)) (first | exact HS.out | exact s3_after hz HS.out) (first
                | (go_at_call 85; refine (HCa.out _).mono ?_; rintro _ w3 ⟨rfl, rfl⟩))
              all_goals (
                have HR1 := hideP (HB1.out.fr hz)
                have FW := hideP (HF0.out.trans hz)
                clear hz hm1 hm2 hm3 hm4 hm5
                generalize W0.drew = w4 at *
                have v0 := HR1.out.cell 0 rfl
                have v1 := HR1.out.cell 1 rfl
                have v2 := HR1.out.cell 2 rfl
                have y0 := HR1.out.frozen 0
                have y1 := HR1.out.frozen 1
                have y2 := HR1.out.frozen 2
                go_wp2_with fail
                refine bodyPost_ret (v := .tuple #[.agg #[.int .i64 0, .int .i64 0, .string ⟨#[]⟩], .int .i64 (c : Int)]) ?_ rfl ⟨by rw [HR.out]; rfl, FW.out.put3 (w.heap.size + 1) (by first | exact Nat.le_refl _ | exact Nat.le_succ _) _ _ _⟩
                obtain ⟨r0, r1, r2⟩ : (put3 w4 (w.heap.size + 1) (.int .i64 0) (.int .i64 0) (.string ⟨#[]⟩)).cell? ⟨w.heap.size + 1, 0, none⟩ = _ ∧ (put3 w4 (w.heap.size + 1) (.int .i64 0) (.int .i64 0) (.string ⟨#[]⟩)).cell? ⟨w.heap.size + 1, 1, none⟩ = _ ∧ (put3 w4 (w.heap.size + 1) (.int .i64 0) (.int .i64 0) (.string ⟨#[]⟩)).cell? ⟨w.heap.size + 1, 2, none⟩ = _ := ⟨(HR1.out.put3 _ _ _).cell 0 rfl, (HR1.out.put3 _ _ _).cell 1 rfl, (HR1.out.put3 _ _ _).cell 2 rfl⟩
                change (results Tryz.f60 _).run Tryz.prog (put3 w4 _ _ _ _) = .ok _ (put3 w4 _ _ _ _)
                simp [results, Tryz.results60, go_sem, r0, r1, r2])
            · go_upto_region 26 with fail
              clear hwr hA' hB'
              have hm1 : (0 : Int) < (l.length : Int) := by omega
              have hm2 : IntKind.i64.wrap ((l.length : Int) - 1) = (m : Int) := by
                have := HM.out
                simp only [IntKind.wrap]; simp [IntKind.min, IntKind.max, IntKind.signed, IntKind.bits]; omega
              have hm3 : (m : Int) < (l.length : Int) := by have := HM.out; omega
              have hm5 : (0 : Int) ≤ (m : Int) := by omega
              have hm4 : IntKind.i64.wrap (m : Int) = (m : Int) := by
                have := HM.out
                simp only [IntKind.wrap]; simp [IntKind.min, IntKind.max, IntKind.signed, IntKind.bits]; omega
              go_region_held3 (fun W => W.cell? ⟨w.heap.size, 0, none⟩ = some (.int .i64 op) ∧ W.cell? ⟨b, o + 1, none⟩ = some (.int .i64 n0) ∧ W.cell? ⟨b, o + m * 3 + 1, none⟩ = some (.int .i64 n1)) (first | exact HS.out | exact s3_after hz HS.out) (first
                | (go_at_call 85; refine (HCa.out _).mono ?_; rintro _ w3 ⟨rfl, rfl⟩))
              all_goals (
                have HR1 := hideP (HB1.out.fr hz)
                have FW := hideP (HF0.out.trans hz)
                clear hz hm1 hm2 hm3 hm4 hm5
                generalize W0.drew = w4 at *
                have v0 := HR1.out.cell 0 rfl
                have v1 := HR1.out.cell 1 rfl
                have v2 := HR1.out.cell 2 rfl
                have y0 := HR1.out.frozen 0
                have y1 := HR1.out.frozen 1
                have y2 := HR1.out.frozen 2
                go_wp2_with fail
                refine bodyPost_ret (v := .tuple #[.agg #[.int .i64 0, .int .i64 0, .string ⟨#[]⟩], .int .i64 (c : Int)]) ?_ rfl ⟨by rw [HR.out]; rfl, FW.out.put3 (w.heap.size + 1) (by first | exact Nat.le_refl _ | exact Nat.le_succ _) _ _ _⟩
                obtain ⟨r0, r1, r2⟩ : (put3 w4 (w.heap.size + 1) (.int .i64 0) (.int .i64 0) (.string ⟨#[]⟩)).cell? ⟨w.heap.size + 1, 0, none⟩ = _ ∧ (put3 w4 (w.heap.size + 1) (.int .i64 0) (.int .i64 0) (.string ⟨#[]⟩)).cell? ⟨w.heap.size + 1, 1, none⟩ = _ ∧ (put3 w4 (w.heap.size + 1) (.int .i64 0) (.int .i64 0) (.string ⟨#[]⟩)).cell? ⟨w.heap.size + 1, 2, none⟩ = _ := ⟨(HR1.out.put3 _ _ _).cell 0 rfl, (HR1.out.put3 _ _ _).cell 1 rfl, (HR1.out.put3 _ _ _).cell 2 rfl⟩
                change (results Tryz.f60 _).run Tryz.prog (put3 w4 _ _ _ _) = .ok _ (put3 w4 _ _ _ _)
                simp [results, Tryz.results60, go_sem, r0, r1, r2])
          | ok x =>
            simp only [exT] at HCa
            clear HNe
            rcases hop with rfl | ⟨q3, q5, q9⟩
            · go_upto_region 26 with fail
              clear hwr hA' hB'
              have hm1 : (0 : Int) < (l.length : Int) := by omega
              have hm2 : IntKind.i64.wrap ((l.length : Int) - 1) = (m : Int) := by
                have := HM.out
                simp only [IntKind.wrap]; simp [IntKind.min, IntKind.max, IntKind.signed, IntKind.bits]; omega
              have hm3 : (m : Int) < (l.length : Int) := by have := HM.out; omega
              have hm5 : (0 : Int) ≤ (m : Int) := by omega
              have hm4 : IntKind.i64.wrap (m : Int) = (m : Int) := by
                have := HM.out
                simp only [IntKind.wrap]; simp [IntKind.min, IntKind.max, IntKind.signed, IntKind.bits]; omega
              go_region_held3 (fun W => W.cell? ⟨w.heap.size, 0, none⟩ = some (.int .i64 3) ∧ W.cell? ⟨b, o + 1, none⟩ = some (.int .i64 n0) ∧ W.cell? ⟨b, o + m * 3 + 1, none⟩ = some (.int .i64 n1)) (first | exact HS.out | exact s3_after hz HS.out) (first
                | (go_at_call 85; refine (HCa.out _).mono ?_; rintro _ w3 ⟨rfl, rfl⟩))
              all_goals (
                have HR1 := hideP (HB1.out.fr hz)
                have FW := hideP (HF0.out.trans hz)
                clear hz hm1 hm2 hm3 hm4 hm5
                generalize W0.drew = w4 at *
                have v0 := HR1.out.cell 0 rfl
                have v1 := HR1.out.cell 1 rfl
                have v2 := HR1.out.cell 2 rfl
                have y0 := HR1.out.frozen 0
                have y1 := HR1.out.frozen 1
                have y2 := HR1.out.frozen 2
                go_wp2_with fail
                refine bodyPost_ret (v := .tuple #[.agg #[.int .i64 1, .int .i64 x, .string ⟨#[]⟩], .int .i64 0]) ?_ rfl ⟨by rw [HR.out]; rfl, FW.out.put3 (w.heap.size + 1) (by first | exact Nat.le_refl _ | exact Nat.le_succ _) _ _ _⟩
                obtain ⟨r0, r1, r2⟩ : (put3 w4 (w.heap.size + 1) (.int .i64 1) (.int .i64 x) (.string ⟨#[]⟩)).cell? ⟨w.heap.size + 1, 0, none⟩ = _ ∧ (put3 w4 (w.heap.size + 1) (.int .i64 1) (.int .i64 x) (.string ⟨#[]⟩)).cell? ⟨w.heap.size + 1, 1, none⟩ = _ ∧ (put3 w4 (w.heap.size + 1) (.int .i64 1) (.int .i64 x) (.string ⟨#[]⟩)).cell? ⟨w.heap.size + 1, 2, none⟩ = _ := ⟨(HR1.out.put3 _ _ _).cell 0 rfl, (HR1.out.put3 _ _ _).cell 1 rfl, (HR1.out.put3 _ _ _).cell 2 rfl⟩
                change (results Tryz.f60 _).run Tryz.prog (put3 w4 _ _ _ _) = .ok _ (put3 w4 _ _ _ _)
                simp [results, Tryz.results60, go_sem, r0, r1, r2])
            · go_upto_region 26 with fail
              clear hwr hA' hB'
              have hm1 : (0 : Int) < (l.length : Int) := by omega
              have hm2 : IntKind.i64.wrap ((l.length : Int) - 1) = (m : Int) := by
                have := HM.out
                simp only [IntKind.wrap]; simp [IntKind.min, IntKind.max, IntKind.signed, IntKind.bits]; omega
              have hm3 : (m : Int) < (l.length : Int) := by have := HM.out; omega
              have hm5 : (0 : Int) ≤ (m : Int) := by omega
              have hm4 : IntKind.i64.wrap (m : Int) = (m : Int) := by
                have := HM.out
                simp only [IntKind.wrap]; simp [IntKind.min, IntKind.max, IntKind.signed, IntKind.bits]; omega
              go_region_held3 (fun W => W.cell? ⟨w.heap.size, 0, none⟩ = some (.int .i64 op) ∧ W.cell? ⟨b, o + 1, none⟩ = some (.int .i64 n0) ∧ W.cell? ⟨b, o + m * 3 + 1, none⟩ = some (.int .i64 n1)) (first | exact HS.out | exact s3_after hz HS.out) (first
                | (go_at_call 85; refine (HCa.out _).mono ?_; rintro _ w3 ⟨rfl, rfl⟩))
              all_goals (
                have HR1 := hideP (HB1.out.fr hz)
                have FW := hideP (HF0.out.trans hz)
                clear hz hm1 hm2 hm3 hm4 hm5
                generalize W0.drew = w4 at *
                have v0 := HR1.out.cell 0 rfl
                have v1 := HR1.out.cell 1 rfl
                have v2 := HR1.out.cell 2 rfl
                have y0 := HR1.out.frozen 0
                have y1 := HR1.out.frozen 1
                have y2 := HR1.out.frozen 2
                go_wp2_with fail
                refine bodyPost_ret (v := .tuple #[.agg #[.int .i64 1, .int .i64 x, .string ⟨#[]⟩], .int .i64 0]) ?_ rfl ⟨by rw [HR.out]; rfl, FW.out.put3 (w.heap.size + 1) (by first | exact Nat.le_refl _ | exact Nat.le_succ _) _ _ _⟩
                obtain ⟨r0, r1, r2⟩ : (put3 w4 (w.heap.size + 1) (.int .i64 1) (.int .i64 x) (.string ⟨#[]⟩)).cell? ⟨w.heap.size + 1, 0, none⟩ = _ ∧ (put3 w4 (w.heap.size + 1) (.int .i64 1) (.int .i64 x) (.string ⟨#[]⟩)).cell? ⟨w.heap.size + 1, 1, none⟩ = _ ∧ (put3 w4 (w.heap.size + 1) (.int .i64 1) (.int .i64 x) (.string ⟨#[]⟩)).cell? ⟨w.heap.size + 1, 2, none⟩ = _ := ⟨(HR1.out.put3 _ _ _).cell 0 rfl, (HR1.out.put3 _ _ _).cell 1 rfl, (HR1.out.put3 _ _ _).cell 2 rfl⟩
                change (results Tryz.f60 _).run Tryz.prog (put3 w4 _ _ _ _) = .ok _ (put3 w4 _ _ _ _)
                simp [results, Tryz.results60, go_sem, r0, r1, r2])
end Go.Proofs.YtjljohmflhmkmaaGreatDoor
