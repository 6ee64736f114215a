/-
  What belongs together: ReQ, ReS, ReT.
-/
import Derived.Test.YtjljohmflhmkmaaGreatDoorGpJ
namespace Go.Proofs.YtjljohmflhmkmaaGreatDoor
open Go.ChangeShapes Go.WideShapes Go.ChangeAt Go.RowKit
set_option linter.unusedVariables false
set_option linter.unusedSimpArgs false
set_option maxRecDepth 100000
set_option maxHeartbeats 4000000

theorem nodeOf_jn4 (op kids vk vn : Int) (vs nm : ByteArray) (l : List VM.Vl) (kv cv rv : Value) (w : World) (R : Except Nat VM.Vl) (hop : op = 4) (h : IsL cdV w kv l) (hp : 0 < l.length) (hl : l.length ≤ 7) (T : Int) (hT : T = 0 ∨ T = 1 ∨ T = 2) (hR : R = if 0 < l.countP EV.kT + l.countP EV.kB then .error 7 else .ok (EV.vt T)) (htr : ¬ 0 < l.countP EV.kT + l.countP EV.kB → ∀ x ∈ l, x.k ≤ 3 ∧ EV.tr x = .ok (EV.tz x)) (hTv : T = if op = 4 then LG.not ((l.map EV.tz).headD 0) else if op = 16 then LG.all (l.map EV.tz) else LG.any (l.map EV.tz)) :
    Calls Tryz.prog 60 #[.agg #[.int .i64 op, .int .i64 kids, .int .i64 vk, .int .i64 vn, .string vs, .string nm], kv, cv, rv] w fun e w' => e = .returned (exV R) ∧ Fr w w' := by
  obtain ⟨W0, hW0⟩ : ∃ W0, (w.alloc (.cells #[.int .i64 op, .int .i64 kids, .int .i64 vk, .int .i64 vn, .string vs, .string nm] 38)).alloc (.cells #[.int .i64 0, .int .i64 0, .string ⟨#[]⟩] 26) = W0 := ⟨_, rfl⟩
  have HN := hideP (show Blk W0 w.heap.size #[.int .i64 op, .int .i64 kids, .int .i64 vk, .int .i64 vn, .string vs, .string nm] 38 by rw [← hW0]; exact (Blk.new w _ _).old _)
  have HB1 := hideP (show Blk W0 (w.heap.size + 1) #[.int .i64 0, .int .i64 0, .string ⟨#[]⟩] 26 by rw [← hW0]; have := Blk.new (w.alloc (.cells #[.int .i64 op, .int .i64 kids, .int .i64 vk, .int .i64 vn, .string vs, .string nm] 38)) #[.int .i64 0, .int .i64 0, .string ⟨#[]⟩] 26; simpa using this)
  have HF0 := hideP (show Fr w W0 by rw [← hW0]; exact ((Fr.refl w).alloc _).alloc _)
  have hle0 := Fr.size HF0.out
  have u0 := HN.out.cell 0 rfl
  have u1 := HN.out.cell 1 rfl
  have u2 := HN.out.cell 2 rfl
  have u3 := HN.out.cell 3 rfl
  have u4 := HN.out.cell 4 rfl
  have u5 := HN.out.cell 5 rfl
  obtain ⟨a, cap, rfl, hcap, hcs⟩ := h
  obtain ⟨b, o, rfl, hb, hat⟩ : ∃ b o, a = some ⟨b, o, none⟩ ∧ b < w.heap.size ∧ At cdV w b o l := by
    rcases hcs with h | h
    · rw [h] at hp; simp at hp
    · exact h
  have HAt := hideP (hat.fr hb HF0.out)
  have HAt0 := hideP hat
  have HR := hideP hR
  have HOp := hideP hop
  have q1 : (op == 1) = false := by simp; omega
  have q2 : (op == 2) = false := by simp; omega
  clear hcs hat hR hop
  obtain ⟨i0, hi0, hz0, hz1, hz2⟩ := info_parts Tryz.infoElem
  have HTr := hideP htr
  have HTv := hideP hTv
  have TV := hideP (fun W => truthValue_any T hT W)
  obtain ⟨tk, tn, tx, hvt⟩ : ∃ tk tn tx, EV.vt T = ⟨tk, tn, tx⟩ := ⟨_, _, _, rfl⟩
  rw [hvt] at TV HR
  simp only [vlV] at TV
  clear htr hTv hvt hT
  go_enter Tryz.func60, Tryz.ntmps60
  go_wp2_with fail
  clear q1 q2
  go_loop [11, 12, 13, 14, 15] (fun x0 x1 x2 x3 x4 => ∃ i c0 c1 c2 c3 : Nat, x4 = .int .i64 i ∧ x0 = .int .i64 c0 ∧ x1 = .int .i64 c1 ∧ x2 = .int .i64 c2 ∧ x3 = .int .i64 c3 ∧ i ≤ l.length ∧ c0 + c1 + c2 + c3 = i ∧ (l.take i).countP EV.kN = c0 ∧ (l.take i).countP EV.kT = c1 ∧ (l.take i).countP EV.kI = c2 ∧ (l.take i).countP EV.kB = c3) (fun _ _ _ _ x4 => l.length - (intOf x4).toNat)
  case atStart => exact ⟨0, 0, 0, 0, 0, rfl, rfl, rfl, rfl, rfl, Nat.zero_le _, rfl, rfl, rfl, rfl, rfl⟩
  case round =>
    obtain ⟨i, c0, c1, c2, c3, rfl, rfl, rfl, rfl, rfl, hi, hs, e0, e1, e2, e3⟩ := hrel
    by_cases hlt : i < l.length
    · have hlt' : (i : Int) < (l.length : Int) := by omega
      have d0 := (HAt.out.v3 i hlt).1
      have t0 := EV.countP_take EV.kN hlt
      have t1 := EV.countP_take EV.kT hlt
      have t2 := EV.countP_take EV.kI hlt
      have t3 := EV.countP_take EV.kB hlt
      rw [e0] at t0
      rw [e1] at t1
      rw [e2] at t2
      rw [e3] at t3
      generalize l[i] = x at *
      obtain ⟨k, xn, xs⟩ := x
      simp only [EV.kN, EV.kT, EV.kI, EV.kB] at d0 t0 t1 t2 t3
      rcases (show k = 0 ∨ k = 1 ∨ k = 2 ∨ (k ≠ 0 ∧ k ≠ 1 ∧ k ≠ 2) by omega) with rfl | rfl | rfl | ⟨k0, k1, k2⟩
      · have HT := hideP (show _ ∧ _ ∧ _ ∧ _ from ⟨t0, t1, t2, t3⟩)
        clear t0 t1 t2 t3 e0 e1 e2 e3
        go_wp2_with fail
        go_round
        case rel => exact ⟨i + 1, c0 + 1, c1, c2, c3, by go_num, by go_num, rfl, rfl, rfl, by omega, by omega, by rw [HT.out.1]; simp, by rw [HT.out.2.1]; simp, by rw [HT.out.2.2.1]; simp, by rw [HT.out.2.2.2]; simp⟩
        case measure => simp [intOf]; omega
      · have HT := hideP (show _ ∧ _ ∧ _ ∧ _ from ⟨t0, t1, t2, t3⟩)
        clear t0 t1 t2 t3 e0 e1 e2 e3
        go_wp2_with fail
        go_round
        case rel => exact ⟨i + 1, c0, c1, c2 + 1, c3, by go_num, rfl, rfl, by go_num, rfl, by omega, by omega, by rw [HT.out.1]; simp, by rw [HT.out.2.1]; simp, by rw [HT.out.2.2.1]; simp, by rw [HT.out.2.2.2]; simp⟩
        case measure => simp [intOf]; omega
      · have HT := hideP (show _ ∧ _ ∧ _ ∧ _ from ⟨t0, t1, t2, t3⟩)
        clear t0 t1 t2 t3 e0 e1 e2 e3
        go_wp2_with fail
        go_round
        case rel => exact ⟨i + 1, c0, c1 + 1, c2, c3, by go_num, rfl, by go_num, rfl, rfl, by omega, by omega, by rw [HT.out.1]; simp, by rw [HT.out.2.1]; simp, by rw [HT.out.2.2.1]; simp, by rw [HT.out.2.2.2]; simp⟩
        case measure => simp [intOf]; omega
      · have HT := hideP (show _ ∧ _ ∧ _ ∧ _ from ⟨t0, t1, t2, t3⟩)
        have HK := hideP (show k ≠ 0 ∧ k ≠ 1 ∧ k ≠ 2 from ⟨k0, k1, k2⟩)
        have z0 : (k == 0) = false := by simpa using k0
        have z1 : (k == 1) = false := by simpa using k1
        have z2 : (k == 2) = false := by simpa using k2
        clear t0 t1 t2 t3 e0 e1 e2 e3 k0 k1 k2
        go_wp2_with fail
        go_round
        case rel => exact ⟨i + 1, c0, c1, c2, c3 + 1, by go_num, rfl, rfl, rfl, by go_num, by omega, by omega, by rw [HT.out.1]; simp [HK.out], by rw [HT.out.2.1]; simp [HK.out], by rw [HT.out.2.2.1]; simp [HK.out], by rw [HT.out.2.2.2]; simp [HK.out]⟩
        case measure => simp [intOf]; omega
    · obtain rfl : i = l.length := by omega
      rw [List.take_length] at e0 e1 e2 e3
      have hlt' : ((l.length : Int) < (l.length : Int)) = False := by simp
      rw [e1, e3] at HR HTr
      have hop := HOp.out
      clear e0 e1 e2 e3 HOp
      have HWr := hideP (show wrap64 ((c1 : Int) + (c3 : Int)) = (c1 : Int) + (c3 : Int) from WH.wrap_ok ⟨by omega, by omega⟩)
      by_cases hA : 0 < c1 + c3
      · replace HR := hideP (HR.out.trans (if_pos hA))
        obtain rfl := hop
        all_goals (
          go_upto_region 40 with fail
          have hA' : (0 : Int) < wrap64 ((c1 : Int) + (c3 : Int)) := by rw [HWr.out]; exact pos_add hA
          go_upto_region 41 with fail
          clear hA' hA
          have v0 := HB1.out.cell 0 rfl
          have v1 := HB1.out.cell 1 rfl
          have v2 := HB1.out.cell 2 rfl
          have y0 := HB1.out.frozen 0
          have y1 := HB1.out.frozen 1
          have y2 := HB1.out.frozen 2
          go_wp2_with fail
          refine bodyPost_ret (v := .tuple #[.agg #[.int .i64 0, .int .i64 0, .string ⟨#[]⟩], .int .i64 7]) ?_ rfl ⟨by rw [HR.out]; rfl, HF0.out.put3 (w.heap.size + 1) (by first | exact Nat.le_refl _ | exact Nat.le_succ _) _ _ _⟩
          obtain ⟨r0, r1, r2⟩ : (put3 W0 (w.heap.size + 1) (.int .i64 0) (.int .i64 0) (.string ⟨#[]⟩)).cell? ⟨w.heap.size + 1, 0, none⟩ = _ ∧ (put3 W0 (w.heap.size + 1) (.int .i64 0) (.int .i64 0) (.string ⟨#[]⟩)).cell? ⟨w.heap.size + 1, 1, none⟩ = _ ∧ (put3 W0 (w.heap.size + 1) (.int .i64 0) (.int .i64 0) (.string ⟨#[]⟩)).cell? ⟨w.heap.size + 1, 2, none⟩ = _ := ⟨(HB1.out.put3 _ _ _).cell 0 rfl, (HB1.out.put3 _ _ _).cell 1 rfl, (HB1.out.put3 _ _ _).cell 2 rfl⟩
          change (results Tryz.f60 _).run Tryz.prog (put3 W0 _ _ _ _) = .ok _ (put3 W0 _ _ _ _)
          simp [results, Tryz.results60, go_sem, r0, r1, r2])
      · replace HR := hideP (HR.out.trans (if_neg hA))
        replace HTr := hideP (HTr.out hA)
        obtain rfl := hop
        go_upto_region 40 with fail
        have hA' : ¬ (0 : Int) < wrap64 ((c1 : Int) + (c3 : Int)) := by rw [HWr.out]; exact npos_add hA
        go_upto_region 42 with fail
        clear hA' hA
        go_wp2_with fail
        go_loopw [19, 20, 21, 22] (fun lv iv _ _ wr => ∃ i : Nat, iv = .int .i64 i ∧ i ≤ l.length ∧ wr.ownsRow W0.heap.size 3 1 lv i (flat cdZ ((l.map EV.tz).take i)) ∧ Fr W0 wr) (fun _ iv _ _ _ => l.length - (intOf iv).toNat)
        case atStart => exact ⟨0, rfl, Nat.zero_le _, World.ownsRow_nil _ _ _ _, Fr.refl _⟩
        case round =>
          obtain ⟨i, rfl, hi, hown, hfr⟩ := hrel
          obtain ⟨fa, fc, rfl⟩ := own_slice hown
          have HO := hideP hown
          have HF := hideP hfr
          clear hown hfr
          by_cases hlt : i < l.length
          · have hlt' : (i : Int) < (l.length : Int) := by omega
            obtain ⟨d0, d1, d2⟩ := (HAt.out.fr (Nat.lt_of_lt_of_le hb hle0) HF.out).v3 i hlt
            have hst : (l.map EV.tz).take (i + 1) = (l.map EV.tz).take i ++ [EV.tz l[i]] := by
              rw [List.take_succ_eq_append_getElem (by simpa using hlt), List.getElem_map]
            obtain ⟨x3, x4⟩ := HTr.out l[i] (List.getElem_mem hlt)
            have ci := fun W => rtruthOf_any l[i] x3 W
            rw [x4] at ci
            obtain ⟨t, ht⟩ : ∃ t, EV.tz l[i] = t := ⟨_, rfl⟩
            obtain ⟨x, hx⟩ : ∃ x, l[i] = x := ⟨_, rfl⟩
            rw [ht] at ci hst
            rw [hx] at ci d0 d1 d2
            obtain ⟨k0, k1, k2⟩ := x
            simp only [exT, vlV] at ci d0 d1 d2
            have HSt := hideP hst
            clear hst x4 x3 ht hx u0 u1 u2 u3 u4 u5
            go_wp2_with fail
            refine (ci _).mono ?_
            rintro _ w2 ⟨rfl, f2⟩
            have FW2 := hideP (HF.out.trans f2)
            have HLit := hideP (lit_one cdZ w2 t 3)
            have HO2 := hideP (own_fr HO.out (f2.alloc (.cells #[.int .i64 t] 3)))
            have hsz : W0.heap.size ≤ w2.heap.size := FW2.out.size
            clear f2 ci
            go_wp2_with (at_builtin; refine wpList_append_L cdZ rfl _ _ 64 3 i0 _ 8 rfl Tryz.underlying64 hi0 hz0 hz1 hz2 rfl W0.heap.size _ i _ rfl HO2.out (.slice (some ⟨w2.heap.size, 0, none⟩) 1 1) [t] rfl HLit.out ?c3 ?c4 ?c5 ?_)
            case c3 => unfold maxLen; simp <;> omega
            case c4 => simp <;> omega
            case c5 => simp <;> omega
            intro v2 wB own2 gr2
            have HN2 := hideP own2
            have FB := hideP (show Fr W0 wB from Below.grown (FW2.out.alloc _) gr2 (by simp <;> omega) (own_base HO2.out))
            clear own2 gr2
            go_wp2_with fail
            go_roundw
            case rel => exact ⟨i + 1, by go_num, by omega, by rw [HSt.out]; exact HN2.out, FB.out⟩
            case measure => simp [intOf]; omega
          · obtain rfl : i = l.length := by omega
            have hlt' : ((l.length : Int) < (l.length : Int)) = False := by simp
            have hml : (l.map EV.tz).length = l.length := by simp
            have hIs : IsL cdZ wr (.slice fa l.length fc) (l.map EV.tz) := by
              have h := HO.out
              rw [List.take_of_length_le (Nat.le_of_eq hml), ← hml] at h
              have := isL_own h
              rw [hml] at this
              exact this
            have u0 := (HN.out.fr HF.out).cell 0 rfl
            have HF1 := hideP (HF0.out.trans HF.out)
            have HB2 := hideP (HB1.out.fr HF.out)
            obtain ⟨ts, hts⟩ : ∃ ts, l.map EV.tz = ts := ⟨_, rfl⟩
            rw [hts] at hml hIs HTv
            clear hts
            obtain ⟨a9, c9, e9, _, h9⟩ := hIs
            simp only [Value.slice.injEq] at e9
            obtain ⟨rfl, e10, rfl⟩ := e9
            clear e10
            have htp : 0 < ts.length := by rw [hml]; exact hp
            obtain ⟨b9, o9, rfl, hb9, hat9⟩ : ∃ b o, fa = some ⟨b, o, none⟩ ∧ b < wr.heap.size ∧ At cdZ wr b o ts := by
              rcases h9 with h | h
              · rw [h] at htp; simp at htp
              · exact h
            have g0 : wr.cell? ⟨b9, o9, none⟩ = some (.int .i64 ts[0]) := by
              have := hat9 0 (.int .i64 ts[0]) (by have := flat_get cdZ ts 0 0 htp (by decide); simpa [cdZ] using this)
              simpa using this
            have hhd : ts.headD 0 = ts[0] := by cases ts with
              | nil => simp at htp
              | cons x r => rfl
            have HX := hideP (show T = LG.not ts[0] by rw [← hhd, HTv.out]; simp)
            obtain ⟨t0, ht0⟩ : ∃ t0, ts[0] = t0 := ⟨_, rfl⟩
            rw [ht0] at g0 HX
            clear ht0
            have cn := fun W => truthNot_any t0 W
            rw [← HX.out] at cn
            have hlp : (0 : Int) < (l.length : Int) := by omega
            clear hat9 h9 hhd HTv HX HTr hml htp
            go_wp2_with fail
            refine (cn _).mono ?_
            rintro _ w2 ⟨rfl, rfl⟩
            go_wp2_with fail
            refine (TV.out _).mono ?_
            rintro _ w3 ⟨rfl, f3⟩
            have HB3 := hideP (HB2.out.fr f3)
            have HF3 := hideP (HF1.out.trans f3)
            clear f3
            have v0 := HB3.out.cell 0 rfl
            have v1 := HB3.out.cell 1 rfl
            have v2 := HB3.out.cell 2 rfl
            have y0 := HB3.out.frozen 0
            have y1 := HB3.out.frozen 1
            have y2 := HB3.out.frozen 2
            go_wp2_with fail
            refine bodyPost_ret (v := .tuple #[.agg #[.int .i64 tk, .int .i64 tn, .string tx], .int .i64 0]) ?_ rfl ⟨by rw [HR.out]; rfl, HF3.out.put3 (w.heap.size + 1) (by first | exact Nat.le_refl _ | exact Nat.le_succ _) _ _ _⟩
            obtain ⟨r0, r1, r2⟩ : (put3 w3 (w.heap.size + 1) (.int .i64 tk) (.int .i64 tn) (.string tx)).cell? ⟨w.heap.size + 1, 0, none⟩ = _ ∧ (put3 w3 (w.heap.size + 1) (.int .i64 tk) (.int .i64 tn) (.string tx)).cell? ⟨w.heap.size + 1, 1, none⟩ = _ ∧ (put3 w3 (w.heap.size + 1) (.int .i64 tk) (.int .i64 tn) (.string tx)).cell? ⟨w.heap.size + 1, 2, none⟩ = _ := ⟨(HB3.out.put3 _ _ _).cell 0 rfl, (HB3.out.put3 _ _ _).cell 1 rfl, (HB3.out.put3 _ _ _).cell 2 rfl⟩
            change (results Tryz.f60 _).run Tryz.prog (put3 w3 _ _ _ _) = .ok _ (put3 w3 _ _ _ _)
            simp [results, Tryz.results60, go_sem, r0, r1, r2]
end Go.Proofs.YtjljohmflhmkmaaGreatDoor
namespace Go.Proofs.YtjljohmflhmkmaaGreatDoor
open Go.ChangeShapes Go.WideShapes Go.ChangeAt Go.RowKit
set_option linter.unusedVariables false
set_option linter.unusedSimpArgs false
set_option maxRecDepth 100000
set_option maxHeartbeats 4000000

theorem nodeOf_jn16 (op kids vk vn : Int) (vs nm : ByteArray) (l : List VM.Vl) (kv cv rv : Value) (w : World) (R : Except Nat VM.Vl) (hop : op = 16) (h : IsL cdV w kv l) (hp : 0 < l.length) (hl : l.length ≤ 7) (T : Int) (hT : T = 0 ∨ T = 1 ∨ T = 2) (hR : R = if 0 < l.countP EV.kT + l.countP EV.kB then .error 7 else .ok (EV.vt T)) (htr : ¬ 0 < l.countP EV.kT + l.countP EV.kB → ∀ x ∈ l, x.k ≤ 3 ∧ EV.tr x = .ok (EV.tz x)) (hTv : T = if op = 4 then LG.not ((l.map EV.tz).headD 0) else if op = 16 then LG.all (l.map EV.tz) else LG.any (l.map EV.tz)) :
    Calls Tryz.prog 60 #[.agg #[.int .i64 op, .int .i64 kids, .int .i64 vk, .int .i64 vn, .string vs, .string nm], kv, cv, rv] w fun e w' => e = .returned (exV R) ∧ Fr w w' := by
  obtain ⟨W0, hW0⟩ : ∃ W0, (w.alloc (.cells #[.int .i64 op, .int .i64 kids, .int .i64 vk, .int .i64 vn, .string vs, .string nm] 38)).alloc (.cells #[.int .i64 0, .int .i64 0, .string ⟨#[]⟩] 26) = W0 := ⟨_, rfl⟩
  have HN := hideP (show Blk W0 w.heap.size #[.int .i64 op, .int .i64 kids, .int .i64 vk, .int .i64 vn, .string vs, .string nm] 38 by rw [← hW0]; exact (Blk.new w _ _).old _)
  have HB1 := hideP (show Blk W0 (w.heap.size + 1) #[.int .i64 0, .int .i64 0, .string ⟨#[]⟩] 26 by rw [← hW0]; have := Blk.new (w.alloc (.cells #[.int .i64 op, .int .i64 kids, .int .i64 vk, .int .i64 vn, .string vs, .string nm] 38)) #[.int .i64 0, .int .i64 0, .string ⟨#[]⟩] 26; simpa using this)
  have HF0 := hideP (show Fr w W0 by rw [← hW0]; exact ((Fr.refl w).alloc _).alloc _)
  have hle0 := Fr.size HF0.out
  have u0 := HN.out.cell 0 rfl
  have u1 := HN.out.cell 1 rfl
  have u2 := HN.out.cell 2 rfl
  have u3 := HN.out.cell 3 rfl
  have u4 := HN.out.cell 4 rfl
  have u5 := HN.out.cell 5 rfl
  obtain ⟨a, cap, rfl, hcap, hcs⟩ := h
  obtain ⟨b, o, rfl, hb, hat⟩ : ∃ b o, a = some ⟨b, o, none⟩ ∧ b < w.heap.size ∧ At cdV w b o l := by
    rcases hcs with h | h
    · rw [h] at hp; simp at hp
    · exact h
  have HAt := hideP (hat.fr hb HF0.out)
  have HAt0 := hideP hat
  have HR := hideP hR
  have HOp := hideP hop
  have q1 : (op == 1) = false := by simp; omega
  have q2 : (op == 2) = false := by simp; omega
  clear hcs hat hR hop
  obtain ⟨i0, hi0, hz0, hz1, hz2⟩ := info_parts Tryz.infoElem
  have HTr := hideP htr
  have HTv := hideP hTv
  have TV := hideP (fun W => truthValue_any T hT W)
  obtain ⟨tk, tn, tx, hvt⟩ : ∃ tk tn tx, EV.vt T = ⟨tk, tn, tx⟩ := ⟨_, _, _, rfl⟩
  rw [hvt] at TV HR
  simp only [vlV] at TV
  clear htr hTv hvt hT
  go_enter Tryz.func60, Tryz.ntmps60
  go_wp2_with fail
  clear q1 q2
  go_loop [11, 12, 13, 14, 15] (fun x0 x1 x2 x3 x4 => ∃ i c0 c1 c2 c3 : Nat, x4 = .int .i64 i ∧ x0 = .int .i64 c0 ∧ x1 = .int .i64 c1 ∧ x2 = .int .i64 c2 ∧ x3 = .int .i64 c3 ∧ i ≤ l.length ∧ c0 + c1 + c2 + c3 = i ∧ (l.take i).countP EV.kN = c0 ∧ (l.take i).countP EV.kT = c1 ∧ (l.take i).countP EV.kI = c2 ∧ (l.take i).countP EV.kB = c3) (fun _ _ _ _ x4 => l.length - (intOf x4).toNat)
  case atStart => exact ⟨0, 0, 0, 0, 0, rfl, rfl, rfl, rfl, rfl, Nat.zero_le _, rfl, rfl, rfl, rfl, rfl⟩
  case round =>
    obtain ⟨i, c0, c1, c2, c3, rfl, rfl, rfl, rfl, rfl, hi, hs, e0, e1, e2, e3⟩ := hrel
    by_cases hlt : i < l.length
    · have hlt' : (i : Int) < (l.length : Int) := by omega
      have d0 := (HAt.out.v3 i hlt).1
      have t0 := EV.countP_take EV.kN hlt
      have t1 := EV.countP_take EV.kT hlt
      have t2 := EV.countP_take EV.kI hlt
      have t3 := EV.countP_take EV.kB hlt
      rw [e0] at t0
      rw [e1] at t1
      rw [e2] at t2
      rw [e3] at t3
      generalize l[i] = x at *
      obtain ⟨k, xn, xs⟩ := x
      simp only [EV.kN, EV.kT, EV.kI, EV.kB] at d0 t0 t1 t2 t3
      rcases (show k = 0 ∨ k = 1 ∨ k = 2 ∨ (k ≠ 0 ∧ k ≠ 1 ∧ k ≠ 2) by omega) with rfl | rfl | rfl | ⟨k0, k1, k2⟩
      · have HT := hideP (show _ ∧ _ ∧ _ ∧ _ from ⟨t0, t1, t2, t3⟩)
        clear t0 t1 t2 t3 e0 e1 e2 e3
        go_wp2_with fail
        go_round
        case rel => exact ⟨i + 1, c0 + 1, c1, c2, c3, by go_num, by go_num, rfl, rfl, rfl, by omega, by omega, by rw [HT.out.1]; simp, by rw [HT.out.2.1]; simp, by rw [HT.out.2.2.1]; simp, by rw [HT.out.2.2.2]; simp⟩
        case measure => simp [intOf]; omega
      · have HT := hideP (show _ ∧ _ ∧ _ ∧ _ from ⟨t0, t1, t2, t3⟩)
        clear t0 t1 t2 t3 e0 e1 e2 e3
        go_wp2_with fail
        go_round
        case rel => exact ⟨i + 1, c0, c1, c2 + 1, c3, by go_num, rfl, rfl, by go_num, rfl, by omega, by omega, by rw [HT.out.1]; simp, by rw [HT.out.2.1]; simp, by rw [HT.out.2.2.1]; simp, by rw [HT.out.2.2.2]; simp⟩
        case measure => simp [intOf]; omega
      · have HT := hideP (show _ ∧ _ ∧ _ ∧ _ from ⟨t0, t1, t2, t3⟩)
        clear t0 t1 t2 t3 e0 e1 e2 e3
        go_wp2_with fail
        go_round
        case rel => exact ⟨i + 1, c0, c1 + 1, c2, c3, by go_num, rfl, by go_num, rfl, rfl, by omega, by omega, by rw [HT.out.1]; simp, by rw [HT.out.2.1]; simp, by rw [HT.out.2.2.1]; simp, by rw [HT.out.2.2.2]; simp⟩
        case measure => simp [intOf]; omega
      · have HT := hideP (show _ ∧ _ ∧ _ ∧ _ from ⟨t0, t1, t2, t3⟩)
        have HK := hideP (show k ≠ 0 ∧ k ≠ 1 ∧ k ≠ 2 from ⟨k0, k1, k2⟩)
        have z0 : (k == 0) = false := by simpa using k0
        have z1 : (k == 1) = false := by simpa using k1
        have z2 : (k == 2) = false := by simpa using k2
        clear t0 t1 t2 t3 e0 e1 e2 e3 k0 k1 k2
        go_wp2_with fail
        go_round
        case rel => exact ⟨i + 1, c0, c1, c2, c3 + 1, by go_num, rfl, rfl, rfl, by go_num, by omega, by omega, by rw [HT.out.1]; simp [HK.out], by rw [HT.out.2.1]; simp [HK.out], by rw [HT.out.2.2.1]; simp [HK.out], by rw [HT.out.2.2.2]; simp [HK.out]⟩
        case measure => simp [intOf]; omega
    · obtain rfl : i = l.length := by omega
      rw [List.take_length] at e0 e1 e2 e3
      have hlt' : ((l.length : Int) < (l.length : Int)) = False := by simp
      rw [e1, e3] at HR HTr
      have hop := HOp.out
      clear e0 e1 e2 e3 HOp
      have HWr := hideP (show wrap64 ((c1 : Int) + (c3 : Int)) = (c1 : Int) + (c3 : Int) from WH.wrap_ok ⟨by omega, by omega⟩)
      by_cases hA : 0 < c1 + c3
      · replace HR := hideP (HR.out.trans (if_pos hA))
        obtain rfl := hop
        all_goals (
          go_upto_region 40 with fail
          have hA' : (0 : Int) < wrap64 ((c1 : Int) + (c3 : Int)) := by rw [HWr.out]; exact pos_add hA
          go_upto_region 41 with fail
          clear hA' hA
          have v0 := HB1.out.cell 0 rfl
          have v1 := HB1.out.cell 1 rfl
          have v2 := HB1.out.cell 2 rfl
          have y0 := HB1.out.frozen 0
          have y1 := HB1.out.frozen 1
          have y2 := HB1.out.frozen 2
          go_wp2_with fail
          refine bodyPost_ret (v := .tuple #[.agg #[.int .i64 0, .int .i64 0, .string ⟨#[]⟩], .int .i64 7]) ?_ rfl ⟨by rw [HR.out]; rfl, HF0.out.put3 (w.heap.size + 1) (by first | exact Nat.le_refl _ | exact Nat.le_succ _) _ _ _⟩
          obtain ⟨r0, r1, r2⟩ : (put3 W0 (w.heap.size + 1) (.int .i64 0) (.int .i64 0) (.string ⟨#[]⟩)).cell? ⟨w.heap.size + 1, 0, none⟩ = _ ∧ (put3 W0 (w.heap.size + 1) (.int .i64 0) (.int .i64 0) (.string ⟨#[]⟩)).cell? ⟨w.heap.size + 1, 1, none⟩ = _ ∧ (put3 W0 (w.heap.size + 1) (.int .i64 0) (.int .i64 0) (.string ⟨#[]⟩)).cell? ⟨w.heap.size + 1, 2, none⟩ = _ := ⟨(HB1.out.put3 _ _ _).cell 0 rfl, (HB1.out.put3 _ _ _).cell 1 rfl, (HB1.out.put3 _ _ _).cell 2 rfl⟩
          change (results Tryz.f60 _).run Tryz.prog (put3 W0 _ _ _ _) = .ok _ (put3 W0 _ _ _ _)
          simp [results, Tryz.results60, go_sem, r0, r1, r2])
      · replace HR := hideP (HR.out.trans (if_neg hA))
        replace HTr := hideP (HTr.out hA)
        obtain rfl := hop
        go_upto_region 40 with fail
        have hA' : ¬ (0 : Int) < wrap64 ((c1 : Int) + (c3 : Int)) := by rw [HWr.out]; exact npos_add hA
        go_upto_region 42 with fail
        clear hA' hA
        go_wp2_with fail
        go_loopw [19, 20, 21, 22] (fun lv iv _ _ wr => ∃ i : Nat, iv = .int .i64 i ∧ i ≤ l.length ∧ wr.ownsRow W0.heap.size 3 1 lv i (flat cdZ ((l.map EV.tz).take i)) ∧ Fr W0 wr) (fun _ iv _ _ _ => l.length - (intOf iv).toNat)
        case atStart => exact ⟨0, rfl, Nat.zero_le _, World.ownsRow_nil _ _ _ _, Fr.refl _⟩
        case round =>
          obtain ⟨i, rfl, hi, hown, hfr⟩ := hrel
          obtain ⟨fa, fc, rfl⟩ := own_slice hown
          have HO := hideP hown
          have HF := hideP hfr
          clear hown hfr
          by_cases hlt : i < l.length
          · have hlt' : (i : Int) < (l.length : Int) := by omega
            obtain ⟨d0, d1, d2⟩ := (HAt.out.fr (Nat.lt_of_lt_of_le hb hle0) HF.out).v3 i hlt
            have hst : (l.map EV.tz).take (i + 1) = (l.map EV.tz).take i ++ [EV.tz l[i]] := by
              rw [List.take_succ_eq_append_getElem (by simpa using hlt), List.getElem_map]
            obtain ⟨x3, x4⟩ := HTr.out l[i] (List.getElem_mem hlt)
            have ci := fun W => rtruthOf_any l[i] x3 W
            rw [x4] at ci
            obtain ⟨t, ht⟩ : ∃ t, EV.tz l[i] = t := ⟨_, rfl⟩
            obtain ⟨x, hx⟩ : ∃ x, l[i] = x := ⟨_, rfl⟩
            rw [ht] at ci hst
            rw [hx] at ci d0 d1 d2
            obtain ⟨k0, k1, k2⟩ := x
            simp only [exT, vlV] at ci d0 d1 d2
            have HSt := hideP hst
            clear hst x4 x3 ht hx u0 u1 u2 u3 u4 u5
            go_wp2_with fail
            refine (ci _).mono ?_
            rintro _ w2 ⟨rfl, f2⟩
            have FW2 := hideP (HF.out.trans f2)
            have HLit := hideP (lit_one cdZ w2 t 3)
            have HO2 := hideP (own_fr HO.out (f2.alloc (.cells #[.int .i64 t] 3)))
            have hsz : W0.heap.size ≤ w2.heap.size := FW2.out.size
            clear f2 ci
            go_wp2_with (at_builtin; refine wpList_append_L cdZ rfl _ _ 64 3 i0 _ 8 rfl Tryz.underlying64 hi0 hz0 hz1 hz2 rfl W0.heap.size _ i _ rfl HO2.out (.slice (some ⟨w2.heap.size, 0, none⟩) 1 1) [t] rfl HLit.out ?c3 ?c4 ?c5 ?_)
            case c3 => unfold maxLen; simp <;> omega
            case c4 => simp <;> omega
            case c5 => simp <;> omega
            intro v2 wB own2 gr2
            have HN2 := hideP own2
            have FB := hideP (show Fr W0 wB from Below.grown (FW2.out.alloc _) gr2 (by simp <;> omega) (own_base HO2.out))
            clear own2 gr2
            go_wp2_with fail
            go_roundw
            case rel => exact ⟨i + 1, by go_num, by omega, by rw [HSt.out]; exact HN2.out, FB.out⟩
            case measure => simp [intOf]; omega
          · obtain rfl : i = l.length := by omega
            have hlt' : ((l.length : Int) < (l.length : Int)) = False := by simp
            have hml : (l.map EV.tz).length = l.length := by simp
            have hIs : IsL cdZ wr (.slice fa l.length fc) (l.map EV.tz) := by
              have h := HO.out
              rw [List.take_of_length_le (Nat.le_of_eq hml), ← hml] at h
              have := isL_own h
              rw [hml] at this
              exact this
            have u0 := (HN.out.fr HF.out).cell 0 rfl
            have HF1 := hideP (HF0.out.trans HF.out)
            have HB2 := hideP (HB1.out.fr HF.out)
            obtain ⟨ts, hts⟩ : ∃ ts, l.map EV.tz = ts := ⟨_, rfl⟩
            rw [hts] at hml hIs HTv
            clear hts
            have hii := isInts_of hIs
            have ca := truthAll_any _ ts wr hii (by rw [hml]; omega)
            have HX := hideP (show T = LG.all ts by rw [HTv.out]; first | rw [if_neg (by decide), if_pos rfl] | simp)
            rw [← HX.out] at ca
            clear hIs hii HTv HX HTr
            go_wp2_with fail
            refine ca.mono ?_
            rintro _ w2 ⟨rfl, rfl⟩
            go_wp2_with fail
            refine (TV.out _).mono ?_
            rintro _ w3 ⟨rfl, f3⟩
            have HB3 := hideP (HB2.out.fr f3)
            have HF3 := hideP (HF1.out.trans f3)
            clear f3
            have v0 := HB3.out.cell 0 rfl
            have v1 := HB3.out.cell 1 rfl
            have v2 := HB3.out.cell 2 rfl
            have y0 := HB3.out.frozen 0
            have y1 := HB3.out.frozen 1
            have y2 := HB3.out.frozen 2
            go_wp2_with fail
            refine bodyPost_ret (v := .tuple #[.agg #[.int .i64 tk, .int .i64 tn, .string tx], .int .i64 0]) ?_ rfl ⟨by rw [HR.out]; rfl, HF3.out.put3 (w.heap.size + 1) (by first | exact Nat.le_refl _ | exact Nat.le_succ _) _ _ _⟩
            obtain ⟨r0, r1, r2⟩ : (put3 w3 (w.heap.size + 1) (.int .i64 tk) (.int .i64 tn) (.string tx)).cell? ⟨w.heap.size + 1, 0, none⟩ = _ ∧ (put3 w3 (w.heap.size + 1) (.int .i64 tk) (.int .i64 tn) (.string tx)).cell? ⟨w.heap.size + 1, 1, none⟩ = _ ∧ (put3 w3 (w.heap.size + 1) (.int .i64 tk) (.int .i64 tn) (.string tx)).cell? ⟨w.heap.size + 1, 2, none⟩ = _ := ⟨(HB3.out.put3 _ _ _).cell 0 rfl, (HB3.out.put3 _ _ _).cell 1 rfl, (HB3.out.put3 _ _ _).cell 2 rfl⟩
            change (results Tryz.f60 _).run Tryz.prog (put3 w3 _ _ _ _) = .ok _ (put3 w3 _ _ _ _)
            simp [results, Tryz.results60, go_sem, r0, r1, r2]
end Go.Proofs.YtjljohmflhmkmaaGreatDoor
namespace Go.Proofs.YtjljohmflhmkmaaGreatDoor
open Go.ChangeShapes Go.WideShapes Go.ChangeAt Go.RowKit
set_option linter.unusedVariables false
set_option linter.unusedSimpArgs false
set_option maxRecDepth 100000
set_option maxHeartbeats 4000000

theorem nodeOf_jn17 (op kids vk vn : Int) (vs nm : ByteArray) (l : List VM.Vl) (kv cv rv : Value) (w : World) (R : Except Nat VM.Vl) (hop : op = 17) (h : IsL cdV w kv l) (hp : 0 < l.length) (hl : l.length ≤ 7) (T : Int) (hT : T = 0 ∨ T = 1 ∨ T = 2) (hR : R = if 0 < l.countP EV.kT + l.countP EV.kB then .error 7 else .ok (EV.vt T)) (htr : ¬ 0 < l.countP EV.kT + l.countP EV.kB → ∀ x ∈ l, x.k ≤ 3 ∧ EV.tr x = .ok (EV.tz x)) (hTv : T = if op = 4 then LG.not ((l.map EV.tz).headD 0) else if op = 16 then LG.all (l.map EV.tz) else LG.any (l.map EV.tz)) :
    Calls Tryz.prog 60 #[.agg #[.int .i64 op, .int .i64 kids, .int .i64 vk, .int .i64 vn, .string vs, .string nm], kv, cv, rv] w fun e w' => e = .returned (exV R) ∧ Fr w w' := by
  obtain ⟨W0, hW0⟩ : ∃ W0, (w.alloc (.cells #[.int .i64 op, .int .i64 kids, .int .i64 vk, .int .i64 vn, .string vs, .string nm] 38)).alloc (.cells #[.int .i64 0, .int .i64 0, .string ⟨#[]⟩] 26) = W0 := ⟨_, rfl⟩
  have HN := hideP (show Blk W0 w.heap.size #[.int .i64 op, .int .i64 kids, .int .i64 vk, .int .i64 vn, .string vs, .string nm] 38 by rw [← hW0]; exact (Blk.new w _ _).old _)
  have HB1 := hideP (show Blk W0 (w.heap.size + 1) #[.int .i64 0, .int .i64 0, .string ⟨#[]⟩] 26 by rw [← hW0]; have := Blk.new (w.alloc (.cells #[.int .i64 op, .int .i64 kids, .int .i64 vk, .int .i64 vn, .string vs, .string nm] 38)) #[.int .i64 0, .int .i64 0, .string ⟨#[]⟩] 26; simpa using this)
  have HF0 := hideP (show Fr w W0 by rw [← hW0]; exact ((Fr.refl w).alloc _).alloc _)
  have hle0 := Fr.size HF0.out
  have u0 := HN.out.cell 0 rfl
  have u1 := HN.out.cell 1 rfl
  have u2 := HN.out.cell 2 rfl
  have u3 := HN.out.cell 3 rfl
  have u4 := HN.out.cell 4 rfl
  have u5 := HN.out.cell 5 rfl
  obtain ⟨a, cap, rfl, hcap, hcs⟩ := h
  obtain ⟨b, o, rfl, hb, hat⟩ : ∃ b o, a = some ⟨b, o, none⟩ ∧ b < w.heap.size ∧ At cdV w b o l := by
    rcases hcs with h | h
    · rw [h] at hp; simp at hp
    · exact h
  have HAt := hideP (hat.fr hb HF0.out)
  have HAt0 := hideP hat
  have HR := hideP hR
  have HOp := hideP hop
  have q1 : (op == 1) = false := by simp; omega
  have q2 : (op == 2) = false := by simp; omega
  clear hcs hat hR hop
  obtain ⟨i0, hi0, hz0, hz1, hz2⟩ := info_parts Tryz.infoElem
  have HTr := hideP htr
  have HTv := hideP hTv
  have TV := hideP (fun W => truthValue_any T hT W)
  obtain ⟨tk, tn, tx, hvt⟩ : ∃ tk tn tx, EV.vt T = ⟨tk, tn, tx⟩ := ⟨_, _, _, rfl⟩
  rw [hvt] at TV HR
  simp only [vlV] at TV
  clear htr hTv hvt hT
  go_enter Tryz.func60, Tryz.ntmps60
  go_wp2_with fail
  clear q1 q2
  go_loop [11, 12, 13, 14, 15] (fun x0 x1 x2 x3 x4 => ∃ i c0 c1 c2 c3 : Nat, x4 = .int .i64 i ∧ x0 = .int .i64 c0 ∧ x1 = .int .i64 c1 ∧ x2 = .int .i64 c2 ∧ x3 = .int .i64 c3 ∧ i ≤ l.length ∧ c0 + c1 + c2 + c3 = i ∧ (l.take i).countP EV.kN = c0 ∧ (l.take i).countP EV.kT = c1 ∧ (l.take i).countP EV.kI = c2 ∧ (l.take i).countP EV.kB = c3) (fun _ _ _ _ x4 => l.length - (intOf x4).toNat)
  case atStart => exact ⟨0, 0, 0, 0, 0, rfl, rfl, rfl, rfl, rfl, Nat.zero_le _, rfl, rfl, rfl, rfl, rfl⟩
  case round =>
    obtain ⟨i, c0, c1, c2, c3, rfl, rfl, rfl, rfl, rfl, hi, hs, e0, e1, e2, e3⟩ := hrel
    by_cases hlt : i < l.length
    · have hlt' : (i : Int) < (l.length : Int) := by omega
      have d0 := (HAt.out.v3 i hlt).1
      have t0 := EV.countP_take EV.kN hlt
      have t1 := EV.countP_take EV.kT hlt
      have t2 := EV.countP_take EV.kI hlt
      have t3 := EV.countP_take EV.kB hlt
      rw [e0] at t0
      rw [e1] at t1
      rw [e2] at t2
      rw [e3] at t3
      generalize l[i] = x at *
      obtain ⟨k, xn, xs⟩ := x
      simp only [EV.kN, EV.kT, EV.kI, EV.kB] at d0 t0 t1 t2 t3
      rcases (show k = 0 ∨ k = 1 ∨ k = 2 ∨ (k ≠ 0 ∧ k ≠ 1 ∧ k ≠ 2) by omega) with rfl | rfl | rfl | ⟨k0, k1, k2⟩
      · have HT := hideP (show _ ∧ _ ∧ _ ∧ _ from ⟨t0, t1, t2, t3⟩)
        clear t0 t1 t2 t3 e0 e1 e2 e3
        go_wp2_with fail
        go_round
        case rel => exact ⟨i + 1, c0 + 1, c1, c2, c3, by go_num, by go_num, rfl, rfl, rfl, by omega, by omega, by rw [HT.out.1]; simp, by rw [HT.out.2.1]; simp, by rw [HT.out.2.2.1]; simp, by rw [HT.out.2.2.2]; simp⟩
        case measure => simp [intOf]; omega
      · have HT := hideP (show _ ∧ _ ∧ _ ∧ _ from ⟨t0, t1, t2, t3⟩)
        clear t0 t1 t2 t3 e0 e1 e2 e3
        go_wp2_with fail
        go_round
        case rel => exact ⟨i + 1, c0, c1, c2 + 1, c3, by go_num, rfl, rfl, by go_num, rfl, by omega, by omega, by rw [HT.out.1]; simp, by rw [HT.out.2.1]; simp, by rw [HT.out.2.2.1]; simp, by rw [HT.out.2.2.2]; simp⟩
        case measure => simp [intOf]; omega
      · have HT := hideP (show _ ∧ _ ∧ _ ∧ _ from ⟨t0, t1, t2, t3⟩)
        clear t0 t1 t2 t3 e0 e1 e2 e3
        go_wp2_with fail
        go_round
        case rel => exact ⟨i + 1, c0, c1 + 1, c2, c3, by go_num, rfl, by go_num, rfl, rfl, by omega, by omega, by rw [HT.out.1]; simp, by rw [HT.out.2.1]; simp, by rw [HT.out.2.2.1]; simp, by rw [HT.out.2.2.2]; simp⟩
        case measure => simp [intOf]; omega
      · have HT := hideP (show _ ∧ _ ∧ _ ∧ _ from ⟨t0, t1, t2, t3⟩)
        have HK := hideP (show k ≠ 0 ∧ k ≠ 1 ∧ k ≠ 2 from ⟨k0, k1, k2⟩)
        have z0 : (k == 0) = false := by simpa using k0
        have z1 : (k == 1) = false := by simpa using k1
        have z2 : (k == 2) = false := by simpa using k2
        clear t0 t1 t2 t3 e0 e1 e2 e3 k0 k1 k2
        go_wp2_with fail
        go_round
        case rel => exact ⟨i + 1, c0, c1, c2, c3 + 1, by go_num, rfl, rfl, rfl, by go_num, by omega, by omega, by rw [HT.out.1]; simp [HK.out], by rw [HT.out.2.1]; simp [HK.out], by rw [HT.out.2.2.1]; simp [HK.out], by rw [HT.out.2.2.2]; simp [HK.out]⟩
        case measure => simp [intOf]; omega
    · obtain rfl : i = l.length := by omega
      rw [List.take_length] at e0 e1 e2 e3
      have hlt' : ((l.length : Int) < (l.length : Int)) = False := by simp
      rw [e1, e3] at HR HTr
      have hop := HOp.out
      clear e0 e1 e2 e3 HOp
      have HWr := hideP (show wrap64 ((c1 : Int) + (c3 : Int)) = (c1 : Int) + (c3 : Int) from WH.wrap_ok ⟨by omega, by omega⟩)
      by_cases hA : 0 < c1 + c3
      · replace HR := hideP (HR.out.trans (if_pos hA))
        obtain rfl := hop
        all_goals (
          go_upto_region 40 with fail
          have hA' : (0 : Int) < wrap64 ((c1 : Int) + (c3 : Int)) := by rw [HWr.out]; exact pos_add hA
          go_upto_region 41 with fail
          clear hA' hA
          have v0 := HB1.out.cell 0 rfl
          have v1 := HB1.out.cell 1 rfl
          have v2 := HB1.out.cell 2 rfl
          have y0 := HB1.out.frozen 0
          have y1 := HB1.out.frozen 1
          have y2 := HB1.out.frozen 2
          go_wp2_with fail
          refine bodyPost_ret (v := .tuple #[.agg #[.int .i64 0, .int .i64 0, .string ⟨#[]⟩], .int .i64 7]) ?_ rfl ⟨by rw [HR.out]; rfl, HF0.out.put3 (w.heap.size + 1) (by first | exact Nat.le_refl _ | exact Nat.le_succ _) _ _ _⟩
          obtain ⟨r0, r1, r2⟩ : (put3 W0 (w.heap.size + 1) (.int .i64 0) (.int .i64 0) (.string ⟨#[]⟩)).cell? ⟨w.heap.size + 1, 0, none⟩ = _ ∧ (put3 W0 (w.heap.size + 1) (.int .i64 0) (.int .i64 0) (.string ⟨#[]⟩)).cell? ⟨w.heap.size + 1, 1, none⟩ = _ ∧ (put3 W0 (w.heap.size + 1) (.int .i64 0) (.int .i64 0) (.string ⟨#[]⟩)).cell? ⟨w.heap.size + 1, 2, none⟩ = _ := ⟨(HB1.out.put3 _ _ _).cell 0 rfl, (HB1.out.put3 _ _ _).cell 1 rfl, (HB1.out.put3 _ _ _).cell 2 rfl⟩
          change (results Tryz.f60 _).run Tryz.prog (put3 W0 _ _ _ _) = .ok _ (put3 W0 _ _ _ _)
          simp [results, Tryz.results60, go_sem, r0, r1, r2])
      · replace HR := hideP (HR.out.trans (if_neg hA))
        replace HTr := hideP (HTr.out hA)
        obtain rfl := hop
        go_upto_region 40 with fail
        have hA' : ¬ (0 : Int) < wrap64 ((c1 : Int) + (c3 : Int)) := by rw [HWr.out]; exact npos_add hA
        go_upto_region 42 with fail
        clear hA' hA
        go_wp2_with fail
        go_loopw [19, 20, 21, 22] (fun lv iv _ _ wr => ∃ i : Nat, iv = .int .i64 i ∧ i ≤ l.length ∧ wr.ownsRow W0.heap.size 3 1 lv i (flat cdZ ((l.map EV.tz).take i)) ∧ Fr W0 wr) (fun _ iv _ _ _ => l.length - (intOf iv).toNat)
        case atStart => exact ⟨0, rfl, Nat.zero_le _, World.ownsRow_nil _ _ _ _, Fr.refl _⟩
        case round =>
          obtain ⟨i, rfl, hi, hown, hfr⟩ := hrel
          obtain ⟨fa, fc, rfl⟩ := own_slice hown
          have HO := hideP hown
          have HF := hideP hfr
          clear hown hfr
          by_cases hlt : i < l.length
          · have hlt' : (i : Int) < (l.length : Int) := by omega
            obtain ⟨d0, d1, d2⟩ := (HAt.out.fr (Nat.lt_of_lt_of_le hb hle0) HF.out).v3 i hlt
            have hst : (l.map EV.tz).take (i + 1) = (l.map EV.tz).take i ++ [EV.tz l[i]] := by
              rw [List.take_succ_eq_append_getElem (by simpa using hlt), List.getElem_map]
            obtain ⟨x3, x4⟩ := HTr.out l[i] (List.getElem_mem hlt)
            have ci := fun W => rtruthOf_any l[i] x3 W
            rw [x4] at ci
            obtain ⟨t, ht⟩ : ∃ t, EV.tz l[i] = t := ⟨_, rfl⟩
            obtain ⟨x, hx⟩ : ∃ x, l[i] = x := ⟨_, rfl⟩
            rw [ht] at ci hst
            rw [hx] at ci d0 d1 d2
            obtain ⟨k0, k1, k2⟩ := x
            simp only [exT, vlV] at ci d0 d1 d2
            have HSt := hideP hst
            clear hst x4 x3 ht hx u0 u1 u2 u3 u4 u5
            go_wp2_with fail
            refine (ci _).mono ?_
            rintro _ w2 ⟨rfl, f2⟩
            have FW2 := hideP (HF.out.trans f2)
            have HLit := hideP (lit_one cdZ w2 t 3)
            have HO2 := hideP (own_fr HO.out (f2.alloc (.cells #[.int .i64 t] 3)))
            have hsz : W0.heap.size ≤ w2.heap.size := FW2.out.size
            clear f2 ci
            go_wp2_with (at_builtin; refine wpList_append_L cdZ rfl _ _ 64 3 i0 _ 8 rfl Tryz.underlying64 hi0 hz0 hz1 hz2 rfl W0.heap.size _ i _ rfl HO2.out (.slice (some ⟨w2.heap.size, 0, none⟩) 1 1) [t] rfl HLit.out ?c3 ?c4 ?c5 ?_)
            case c3 => unfold maxLen; simp <;> omega
            case c4 => simp <;> omega
            case c5 => simp <;> omega
            intro v2 wB own2 gr2
            have HN2 := hideP own2
            have FB := hideP (show Fr W0 wB from Below.grown (FW2.out.alloc _) gr2 (by simp <;> omega) (own_base HO2.out))
            clear own2 gr2
            go_wp2_with fail
            go_roundw
            case rel => exact ⟨i + 1, by go_num, by omega, by rw [HSt.out]; exact HN2.out, FB.out⟩
            case measure => simp [intOf]; omega
          · obtain rfl : i = l.length := by omega
            have hlt' : ((l.length : Int) < (l.length : Int)) = False := by simp
            have hml : (l.map EV.tz).length = l.length := by simp
            have hIs : IsL cdZ wr (.slice fa l.length fc) (l.map EV.tz) := by
              have h := HO.out
              rw [List.take_of_length_le (Nat.le_of_eq hml), ← hml] at h
              have := isL_own h
              rw [hml] at this
              exact this
            have u0 := (HN.out.fr HF.out).cell 0 rfl
            have HF1 := hideP (HF0.out.trans HF.out)
            have HB2 := hideP (HB1.out.fr HF.out)
            obtain ⟨ts, hts⟩ : ∃ ts, l.map EV.tz = ts := ⟨_, rfl⟩
            rw [hts] at hml hIs HTv
            clear hts
            have hii := isInts_of hIs
            have ca := truthAny_any _ ts wr hii (by rw [hml]; omega)
            have HX := hideP (show T = LG.any ts by rw [HTv.out]; first | rw [if_neg (by decide), if_neg (by decide)] | simp)
            rw [← HX.out] at ca
            clear hIs hii HTv HX HTr
            go_wp2_with fail
            refine ca.mono ?_
            rintro _ w2 ⟨rfl, rfl⟩
            go_wp2_with fail
            refine (TV.out _).mono ?_
            rintro _ w3 ⟨rfl, f3⟩
            have HB3 := hideP (HB2.out.fr f3)
            have HF3 := hideP (HF1.out.trans f3)
            clear f3
            have v0 := HB3.out.cell 0 rfl
            have v1 := HB3.out.cell 1 rfl
            have v2 := HB3.out.cell 2 rfl
            have y0 := HB3.out.frozen 0
            have y1 := HB3.out.frozen 1
            have y2 := HB3.out.frozen 2
            go_wp2_with fail
            refine bodyPost_ret (v := .tuple #[.agg #[.int .i64 tk, .int .i64 tn, .string tx], .int .i64 0]) ?_ rfl ⟨by rw [HR.out]; rfl, HF3.out.put3 (w.heap.size + 1) (by first | exact Nat.le_refl _ | exact Nat.le_succ _) _ _ _⟩
            obtain ⟨r0, r1, r2⟩ : (put3 w3 (w.heap.size + 1) (.int .i64 tk) (.int .i64 tn) (.string tx)).cell? ⟨w.heap.size + 1, 0, none⟩ = _ ∧ (put3 w3 (w.heap.size + 1) (.int .i64 tk) (.int .i64 tn) (.string tx)).cell? ⟨w.heap.size + 1, 1, none⟩ = _ ∧ (put3 w3 (w.heap.size + 1) (.int .i64 tk) (.int .i64 tn) (.string tx)).cell? ⟨w.heap.size + 1, 2, none⟩ = _ := ⟨(HB3.out.put3 _ _ _).cell 0 rfl, (HB3.out.put3 _ _ _).cell 1 rfl, (HB3.out.put3 _ _ _).cell 2 rfl⟩
            change (results Tryz.f60 _).run Tryz.prog (put3 w3 _ _ _ _) = .ok _ (put3 w3 _ _ _ _)
            simp [results, Tryz.results60, go_sem, r0, r1, r2]
end Go.Proofs.YtjljohmflhmkmaaGreatDoor
