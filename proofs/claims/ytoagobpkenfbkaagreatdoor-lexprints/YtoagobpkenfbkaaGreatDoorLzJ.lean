/-
  The document's own PrintedOf.
-/
import Derived.Test.YtoagobpkenfbkaaGreatDoorLzI
namespace Go.Proofs.YtoagobpkenfbkaaGreatDoor
open Go.ChangeShapes Go.WideShapes Go.ChangeAt Go.RowKit Go.Shelf
set_option linter.unusedVariables false
set_option linter.unusedSimpArgs false
set_option maxRecDepth 100000

theorem pt_snoc : ∀ (l : List LX.Tk) (t : LX.Tk), l ≠ [] → LX.pt (l ++ [t]) = LX.pt l ++ 32 :: LX.shw t
  | [], _, h => absurd rfl h
  | [a], t, _ => by simp [LX.pt]
  | a :: b :: l, t, _ => by
    have ih := pt_snoc (b :: l) t (by simp)
    simp only [List.cons_append] at ih ⊢
    simp only [LX.pt]
    rw [ih]
    simp
theorem chk_ok {k n : Int} {l : List UInt8} (h : LX.chk ⟨k, n, l⟩ = 0) : k = 1 ∨ k = 5 ∨ (k = 2 ∧ l = []) ∨ (k = 3 ∧ n = 0 ∧ l.length ≤ 16) ∨ (k = 4 ∧ n = 0 ∧ l.length ≤ 16) := by
  unfold LX.chk at h
  simp only at h
  split at h
  · cases h
  split at h
  · cases h
  rename_i h1 h2
  by_cases k1 : k = 1
  · exact Or.inl k1
  by_cases k5 : k = 5
  · exact Or.inr (Or.inl k5)
  rw [if_neg k1] at h
  by_cases k2 : k = 2
  · refine Or.inr (Or.inr (Or.inl ⟨k2, ?_⟩))
    refine Classical.byContradiction fun q => h2 (Or.inr ⟨q, k2⟩)
  rw [if_neg k2, if_neg k5] at h
  have hn : n = 0 := Classical.byContradiction fun q => h2 (Or.inl ⟨q, k2⟩)
  have hl : l.length ≤ 16 := by
    split at h
    · cases h
    · omega
  by_cases k3 : k = 3
  · exact Or.inr (Or.inr (Or.inr (Or.inl ⟨k3, hn, hl⟩)))
  · exact Or.inr (Or.inr (Or.inr (Or.inr ⟨by omega, hn, hl⟩)))
/-- what is told of a number, a text, a blob -/
theorem shownOf_tk (k j n : Int) (X : ByteArray) (hk : (k = 2 ∧ j = 1 ∧ X.data.toList = []) ∨ (k = 3 ∧ j = 2 ∧ n = 0 ∧ X.data.toList.length ≤ 16) ∨ (k = 4 ∧ j = 3 ∧ n = 0 ∧ X.data.toList.length ≤ 16)) (h0 : -9223372036854775808 ≤ n) (h1 : n ≤ 9223372036854775807) (w : World) :
    Calls Tryz.prog 24 #[.agg #[.int .i64 j, .int .i64 n, .string X]] w fun e w' => e = .returned (.string ⟨(LX.shw ⟨k, n, X.data.toList⟩).toArray⟩) ∧ Fr w w' := by
  have hlen := ba_len X
  rcases hk with ⟨rfl, rfl, h⟩ | ⟨rfl, rfl, rfl, h⟩ | ⟨rfl, rfl, rfl, h⟩
  · rw [show LX.shw ⟨2, n, X.data.toList⟩ = Lib.itoa n from rfl]
    exact shownOf_int X n w h0 h1
  · rw [show LX.shw ⟨3, 0, X.data.toList⟩ = 39 :: X.data.toList.flatMap VS.dbl ++ [39] from rfl]
    exact shownOf_text X 0 w (by omega)
  · rw [show LX.shw ⟨4, 0, X.data.toList⟩ = 120 :: 39 :: X.data.toList.flatMap VS.hx ++ [39] from rfl]
    exact shownOf_blob X 0 w (by omega)

set_option maxHeartbeats 8000000 in
theorem printedOf_any (v : Value) (l : List (Int × LX.Tk)) (w : World) (hv : IsTk w v l) (hl : l.length ≤ 9223372036854775806) (hb : ∀ p ∈ l, (-9223372036854775808 ≤ p.2.n ∧ p.2.n ≤ 9223372036854775807) ∧ p.2.s.length ≤ 9223372036854775807) :
    Calls Tryz.prog 14 #[v] w fun e w' => e = .returned (prV (l.map (·.2))) ∧ Fr w w' := by
  obtain ⟨a, cap, rfl, hcs⟩ := hv
  have HB : Hid _ := hb
  have HC : Hid _ := hcs
  clear hb hcs
  by_cases h120 : 120 < l.length
  · have HX : Hid _ := prV_bad (ts := l.map (·.2)) (c := 2) (if_pos (by simpa using h120)) (by decide)
    generalize prV _ = V at *
    have h1 : (120 : Int) < (l.length : Int) := by omega
    go_enter Tryz.func14, Tryz.ntmps14
    go_wp2_with fail
    go_ret2
    exact ⟨by rw [HX.out]; rfl, Fr.refl _⟩
  · obtain ⟨ts, hts⟩ : ∃ ts, l.map (·.2) = ts := ⟨_, rfl⟩
    have htl : ts.length = l.length := by rw [← hts]; simp
    have hget : ∀ i (h : i < l.length) (h2 : i < ts.length), ts[i] = l[i].2 := fun i h h2 => by subst hts; simp
    have hE : prE ts = if fe ts ≠ 0 then fe ts else if 300 < (LX.pt ts).length then 2 else 0 := if_neg (by omega)
    have hN : ∀ t ∈ ts, -9223372036854775808 ≤ t.n ∧ t.n ≤ 9223372036854775807 := fun t ht => by
      rw [← hts] at ht
      obtain ⟨p, hp, rfl⟩ := List.mem_map.1 ht
      exact (HB.out p hp).1
    rw [hts]
    have HE : Hid _ := hE
    have HN : Hid _ := hN
    have HG : Hid _ := hget
    have HTL : Hid _ := htl
    have h1 : (l.length : Int) ≤ 120 := by omega
    have h2 : (120 < (l.length : Int)) = False := by simp; omega
    clear hE hN hget htl hts
    go_enter Tryz.func14, Tryz.ntmps14
    go_wp2_with fail
    go_loopw [4, 5] (fun ov iv wr => ∃ (i : Nat) (O : ByteArray), iv = .int .i64 i ∧ ov = .string O ∧ i ≤ l.length ∧ fe ts = fe (ts.drop i) ∧ (∀ t ∈ ts.take i, LX.chk t = 0) ∧ O.data.toList = LX.pt (ts.take i) ∧ Fr w wr) (fun _ iv _ => l.length - (intOf iv).toNat)
    case atStart => exact ⟨0, ⟨#[]⟩, rfl, rfl, Nat.zero_le _, by simp, (fun t ht => by simp at ht), rfl, Fr.refl _⟩
    case round =>
      obtain ⟨i, O, rfl, rfl, hi, hfe, hall, hO, hfr⟩ := hrel
      have htl := HTL.out
      have hOs : O.size ≤ 12120 := by
        rw [← ba_len O, hO]
        have := pt_len (ts.take i) (fun t ht => shw_len (HN.out t (List.mem_of_mem_take ht)) (hall t ht))
        rw [List.length_take] at this
        omega
      by_cases hlt : i < l.length
      · obtain ⟨b, o, rfl, hb, hc⟩ : ∃ b o, a = some ⟨b, o, none⟩ ∧ b < w.heap.size ∧ TokAt w b o l := by
          rcases HC.out with h | h
          · subst h; simp at hlt
          · exact h
        have hcr := hc.fr hb hfr
        have hbr : b < wr.heap.size := Nat.lt_of_lt_of_le hb hfr.size
        obtain ⟨c0, c1, c2, c3⟩ := hcr i hlt
        have hg := HG.out i hlt (by omega)
        have hbd := HB.out l[i] (List.getElem_mem hlt)
        have hst := @fe_step ts i (by omega)
        have hsp := @fe_stop ts i (by omega)
        have htk : ts.take (i + 1) = ts.take i ++ [ts[i]] := List.take_succ_eq_append_getElem (by omega)
        have hnm := HN.out ts[i] (List.getElem_mem _)
        have hzero : i = 0 → ts.take i = [] := fun h => by rw [h]; rfl
        have hpos : i ≠ 0 → ts.take i ≠ [] := fun h q => by
          have := congrArg List.length q
          rw [List.length_take, List.length_nil] at this
          omega
        rw [hg] at hst hsp htk hnm
        have hcw : ∀ W, Fr wr W → W.cell? ⟨b, o + i * 4, none⟩ = some (.int .i64 l[i].2.k) ∧ W.cell? ⟨b, o + i * 4 + 2, none⟩ = some (.int .i64 l[i].2.n) ∧ W.cell? ⟨b, o + i * 4 + 3, none⟩ = some (.string ⟨l[i].2.s.toArray⟩) := fun W f => ⟨s1_after f c0, s1_after f c2, s1_after f c3⟩
        generalize l[i] = x at *
        obtain ⟨xp, xk, xn, xs⟩ := x
        simp only at c0 c1 c2 c3 hbd hst hsp htk hnm hcw
        have hlt' : (i : Int) < (l.length : Int) := by omega
        obtain ⟨X, hX⟩ : ∃ X : ByteArray, (⟨xs.toArray⟩ : ByteArray) = X := ⟨_, rfl⟩
        have hXl : X.data.toList = xs := by rw [← hX]
        rw [hX] at c3 hcw
        clear hX
        subst hXl
        have hXs : X.size ≤ 9223372036854775807 := by rw [← ba_len X]; exact hbd.2
        have cs := fun W => tokCheck_any xk (xp : Int) xn X W hXs hbd.1.1 hbd.1.2
        by_cases hck : LX.chk ⟨xk, xn, X.data.toList⟩ = 0
        · have hlen := shw_len hnm hck
          rw [hck] at cs
          have HFE : Hid _ := hfe.trans (hst hck)
          have HAL : Hid (∀ t ∈ ts.take (i + 1), LX.chk t = 0) := fun t ht => by
            rw [htk, List.mem_append, List.mem_singleton] at ht
            rcases ht with ht | rfl
            · exact hall t ht
            · exact hck
          obtain ⟨R, hR⟩ : ∃ R : ByteArray, (⟨(LX.shw ⟨xk, xn, X.data.toList⟩).toArray⟩ : ByteArray) = R := ⟨_, rfl⟩
          have hRl : R.data.toList = LX.shw ⟨xk, xn, X.data.toList⟩ := by rw [← hR]
          have hRs : R.size ≤ 100 := by rw [← ba_len R, hRl]; exact hlen
          have hk := chk_ok hck
          have HFR : Hid _ := hfr
          obtain ⟨P, hP⟩ : ∃ P : ByteArray, O ++ ⟨#[32]⟩ = P := ⟨_, rfl⟩
          have hPs : P.size = O.size + 1 := by rw [← hP, ByteArray.size_append]; rfl
          have H0 : Hid (i = 0 → (O ++ R).data.toList = LX.pt (ts.take (i + 1))) := fun h => by
            rw [dataApp, hO, htk, hzero h, hRl]
            rfl
          have H1 : Hid (i ≠ 0 → (P ++ R).data.toList = LX.pt (ts.take (i + 1))) := fun h => by
            rw [← hP, dataApp, dataApp, hO, htk, pt_snoc _ _ (hpos h), hRl]
            simp
          have n1 : (9223372036854775807 < O.size + R.size) = False := by simp; omega
          have n2 : (9223372036854775807 < P.size + R.size) = False := by simp; omega
          have hR2 : R.size + 12121 ≤ 9223372036854775807 := by omega
          have hP2 : P.size + R.size ≤ 9223372036854775807 := by omega
          have HPS : Hid _ := hPs
          have HI1 : Hid (i + 1 ≤ l.length) := by unfold Hid; omega
          have HME : Hid (l.length - (i + 1) < l.length - i) := by unfold Hid; omega
          clear hst hsp htk hfe hc hg hbd hcr hO hzero hpos hall hfr htl hck hlen hPs
          rcases hk with rfl | rfl | hk
          · obtain rfl : X = R := by rw [← hR]; cases X; rfl
            clear hR hRl
            go_wp2_with fail
            refine (cs _).mono ?_
            rintro _ w1 ⟨rfl, f1⟩
            obtain ⟨q0, q2, q3⟩ := hcw w1 f1
            have F1 : Hid (Fr w w1) := Fr.trans HFR.out f1
            clear f1 c0 c1 c2 c3 cs hcw
            by_cases hi0 : i = 0
            · have HZ : Hid _ := H0.out hi0
              have hip : (0 < (i : Int)) = False := by simp; omega
              have hip2 : (0 < i) = False := by simp; omega
              clear H0 H1 hP hi0
              go_wp2_with fail
              go_roundw
              case rel => exact ⟨i + 1, _, by go_num, rfl, HI1.out, HFE.out, HAL.out, HZ.out, F1.out⟩
              case measure => (have hme := HME.out; simp [intOf]; omega)
            · have HZ : Hid _ := H1.out hi0
              have hip : (0 : Int) < (i : Int) := by omega
              have hip2 : 0 < i := by omega
              clear H0 H1 hi0
              go_wp2_with fail
              go_roundw
              case rel => exact ⟨i + 1, _, by go_num, rfl, HI1.out, HFE.out, HAL.out, (by first | exact HZ.out | (rw [hP]; exact HZ.out)), F1.out⟩
              case measure => (have hme := HME.out; simp [intOf]; omega)
          · obtain rfl : X = R := by rw [← hR]; cases X; rfl
            clear hR hRl
            go_wp2_with fail
            refine (cs _).mono ?_
            rintro _ w1 ⟨rfl, f1⟩
            obtain ⟨q0, q2, q3⟩ := hcw w1 f1
            have F1 : Hid (Fr w w1) := Fr.trans HFR.out f1
            clear f1 c0 c1 c2 c3 cs hcw
            by_cases hi0 : i = 0
            · have HZ : Hid _ := H0.out hi0
              have hip : (0 < (i : Int)) = False := by simp; omega
              have hip2 : (0 < i) = False := by simp; omega
              clear H0 H1 hP hi0
              go_wp2_with fail
              go_roundw
              case rel => exact ⟨i + 1, _, by go_num, rfl, HI1.out, HFE.out, HAL.out, HZ.out, F1.out⟩
              case measure => (have hme := HME.out; simp [intOf]; omega)
            · have HZ : Hid _ := H1.out hi0
              have hip : (0 : Int) < (i : Int) := by omega
              have hip2 : 0 < i := by omega
              clear H0 H1 hi0
              go_wp2_with fail
              go_roundw
              case rel => exact ⟨i + 1, _, by go_num, rfl, HI1.out, HFE.out, HAL.out, (by first | exact HZ.out | (rw [hP]; exact HZ.out)), F1.out⟩
              case measure => (have hme := HME.out; simp [intOf]; omega)
          · have cS : ∃ j : Int, IntKind.i64.wrap (xk - 1) = j ∧ (xk = 2 ∧ j = 1 ∨ xk = 3 ∧ j = 2 ∨ xk = 4 ∧ j = 3) ∧ ∀ W, Calls Tryz.prog 24 #[.agg #[.int .i64 j, .int .i64 xn, .string X]] W fun e w' => e = .returned (.string R) ∧ Fr W w' := by
              rw [← hR]
              rcases hk with ⟨rfl, h⟩ | ⟨rfl, rfl, h⟩ | ⟨rfl, rfl, h⟩
              · exact ⟨1, rfl, by decide, fun W => shownOf_tk 2 1 xn X (Or.inl ⟨rfl, rfl, h⟩) hnm.1 hnm.2 W⟩
              · exact ⟨2, rfl, by decide, fun W => shownOf_tk 3 2 0 X (Or.inr (Or.inl ⟨rfl, rfl, rfl, h⟩)) (by decide) (by decide) W⟩
              · exact ⟨3, rfl, by decide, fun W => shownOf_tk 4 3 0 X (Or.inr (Or.inr ⟨rfl, rfl, rfl, h⟩)) (by decide) (by decide) W⟩
            obtain ⟨j, hj, hkj, cS⟩ := cS
            have k1 : ¬ xk = 1 := by omega
            have k5 : ¬ xk = 5 := by omega
            have k1b : (xk == 1) = false := beq_false_of_ne k1
            have k5b : (xk == 5) = false := beq_false_of_ne k5
            have HJ : Hid _ := hkj
            have hj1 : xk - 1 = j := by omega
            have hwj : IntKind.i64.wrap j = j := by rcases hkj with ⟨_, rfl⟩ | ⟨_, rfl⟩ | ⟨_, rfl⟩ <;> rfl
            have cS2 : ∀ W, Calls Tryz.prog 24 #[.agg #[.int .i64 (IntKind.i64.wrap j), .int .i64 xn, .string X]] W fun e w' => e = .returned (.string R) ∧ Fr W w' := fun W => by rw [hwj]; exact cS W
            clear hk hR hRl hnm hkj hj hwj cS
            go_wp2_with fail
            refine (cs _).mono ?_
            rintro _ w1 ⟨rfl, f1⟩
            obtain ⟨q0, q2, q3⟩ := hcw w1 f1
            have F1 : Hid (Fr w w1) := Fr.trans HFR.out f1
            clear f1 c0 c1 c2 c3 cs hcw
            by_cases hi0 : i = 0
            · have HZ : Hid _ := H0.out hi0
              have hip : (0 < (i : Int)) = False := by simp; omega
              have hip2 : (0 < i) = False := by simp; omega
              clear H0 H1 hP hi0
              go_wp2_with fail
              first
                | go_region_with (go_at_call 24; refine (cS2 _).mono ?_; rintro _ w2 ⟨rfl, f2⟩; have HF2 : Hid (Fr w w2) := by first | exact Fr.trans F1.out f2 | exact Fr.trans (Fr.drew F1.out) f2)
                | fail
              all_goals
                go_wp2_with fail
                go_roundw
                case rel => exact ⟨i + 1, _, by go_num, rfl, HI1.out, HFE.out, HAL.out, HZ.out, by first | exact HF2.out | exact Fr.drew HF2.out⟩
                case measure => (have hme := HME.out; simp [intOf]; omega)
            · have HZ : Hid _ := H1.out hi0
              have hip : (0 : Int) < (i : Int) := by omega
              have hip2 : 0 < i := by omega
              clear H0 H1 hi0
              go_wp2_with fail
              first
                | go_region_with (go_at_call 24; refine (cS2 _).mono ?_; rintro _ w2 ⟨rfl, f2⟩; have HF2 : Hid (Fr w w2) := by first | exact Fr.trans F1.out f2 | exact Fr.trans (Fr.drew F1.out) f2)
                | fail
              all_goals
                go_wp2_with fail
                go_roundw
                case rel => exact ⟨i + 1, _, by go_num, rfl, HI1.out, HFE.out, HAL.out, (by first | exact HZ.out | (rw [hP]; exact HZ.out)), by first | exact HF2.out | exact Fr.drew HF2.out⟩
                case measure => (have hme := HME.out; simp [intOf]; omega)
        · have hfe2 := hfe.trans (hsp hck)
          have HX : Hid _ := prV_bad (ts := ts) (c := LX.chk ⟨xk, xn, X.data.toList⟩) (by rw [HE.out, hfe2, if_pos hck]) hck
          have HFR : Hid _ := hfr
          generalize LX.chk ⟨xk, xn, X.data.toList⟩ = c at *
          have e1 : ((c : Int) != 0) = true := by simp; omega
          have e2 : ¬ ((c : Int) = 0) := by omega
          clear hck hst hsp htk hfe hfe2 hc hg hbd hnm hfr htl hcr hall hO hcw hzero hpos
          go_wp2_with fail
          refine (cs _).mono ?_
          rintro _ w3 ⟨rfl, f3⟩
          have HF3 : Hid (Fr w w3) := Fr.trans HFR.out f3
          clear cs f3
          go_wp2_with fail
          go_ret2
          exact ⟨by rw [HX.out]; rfl, HF3.out⟩
      · obtain rfl : i = l.length := by omega
        have hd : ts.drop l.length = [] := List.drop_of_length_le (by omega)
        have htk : ts.take l.length = ts := List.take_of_length_le (by omega)
        rw [hd] at hfe
        rw [htk] at hO
        have hE2 := HE.out
        rw [hfe] at hE2
        rw [if_neg (by simp [fe]), ← hO, ba_len] at hE2
        have HFR : Hid _ := hfr
        by_cases h300 : 300 < O.size
        · rw [if_pos h300] at hE2
          have HX : Hid _ := prV_bad hE2 (by decide)
          have e1 : (300 : Int) < (O.size : Int) := by omega
          clear hd htk hfe hall hE2 hfr h300 htl hO
          go_wp2_with fail
          go_ret2
          exact ⟨by rw [HX.out]; rfl, HFR.out⟩
        · rw [if_neg h300] at hE2
          have HX : Hid (prV ts = .tuple #[.string O, .int .i64 0]) := by
            unfold Hid
            rw [prV_ok hE2, ← hO, ba_eta]
          have e1 : (O.size : Int) ≤ 300 := by omega
          have e2 : (300 < (O.size : Int)) = False := by simp; omega
          clear hd htk hfe hall hE2 hfr h300 htl hO
          go_wp2_with fail
          go_ret2
          exact ⟨by rw [HX.out]; rfl, HFR.out⟩
end Go.Proofs.YtoagobpkenfbkaaGreatDoor
