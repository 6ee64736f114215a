/-
  Proved: for all patterns and all texts, what a pattern stands for, it stands for with a % more; % stands for all; two of them are one. (LikeMore; the two tables of Go's decoder are as its text lays them.)
-/
import Derived.Test.YtgjgmaadogkjfaaDoorTabs
import Derived.Test.YtgjgmaadogkjfaaDoorRefPcs
import Derived.Test.YtgjgmaadogkjfaaDoorLkCat
namespace Go.Proofs.YtgjgmaadogkjfaaDoor
namespace likeMoreProof
open Go.ChangeShapes Go.WideShapes Go.ChangeAt Go.RowKit
open Go.ChangeMaps (open_string shut_string)
set_option linter.unusedVariables false

theorem ascii2 (S : ByteArray) (r : Bool) (w : World) (hb : S.size ≤ 140737488351232) (h : asc S = r) : Calls Tryd.prog 21 #[.string S] w fun e w' => e = .returned (.bool r) ∧ w = w' := by
  rw [← h]
  exact (ascii_any S w (by omega)).mono fun e w' h => ⟨h.1, h.2.symm⟩

set_option maxRecDepth 100000 in
set_option maxHeartbeats 2000000 in
theorem main (p q s pq psq pssq : ByteArray) (a b : Bool) (W : World) (hT : Tb W) (hp : p.size ≤ 15) (hq : q.size ≤ 15) (hs : s.size ≤ 16) (hap : asc p = true) (haq : asc q = true) (hpe : perr p = 0) (hqe : perr q = 0)
    (e1 : pq = p ++ q) (e2 : psq = (p ++ ⟨#[37]⟩) ++ q) (e3 : pssq = (p ++ ⟨#[37, 37]⟩) ++ q)
    (m1 : ∀ W1, Tb W1 → Calls Tryd.prog 10 #[.string pq, .string s] W1 fun r W' => r = .returned (.tuple #[.bool a, .int .i64 0]) ∧ Fr W1 W')
    (m2 : ∀ W1, Tb W1 → Calls Tryd.prog 10 #[.string psq, .string s] W1 fun r W' => r = .returned (.tuple #[.bool b, .int .i64 0]) ∧ Fr W1 W')
    (m3 : ∀ W1, Tb W1 → Calls Tryd.prog 10 #[.string pssq, .string s] W1 fun r W' => r = .returned (.tuple #[.bool b, .int .i64 0]) ∧ Fr W1 W')
    (m4 : ∀ W1, Tb W1 → Calls Tryd.prog 10 #[.string ⟨#[37]⟩, .string s] W1 fun r W' => r = .returned (.tuple #[.bool true, .int .i64 0]) ∧ Fr W1 W')
    (hab : a = true → b = true) :
    Calls Tryd.prog 8 #[.string p, .string q, .string s] W fun r W' => r = .returned (.bool true) ∧ Fr W W' := by
  have c1 := begun_any W hT
  have z1 : ¬ (15 : Int) < (p.size : Int) := by omega
  have z2 : ¬ (15 : Int) < (q.size : Int) := by omega
  have z3 : ¬ (16 : Int) < (s.size : Int) := by omega
  have A1 : ∀ w, Calls Tryd.prog 21 #[.string p] w fun e w' => e = .returned (.bool true) ∧ w = w' := fun w => ascii2 p true w (by omega) hap
  have A2 : ∀ w, Calls Tryd.prog 21 #[.string q] w fun e w' => e = .returned (.bool true) ∧ w = w' := fun w => ascii2 q true w (by omega) haq
  have P1 : ∀ w, Calls Tryd.prog 11 #[.string p] w fun e w' => e = .returned (.int .i64 0) ∧ Fr w w' := fun w => by
    have h := patternCheck_any p w (by omega); rw [hpe] at h; exact h
  have P2 : ∀ w, Calls Tryd.prog 11 #[.string q] w fun e w' => e = .returned (.int .i64 0) ∧ Fr w w' := fun w => by
    have h := patternCheck_any q w (by omega); rw [hqe] at h; exact h
  have HA1 : Hid _ := A1
  have HA2 : Hid _ := A2
  have HP1 : Hid _ := P1
  have HP2 : Hid _ := P2
  have M1 : Hid _ := m1
  have M2 : Hid _ := m2
  have M3 : Hid _ := m3
  have M4 : Hid _ := m4
  have E1 : Hid _ := e1
  have E2 : Hid _ := e2
  have E3 : Hid _ := e3
  have HAB : Hid _ := hab
  have y1 : p.size + q.size ≤ 9223372036854775807 := by omega
  have y2 : p.size + (⟨#[37]⟩ : ByteArray).size ≤ 9223372036854775807 := by show p.size + 1 ≤ _; omega
  have y3 : (p ++ (⟨#[37]⟩ : ByteArray)).size + q.size ≤ 9223372036854775807 := by rw [ByteArray.size_append]; show p.size + 1 + q.size ≤ _; omega
  have y4 : p.size + (⟨#[37, 37]⟩ : ByteArray).size ≤ 9223372036854775807 := by show p.size + 2 ≤ _; omega
  have y5 : (p ++ (⟨#[37, 37]⟩ : ByteArray)).size + q.size ≤ 9223372036854775807 := by rw [ByteArray.size_append]; show p.size + 2 + q.size ≤ _; omega
  clear A1 A2 P1 P2 m1 m2 m3 m4 e1 e2 e3 hab hap haq hpe hqe
  go_enter Tryd.func8, Tryd.ntmps8
  go_wp2_with fail
  refine c1.mono ?_
  rintro _ w1 ⟨rfl, f1⟩
  clear c1
  go_wp2_with fail
  refine (HA1.out w1).mono ?_
  rintro _ _ ⟨rfl, rfl⟩
  go_wp2_with fail
  refine (HA2.out w1).mono ?_
  rintro _ _ ⟨rfl, rfl⟩
  go_wp2_with fail
  refine (HP1.out w1).mono ?_
  rintro _ w2 ⟨rfl, f2⟩
  go_wp2_with fail
  refine (HP2.out w2).mono ?_
  rintro _ w3 ⟨rfl, f3⟩
  have t3 : Tb w3 := ((hT.fr f1).fr f2).fr f3
  have c2 := M1.out w3 t3
  rw [E1.out] at c2
  go_wp2_with fail
  refine c2.mono ?_
  rintro _ w4 ⟨rfl, f4⟩
  have c3 := M2.out w4 (t3.fr f4)
  rw [E2.out] at c3
  clear c2
  go_wp2_with fail
  refine c3.mono ?_
  rintro _ w5 ⟨rfl, f5⟩
  have c4 := M3.out w5 ((t3.fr f4).fr f5)
  rw [E3.out] at c4
  clear c3
  go_wp2_with fail
  refine c4.mono ?_
  rintro _ w6 ⟨rfl, f6⟩
  have c5 := M4.out w6 (((t3.fr f4).fr f5).fr f6)
  clear c4
  go_wp2_with fail
  refine c5.mono ?_
  rintro _ w7 ⟨rfl, f7⟩
  clear c5
  have ff : Fr W w7 := (((((f1.trans f2).trans f3).trans f4).trans f5).trans f6).trans f7
  cases a with
  | false =>
    cases b with
    | false => go_wp2; go_ret; exact ⟨rfl, ff⟩
    | true => go_wp2; go_ret; exact ⟨rfl, ff⟩
  | true =>
    obtain rfl : b = true := HAB.out rfl
    go_wp2; go_ret; exact ⟨rfl, ff⟩

set_option maxRecDepth 100000 in
set_option maxHeartbeats 2000000 in
theorem outs (p q s : ByteArray) (W : World) (hT : Tb W) (b0 : p.size ≤ 140737488351232) (b1 : q.size ≤ 140737488351232) (b2 : s.size ≤ 140737488351232)
    (h : ¬ (p.size ≤ 15 ∧ q.size ≤ 15 ∧ s.size ≤ 16 ∧ asc p = true ∧ asc q = true ∧ perr p = 0 ∧ perr q = 0)) :
    Calls Tryd.prog 8 #[.string p, .string q, .string s] W fun r W' => r = .returned (.bool true) ∧ Fr W W' := by
  have c1 := begun_any W hT
  by_cases h1 : p.size ≤ 15
  · have z1 : ¬ (15 : Int) < (p.size : Int) := by omega
    by_cases h2 : q.size ≤ 15
    · have z2 : ¬ (15 : Int) < (q.size : Int) := by omega
      by_cases h3 : s.size ≤ 16
      · have z3 : ¬ (16 : Int) < (s.size : Int) := by omega
        cases hap : asc p with
        | false =>
          clear h
          go_enter Tryd.func8, Tryd.ntmps8
          go_wp2_with fail
          refine c1.mono ?_
          rintro _ w1 ⟨rfl, f1⟩
          clear c1
          go_wp2_with fail
          refine (ascii2 p false w1 b0 hap).mono ?_
          rintro _ _ ⟨rfl, rfl⟩
          go_wp2
          go_ret
          exact ⟨rfl, f1⟩
        | true =>
          cases haq : asc q with
          | false =>
            clear h
            go_enter Tryd.func8, Tryd.ntmps8
            go_wp2_with fail
            refine c1.mono ?_
            rintro _ w1 ⟨rfl, f1⟩
            clear c1
            go_wp2_with fail
            refine (ascii2 p true w1 b0 hap).mono ?_
            rintro _ _ ⟨rfl, rfl⟩
            go_wp2_with fail
            refine (ascii2 q false w1 b1 haq).mono ?_
            rintro _ _ ⟨rfl, rfl⟩
            go_wp2
            go_ret
            exact ⟨rfl, f1⟩
          | true =>
            by_cases hp : perr p = 0
            · by_cases hq : perr q = 0
              · exact absurd ⟨h1, h2, h3, hap, haq, hp, hq⟩ h
              · clear h
                obtain ⟨pp, hpp⟩ : ∃ pp, perr q = pp := ⟨_, rfl⟩
                rw [hpp] at hq
                have hz : ((pp : Int) != 0) = true := by simp [hq]
                have hz2 : ¬ ((pp : Int) = 0) := by omega
                have HPP : Hid _ := hpp
                have HP0 : Hid _ := hp
                clear hpp hp
                go_enter Tryd.func8, Tryd.ntmps8
                go_wp2_with fail
                refine c1.mono ?_
                rintro _ w1 ⟨rfl, f1⟩
                clear c1
                go_wp2_with fail
                refine (ascii2 p true w1 b0 hap).mono ?_
                rintro _ _ ⟨rfl, rfl⟩
                go_wp2_with fail
                refine (ascii2 q true w1 b1 haq).mono ?_
                rintro _ _ ⟨rfl, rfl⟩
                have cp := patternCheck_any p w1 (by omega)
                rw [HP0.out] at cp
                go_wp2_with fail
                refine cp.mono ?_
                rintro _ w2 ⟨rfl, f2⟩
                clear cp
                have cq := patternCheck_any q w2 (by omega)
                rw [HPP.out] at cq
                go_wp2_with fail
                refine cq.mono ?_
                rintro _ w3 ⟨rfl, f3⟩
                clear cq
                go_wp2
                go_ret
                exact ⟨rfl, (f1.trans f2).trans f3⟩
            · clear h
              obtain ⟨pp, hpp⟩ : ∃ pp, perr p = pp := ⟨_, rfl⟩
              rw [hpp] at hp
              have hz : ((pp : Int) != 0) = true := by simp [hp]
              have hz2 : ¬ ((pp : Int) = 0) := by omega
              have HPP : Hid _ := hpp
              clear hpp
              go_enter Tryd.func8, Tryd.ntmps8
              go_wp2_with fail
              refine c1.mono ?_
              rintro _ w1 ⟨rfl, f1⟩
              clear c1
              go_wp2_with fail
              refine (ascii2 p true w1 b0 hap).mono ?_
              rintro _ _ ⟨rfl, rfl⟩
              go_wp2_with fail
              refine (ascii2 q true w1 b1 haq).mono ?_
              rintro _ _ ⟨rfl, rfl⟩
              have cp := patternCheck_any p w1 (by omega)
              rw [HPP.out] at cp
              go_wp2_with fail
              refine cp.mono ?_
              rintro _ w2 ⟨rfl, f2⟩
              clear cp
              go_wp2
              go_ret
              exact ⟨rfl, f1.trans f2⟩
      · have z3 : (16 : Int) < (s.size : Int) := by omega
        clear h
        go_enter Tryd.func8, Tryd.ntmps8
        go_wp2_with fail
        refine c1.mono ?_
        rintro _ w1 ⟨rfl, f1⟩
        clear c1
        go_wp2
        go_ret
        exact ⟨rfl, f1⟩
    · have z2 : (15 : Int) < (q.size : Int) := by omega
      clear h
      go_enter Tryd.func8, Tryd.ntmps8
      go_wp2_with fail
      refine c1.mono ?_
      rintro _ w1 ⟨rfl, f1⟩
      clear c1
      go_wp2
      go_ret
      exact ⟨rfl, f1⟩
  · have z1 : (15 : Int) < (p.size : Int) := by omega
    clear h
    go_enter Tryd.func8, Tryd.ntmps8
    go_wp2_with fail
    refine c1.mono ?_
    rintro _ w1 ⟨rfl, f1⟩
    clear c1
    go_wp2
    go_ret
    exact ⟨rfl, f1⟩

theorem asc_mem {S : ByteArray} (h : asc S = true) : ∀ b ∈ S.data.toList, b.toNat < 128 := fun b hb => of_decide_eq_true (List.all_eq_true.1 h b hb)
theorem app_list (a b : ByteArray) : (a ++ b).data.toList = a.data.toList ++ b.data.toList := by rw [ByteArray.data_append]; simp
theorem run_of {S : ByteArray} (h : perr S = 0) : (LK.run (LK.pc S.data.toList)).1 = false := by
  unfold perr at h
  split at h
  · cases h
  · cases hr : (LK.run (LK.pc S.data.toList)).1 with
    | false => rfl
    | true => rw [if_pos hr] at h; cases h
/-- a pattern that is right, made of two -/
theorem perr_of {S : ByteArray} (h1 : S.size ≤ 32) (h2 : (LK.run (LK.pc S.data.toList)).1 = false) : perr S = 0 := by
  unfold perr; rw [if_neg (by omega), if_neg (by rw [h2]; exact Bool.false_ne_true)]

theorem walk (a0 a1 a2 : ByteArray) (W : World) (hT : Tb W) (b0 : a0.size ≤ 140737488351232) (b1 : a1.size ≤ 140737488351232) (b2 : a2.size ≤ 140737488351232) :
    Calls Tryd.prog 8 #[.string a0, .string a1, .string a2] W fun r W' => r = .returned (.bool true) ∧ Fr W W' := by
  by_cases h : a0.size ≤ 15 ∧ a1.size ≤ 15 ∧ a2.size ≤ 16 ∧ asc a0 = true ∧ asc a1 = true ∧ perr a0 = 0 ∧ perr a1 = 0
  · obtain ⟨h1, h2, h3, h4, h5, h6, h7⟩ := h
    have r0 := run_of h6
    have r1 := run_of h7
    have k1 : LK.run (LK.pc (a0 ++ a1).data.toList) = (false, prts a0 ++ prts a1) := by
      rw [app_list, LK.run_cat _ _ (asc_mem h4) r0, r1]; rfl
    have k2' : LK.run (LK.pc (37 :: a1.data.toList)) = (false, LK.st :: prts a1) := by
      rw [LK.pc_low 37 _ (by decide), LK.run_eq]
      unfold LK.prs
      rw [if_neg (by decide), ← LK.run_eq, r1]; rfl
    have k3' : LK.run (LK.pc (37 :: 37 :: a1.data.toList)) = (false, LK.st :: LK.st :: prts a1) := by
      rw [LK.pc_low 37 _ (by decide), LK.run_eq]
      unfold LK.prs
      rw [if_neg (by decide), ← LK.run_eq, k2']; rfl
    have k2 : LK.run (LK.pc ((a0 ++ ⟨#[37]⟩) ++ a1).data.toList) = (false, prts a0 ++ LK.st :: prts a1) := by
      rw [app_list, app_list, List.append_assoc, LK.run_cat _ _ (asc_mem h4) r0]
      show ((LK.run (LK.pc (37 :: a1.data.toList))).1, _ ++ (LK.run (LK.pc (37 :: a1.data.toList))).2) = _
      rw [k2']; rfl
    have k3 : LK.run (LK.pc ((a0 ++ ⟨#[37, 37]⟩) ++ a1).data.toList) = (false, prts a0 ++ LK.st :: LK.st :: prts a1) := by
      rw [app_list, app_list, List.append_assoc, LK.run_cat _ _ (asc_mem h4) r0]
      show ((LK.run (LK.pc (37 :: 37 :: a1.data.toList))).1, _ ++ (LK.run (LK.pc (37 :: 37 :: a1.data.toList))).2) = _
      rw [k3']; rfl
    have s1 : (a0 ++ a1).size ≤ 32 := by rw [ByteArray.size_append]; omega
    have s2 : ((a0 ++ ⟨#[37]⟩) ++ a1).size ≤ 32 := by rw [ByteArray.size_append, ByteArray.size_append]; show a0.size + 1 + a1.size ≤ 32; omega
    have s3 : ((a0 ++ ⟨#[37, 37]⟩) ++ a1).size ≤ 32 := by rw [ByteArray.size_append, ByteArray.size_append]; show a0.size + 2 + a1.size ≤ 32; omega
    have m : ∀ (S : ByteArray) (P : List LK.Part), S.size ≤ 32 → LK.run (LK.pc S.data.toList) = (false, P) → ∀ W1, Tb W1 → Calls Tryd.prog 10 #[.string S, .string a2] W1 fun r W' => r = .returned (.tuple #[.bool (LK.mt P (LK.pc a2.data.toList)), .int .i64 0]) ∧ Fr W1 W' := by
      intro S P hs hr W1 ht
      have hpe := perr_of hs (by rw [hr])
      have hme : merr S a2 = 0 := by unfold merr; rw [if_neg (by rw [hpe]; decide), if_neg (by omega)]
      have hmt : mtc S a2 = LK.mt P (LK.pc a2.data.toList) := by unfold mtc prts; rw [hr]
      have hc := match_any S a2 W1 (by omega) (by omega) ht
      rw [hme, hmt] at hc
      exact hc
    refine main a0 a1 a2 _ _ _ (LK.mt (prts a0 ++ prts a1) (LK.pc a2.data.toList)) (LK.mt (prts a0 ++ LK.st :: prts a1) (LK.pc a2.data.toList)) W hT h1 h2 h3 h4 h5 h6 h7 rfl rfl rfl (m _ _ s1 k1) (m _ _ s2 k2) ?_ ?_ (LK.more _ _ _)
    · rw [← LK.more_two]
      exact m _ _ s3 k3
    · have h := m ⟨#[37]⟩ [LK.st] (by decide) (by decide +kernel)
      rw [LK.all_st] at h
      exact h
  · exact outs a0 a1 a2 W hT b0 b1 b2 h

set_option maxRecDepth 100000 in
theorem lifted (os : Os) (started : os.Started) (H : Type) (enc : TypeId × Value → H) :
    ReturnsInHanded {} Tryd.checked os 8 .any (fun w args => (Rows.likeMoreSpec.pre enc Tryd.prog Tryd.f8 [] false w args ∧ laidMetH Tryd.prog Rows.likeMoreRow.laid w) ∧ sizedMet enc Tryd.prog Tryd.f8 (OpenSpec.ofChange Rows.likeMoreSpec) false w args)
      (Rows.likeMoreSpec.post enc Tryd.prog Tryd.f8 false true false false) := by
  refine returnsInHanded_of_change_and (C := Tryd.checked) (X := fun w _ => laidMetH Tryd.prog Rows.likeMoreRow.laid w) (fun _ _ _ hh h => h.of_heap hh) own started (by kernel_rfl) Tryd.func8
    (ChangeSpec.witness_shaped (enc := enc) (C := Tryd.checked) (os := os) (X := fun w _ => laidMetH Tryd.prog Rows.likeMoreRow.laid w) false (World.laidAll Tryd.prog os Rows.likeMoreRow.laid) #[.string ByteArray.empty, .string ByteArray.empty, .string ByteArray.empty] 8 (World.laidAll_os _ _ _)
      (World.shaped_of_ZipB (by kernel_rfl) (by kernel_rfl)) (by kernel_rfl) (by kernel_rfl) (by kernel_rfl)
      (by rw [MakeChecks.laidMetH_plain _ _ _ (by kernel_rfl)]; exact laidMet_laidAll _ (by kernel_rfl) (by kernel_rfl))) ?_
  intro W base args ds gs before hval0 hW hcnd hsz0 hL _
  have hT : Tb W := tabs_of_laid hL
  have hval : ∀ (j : Nat) t v, Tryd.f8.params[j]? = some t → args[j]? = some v → Value.okWide Tryd.prog W .any base t v := hval0
  have hsz : (DataW.weightsEach Tryd.prog (Tryd.f8.params.toList ++ Rows.likeMoreSpec.plain.varTypes Tryd.prog) (ds ++ gs)).all (· ≤ reachBytes) = true := hsz0
  have hW' := hW
  obtain ⟨p, q, hA0, hV, rfl, hfz, hnd⟩ := hW
  have hA : DataW.TrodAll enc Tryd.prog W 0 (fun _ => true) true Tryd.f8.params.toList args.toList ds p := hA0
  rw [Tryd.params8] at hA hval hsz
  obtain ⟨v0, vs0, d0, ds0, p0, q0, hargs, rfl, rfl, h0, r0⟩ := trodAll_cons hA
  obtain ⟨v1, vs1, d1, ds1, p1, q1, rfl, rfl, rfl, h1, r1⟩ := trodAll_cons r0
  obtain ⟨v2, vs2, d2, ds2, p2, q2, rfl, rfl, rfl, h2, r2⟩ := trodAll_cons r1
  obtain ⟨rfl, rfl, rfl⟩ := trodAll_nil r2
  obtain rfl : args = #[v0, v1, v2] := by cases args; simp_all
  obtain ⟨rfl, rfl⟩ := trodVars_none hV
  obtain ⟨a0, rfl, rfl, rfl, w0⟩ := open_string Tryd.underlying9 (hval 0 9 v0 rfl rfl) h0
  obtain ⟨a1, rfl, rfl, rfl, w1⟩ := open_string Tryd.underlying9 (hval 1 9 v1 rfl rfl) h1
  obtain ⟨a2, rfl, rfl, rfl, w2⟩ := open_string Tryd.underlying9 (hval 2 9 v2 rfl rfl) h2
  have b0 : a0.size ≤ 140737488351232 := by
    have h := sized_string hsz (j := 0) (t := 9) rfl rfl
    simpa [reachBytes] using h
  have b1 : a1.size ≤ 140737488351232 := by
    have h := sized_string hsz (j := 1) (t := 9) rfl rfl
    simpa [reachBytes] using h
  have b2 : a2.size ≤ 140737488351232 := by
    have h := sized_string hsz (j := 2) (t := 9) rfl rfl
    simpa [reachBytes] using h
  clear hA0 hval0 hsz0
  refine (walk a0 a1 a2 W hT b0 b1 b2).mono fun e W' ⟨he, bel⟩ => ?_
  subst he
  exact ⟨_, rfl, _, _, _, [], _, [], hW', trodAll_mk1 (shut_bool Tryd.underlying4 _), (trodAll_cons_mk (shut_string Tryd.underlying9 w0) (trodAll_cons_mk (shut_string Tryd.underlying9 w1) (trodAll_cons_mk (shut_string Tryd.underlying9 w2) trodAll_mk0))), rfl, Below.frame bel _, fun h => by cases h⟩

theorem over : Rows.likeMoreRow.holds Tryd.pinned (OpenSpec.ofChange Rows.likeMoreSpec) :=
  OpenClaim.holds_of_wide 8 Tryd.f8 rfl rfl rfl rfl rfl rfl rfl ⟨rfl, rfl, rfl, rfl, rfl⟩ rfl rfl rfl rfl rfl (by kernel_rfl) Tryd.func8 (by kernel_rfl)
    (of_decide_eq_true (by kernel_rfl)) (by unfold Func.isWrapper; first | (rw [if_pos (by decide +kernel)]; kernel_rfl) | (rw [if_neg (by decide +kernel)]; exact ⟨rfl, rfl⟩))
    (fun os started H enc _ => lifted os started H enc)

theorem card : Rows.LikeMoreCardSaid :=
  Claim7.holds_tied_plain_at .later [] [.data, .pinned] true (true, "16a35cc793bfe44f891744ca83cbcb2362c0f7c3e5d28fcb30ada395105c9e56") false
    over (fun _ h => by cases h) (by kernel_rfl) (fun _ h => by cases h) likeMore_row_tie rfl ⟨rfl, rfl⟩ (by kernel_rfl) rfl
    (fun f fn hf hfn => by
      obtain rfl : f = 8 := Option.some.inj ((show Tryd.prog.funcNamed "starling/starlinglaw.LikeMore" = some 8 by kernel_rfl).symm.trans hf) |>.symm
      obtain rfl : fn = Tryd.f8 := (Option.some.inj (Tryd.func8.symm.trans hfn)).symm
      exact ⟨by kernel_rfl, fun j t ht => by
        rw [Tryd.params8] at ht
        have hm : t ∈ [9, 9, 9] := by simpa using Array.mem_of_getElem? ht
        have hall : ([9, 9, 9].all fun u => !Tryd.prog.wantsStandIn u) = true := by kernel_rfl
        exact (show Tryd.prog.wantsStandIn t = false by simpa using List.all_eq_true.1 hall t hm)⟩)
    (by kernel_rfl)

end likeMoreProof
theorem likeMore_holds : Rows.LikeMoreCardSaid := likeMoreProof.card
#print axioms likeMore_holds
end Go.Proofs.YtgjgmaadogkjfaaDoor
