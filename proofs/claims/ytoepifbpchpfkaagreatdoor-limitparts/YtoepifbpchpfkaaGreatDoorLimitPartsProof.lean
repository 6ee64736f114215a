/-
  Proved: for every list of rows and all numbers LimitParts answers true: the first ones, and all behind them, are all; of what was left out ahead once and once more the same. No condition but the form's own reach.
-/
import Derived.Test.YtoepifbpchpfkaaGreatDoorGqG
import Derived.Test.YtoepifbpchpfkaaGreatDoorGqF
import Derived.Test.YtoepifbpchpfkaaGreatDoorBjB
namespace Go.Proofs.YtoepifbpchpfkaaGreatDoor.limitPartsProof
open Go.ChangeShapes Go.WideShapes Go.ChangeAt Go.RowKit
open Go.ChangeMaps (open_string shut_string)
set_option linter.unusedVariables false
set_option linter.unusedSimpArgs false
set_option maxRecDepth 100000
set_option maxHeartbeats 2000000
theorem walk (v0 : Value) (l0 : List (List VM.Vl)) (a1 : Int) (a2 : Int) (a3 : Int) (w : World) (hTt : Tt w) (rw0 : IsRR w v0 l0) (ok0 : ∀ y ∈ l0, y.length * 32 ≤ 140737488351232 ∧ ∀ z ∈ y, EV.gd z ∧ z.s.size ≤ 140737488351232) (b0 : l0.length * 24 ≤ 140737488351232) (w1 : -9223372036854775808 ≤ a1 ∧ a1 ≤ 9223372036854775807) (w2 : -9223372036854775808 ≤ a2 ∧ a2 ≤ 9223372036854775807) (w3 : -9223372036854775808 ≤ a3 ∧ a3 ≤ 9223372036854775807) :
  Calls Tryz.prog 15 #[v0, .int .i64 a1, .int .i64 a2, .int .i64 a3] w fun e w' => e = .returned (.bool true) ∧ Fr w w' := by
 have HBg := hideP (fun (W : World) (f : Fr w W) => bagBegun_any W (hTt.tn.fr f) (hTt.tb.fr f))
 have HR := hideP rw0
 have HLm := hideP (show l0.length ≤ 9223372036854775806 by omega)
 have HOk := hideP (fun r (hr : r ∈ l0) => show r.length ≤ 9223372036854775806 by have := (ok0 r hr).1; omega)
 have HF := hideP (fun (W : World) (v : Value) (ls : List (List VM.Vl)) (s t : Int) (h : IsRR W v ls) (hs : ∀ r ∈ ls, r ∈ l0) (hn : ls.length ≤ l0.length) => limit_any v ls s t W h (Nat.le_trans hn HLm.out) (fun r hr => HOk.out r (hs r hr)))
 have HCk := hideP (fun (W : World) (f : Fr w W) => bagCheck_any v0 l0 W (rw0.fr f) HLm.out HOk.out)
 obtain ⟨A0, c0, rfl⟩ := rw0.slice
 clear rw0 ok0 b0
 by_cases q0 : a1 < 0
 ·
  go_enter Tryz.func15, Tryz.ntmps15
  go_wp2_with fail
  refine (HBg.out _ (Fr.refl _)).mono ?_
  rintro _ w1 ⟨rfl, f1⟩
  have F1 := hideP f1
  clear f1
  go_wp2_with fail
  go_ret
  exact ⟨rfl, F1.out⟩
 by_cases q1 : a2 < 0
 ·
  go_enter Tryz.func15, Tryz.ntmps15
  go_wp2_with fail
  refine (HBg.out _ (Fr.refl _)).mono ?_
  rintro _ w1 ⟨rfl, f1⟩
  have F1 := hideP f1
  clear f1
  go_wp2_with fail
  go_ret
  exact ⟨rfl, F1.out⟩
 by_cases q2 : a3 < 0
 ·
  go_enter Tryz.func15, Tryz.ntmps15
  go_wp2_with fail
  refine (HBg.out _ (Fr.refl _)).mono ?_
  rintro _ w1 ⟨rfl, f1⟩
  have F1 := hideP f1
  clear f1
  go_wp2_with fail
  go_ret
  exact ⟨rfl, F1.out⟩
 by_cases q3 : 100 < a1
 ·
  go_enter Tryz.func15, Tryz.ntmps15
  go_wp2_with fail
  refine (HBg.out _ (Fr.refl _)).mono ?_
  rintro _ w1 ⟨rfl, f1⟩
  have F1 := hideP f1
  clear f1
  go_wp2_with fail
  go_ret
  exact ⟨rfl, F1.out⟩
 by_cases q4 : 100 < a2
 ·
  go_enter Tryz.func15, Tryz.ntmps15
  go_wp2_with fail
  refine (HBg.out _ (Fr.refl _)).mono ?_
  rintro _ w1 ⟨rfl, f1⟩
  have F1 := hideP f1
  clear f1
  go_wp2_with fail
  go_ret
  exact ⟨rfl, F1.out⟩
 by_cases hc : BG.chk l0 = 0
 ·
  have h40 := (BG.chk_all hc).1
  obtain ⟨e1, e2, e3, e4⟩ := BG.lim_parts hc (a := a1) (b := a2) (most := a3) (by omega) (by omega) (by omega)
  have hXY : l0.take a1.toNat ++ l0.drop a1.toNat = l0 := List.take_append_drop _ _
  have hYm : (∀ r ∈ l0.drop a1.toNat, r ∈ l0) ∧ (l0.drop a1.toNat).length ≤ l0.length := ⟨fun r h => List.mem_of_mem_drop h, by rw [List.length_drop]; omega⟩
  have hTm : (∀ r ∈ (l0.drop (a1 + a2).toNat).take a3.toNat, r ∈ l0) ∧ ((l0.drop (a1 + a2).toNat).take a3.toNat).length ≤ 40 := ⟨fun r h => List.mem_of_mem_drop (List.mem_of_mem_take h), by rw [List.length_take, List.length_drop]; omega⟩
  generalize l0.take a1.toNat = X at *
  generalize l0.drop a1.toNat = Y at *
  generalize (l0.drop (a1 + a2).toNat).take a3.toNat = T at *
  have HE1 := hideP e1
  have HE2 := hideP e2
  have HE3 := hideP e3
  have HE4 := hideP e4
  have HC0 := hideP hc
  have HXY := hideP hXY
  have HYm := hideP hYm
  have HTm := hideP hTm
  have HP1 := hideP (show X.length + Y.length ≤ 40 by rw [← List.length_append, hXY]; exact h40)
  have ha1 : 0 ≤ a1 := by omega
  have ha2 : 0 ≤ a2 := by omega
  have hb1 : a1 ≤ 100 := by omega
  have hb2 : a2 ≤ 100 := by omega
  clear hXY hYm hTm
  clear e1 e2 e3 e4 hc h40 w1 w2 w3
  go_enter Tryz.func15, Tryz.ntmps15
  go_wp2_with fail
  refine (HBg.out _ (Fr.refl _)).mono ?_
  rintro _ w1 ⟨rfl, f1⟩
  have F1 := hideP f1
  clear f1
  go_wp2_with fail
  refine (HCk.out _ F1.out).mono ?_
  rintro _ w2 ⟨rfl, f2⟩
  rw [HC0.out]
  have F2 := hideP (F1.out.trans f2)
  clear f2
  go_wp2_with fail
  have k3 := HF.out w2 _ l0 0 a1 (HR.out.fr F2.out) (fun r h => h) (Nat.le_refl _)
  rw [HE1.out] at k3
  refine k3.mono ?_
  clear k3
  rintro _ w3 ⟨⟨u, rfl, hO⟩, f3⟩
  obtain ⟨xa, xc, rfl⟩ := hO.slice
  have HX := hideP hO.rows
  have F3 := hideP (F2.out.trans f3)
  clear f3 hO
  go_wp2_with fail
  have k4 := HF.out w3 _ l0 a1 40 (HR.out.fr F3.out) (fun r h => h) (Nat.le_refl _)
  rw [HE2.out] at k4
  refine k4.mono ?_
  clear k4
  rintro _ w4 ⟨⟨u, rfl, hO⟩, f4⟩
  obtain ⟨ya, yc, rfl⟩ := hO.slice
  have HY := hideP hO.rows
  replace HX := hideP (HX.out.fr f4)
  have F4 := hideP (F3.out.trans f4)
  clear f4 hO
  go_wp2_with fail
  have k5 := HF.out w4 _ Y a2 a3 HY.out HYm.out.1 HYm.out.2
  rw [HE3.out] at k5
  refine k5.mono ?_
  clear k5
  rintro _ w5 ⟨⟨u, rfl, hO⟩, f5⟩
  obtain ⟨za, zc, rfl⟩ := hO.slice
  have HZ := hideP hO.rows
  replace HX := hideP (HX.out.fr f5)
  replace HY := hideP (HY.out.fr f5)
  have F5 := hideP (F4.out.trans f5)
  clear f5 hO
  go_wp2_with fail
  have k6 := HF.out w5 _ l0 (a1 + a2) a3 (HR.out.fr F5.out) (fun r h => h) (Nat.le_refl _)
  rw [HE4.out] at k6
  refine k6.mono ?_
  clear k6
  rintro _ w6 ⟨⟨u, rfl, hO⟩, f6⟩
  obtain ⟨ta, tc, rfl⟩ := hO.slice
  have HT := hideP hO.rows
  replace HX := hideP (HX.out.fr f6)
  replace HY := hideP (HY.out.fr f6)
  replace HZ := hideP (HZ.out.fr f6)
  have F6 := hideP (F5.out.trans f6)
  clear f6 hO
  go_wp2_with fail
  refine (together_any _ _ _ _ w6 HX.out HY.out (by have := HP1.out; omega)).mono ?_
  rintro _ w7 ⟨⟨u, rfl, hT⟩, f7⟩
  rw [HXY.out] at hT
  obtain ⟨pa, pc, rfl⟩ := hT.slice
  have HG := hideP hT
  replace HZ := hideP (HZ.out.fr f7)
  replace HT := hideP (HT.out.fr f7)
  have F7 := hideP (F6.out.trans f7)
  clear f7 hT
  go_wp2_with fail
  refine (sameRows_eq _ _ l0 w7 HG.out (HR.out.fr F7.out) HLm.out HOk.out).mono ?_
  rintro _ w8 ⟨rfl, f8⟩
  replace HZ := hideP (HZ.out.fr f8)
  replace HT := hideP (HT.out.fr f8)
  have F8 := hideP (F7.out.trans f8)
  clear f8
  go_wp2_with fail
  refine (sameRows_eq _ _ _ w8 HZ.out HT.out (by have := HTm.out.2; omega) (fun r hr => HOk.out r (HTm.out.1 r hr))).mono ?_
  rintro _ w9 ⟨rfl, f9⟩
  have F9 := hideP (F8.out.trans f9)
  clear f9
  go_wp2_with fail
  go_ret
  exact ⟨rfl, F9.out⟩
 ·
  have hc1 : (((BG.chk l0 : Nat) : Int) != 0) = true := by simp; omega
  generalize BG.chk l0 = z at *
  go_enter Tryz.func15, Tryz.ntmps15
  go_wp2_with fail
  refine (HBg.out _ (Fr.refl _)).mono ?_
  rintro _ w1 ⟨rfl, f1⟩
  have F1 := hideP f1
  clear f1
  go_wp2_with fail
  refine (HCk.out _ F1.out).mono ?_
  rintro _ w2 ⟨rfl, f2⟩
  have F2 := hideP (F1.out.trans f2)
  clear f2
  go_wp2_with fail
  go_ret
  exact ⟨rfl, F2.out⟩

set_option maxRecDepth 100000 in
theorem lifted (os : Go.Os) (started : os.Started) (H : Type) (enc : TypeId × Value → H) :
  ReturnsInHanded {} Tryz.checked os 15 .any (fun w args => (Rows.limitPartsSpec.pre enc Tryz.prog Tryz.f15 [] false w args ∧ laidMetH Tryz.prog Rows.limitPartsRow.laid w) ∧ sizedMet enc Tryz.prog Tryz.f15 (OpenSpec.ofChange Rows.limitPartsSpec) false w args)
   (Rows.limitPartsSpec.post enc Tryz.prog Tryz.f15 false true false false) := by
 refine returnsInHanded_of_change_and (C := Tryz.checked) (X := fun w _ => laidMetH Tryz.prog Rows.limitPartsRow.laid w) (fun _ _ _ hh h => h.of_heap hh) own started (by kernel_rfl) Tryz.func15
  (ChangeSpec.witness_shaped (enc := enc) (C := Tryz.checked) (os := os) (X := fun w _ => laidMetH Tryz.prog Rows.limitPartsRow.laid w) false (World.laidAll Tryz.prog os Rows.limitPartsRow.laid) #[.slice none 0 0, .int .i64 0, .int .i64 0, .int .i64 0] 8 (World.laidAll_os _ _ _)
   (World.shaped_of_ZipB (by kernel_rfl) (by kernel_rfl)) (by kernel_rfl) (by kernel_rfl) (by kernel_rfl)
   (by rw [MakeChecks.laidMetH_plain _ _ _ (by kernel_rfl)]; exact laidMet_laidAll _ (by kernel_rfl) (by kernel_rfl))) ?_
 intro W base args ds gs before hval0 hW hcnd hsz0 hL _
 have hT : Tt W := tabs_of_laid hL
 have hval : ∀ (j : Nat) t v, Tryz.f15.params[j]? = some t → args[j]? = some v → Value.okWide Tryz.prog W .any base t v := hval0
 have hsz : (DataW.weightsEach Tryz.prog (Tryz.f15.params.toList ++ Rows.limitPartsSpec.plain.varTypes Tryz.prog) (ds ++ gs)).all (· ≤ reachBytes) = true := hsz0
 have hW' := hW
 obtain ⟨p, q, hA0, hV, rfl, hfz, hnd⟩ := hW
 have hA : DataW.TrodAll enc Tryz.prog W 0 (fun _ => true) true Tryz.f15.params.toList args.toList ds p := hA0
 rw [Tryz.params15] at hA hval hsz
 obtain ⟨v0, vs0, d0, ds0, p0, q0, hargs, rfl, rfl, h0, r0⟩ := trodAll_cons hA
 obtain ⟨v1, vs1, d1, ds1, p1, q1, rfl, rfl, rfl, h1, r1⟩ := trodAll_cons r0
 obtain ⟨v2, vs2, d2, ds2, p2, q2, rfl, rfl, rfl, h2, r2⟩ := trodAll_cons r1
 obtain ⟨v3, vs3, d3, ds3, p3, q3, rfl, rfl, rfl, h3, r3⟩ := trodAll_cons r2
 obtain ⟨rfl, rfl, rfl⟩ := trodAll_nil r3
 obtain rfl : args = #[v0, v1, v2, v3] := by cases args; simp_all
 obtain ⟨rfl, rfl⟩ := trodVars_none hV
 obtain ⟨l0, rw0, ok0, b0⟩ := open_rws (hval 0 22 v0 rfl rfl) h0 (sized_at hsz (j := 0) rfl rfl)
 obtain ⟨a1, rfl, rfl, rfl, w1⟩ := open_int Tryz.underlying3 (hval 1 3 v1 rfl rfl) h1
 obtain ⟨a2, rfl, rfl, rfl, w2⟩ := open_int Tryz.underlying3 (hval 2 3 v2 rfl rfl) h2
 obtain ⟨a3, rfl, rfl, rfl, w3⟩ := open_int Tryz.underlying3 (hval 3 3 v3 rfl rfl) h3
 clear hA0 hval0 hsz0
 refine (walk v0 l0 a1 a2 a3 W hT rw0 ok0 b0 (wf_i64 w1) (wf_i64 w2) (wf_i64 w3)).mono fun e W' ⟨he, bel⟩ => ?_
 subst he
 exact ⟨_, rfl, _, _, _, [], _, [], hW', trodAll_mk1 (shut_bool Tryz.underlying4 _), (trodAll_cons_mk (shut_rws h0 bel) (trodAll_cons_mk (shut_int Tryz.underlying3 w1) (trodAll_cons_mk (shut_int Tryz.underlying3 w2) (trodAll_cons_mk (shut_int Tryz.underlying3 w3) trodAll_mk0)))), rfl, Below.frame bel _, fun h => by cases h⟩
theorem closed : joinedFacts Tryz.prog 15 Tryz.f15 Rows.limitPartsSpec Rows.limitPartsRow = true := by
 unfold joinedFacts
 repeat' (with_reducible refine Bool.and_eq_true_iff.2 ⟨?_, ?_⟩)
 all_goals first
  | with_reducible exact HeadW.mayEnter
  | with_reducible exact laidOut
  | with_reducible exact HeadW.mapsRowed
  | with_reducible exact HeadW.stopsHeard
  | (rw [HeadW.liftsFinal]; as_aux_lemma => kernel_rfl)
  | (rw [HeadW.make]; as_aux_lemma => kernel_rfl)
  | (rw [HeadW.plainKeys]; as_aux_lemma => kernel_rfl)
  | as_aux_lemma => kernel_rfl
theorem over : Rows.limitPartsRow.holds Tryz.pinned (OpenSpec.ofChange Rows.limitPartsSpec) :=
 OpenClaim.holds_of_wide 15 Tryz.f15 rfl rfl rfl rfl rfl rfl rfl ⟨rfl, rfl, rfl, rfl, rfl⟩ rfl rfl rfl rfl rfl (by as_aux_lemma => kernel_rfl) Tryz.func15 closed
  (of_decide_eq_true (by as_aux_lemma => kernel_rfl)) (by unfold Func.isWrapper; first | (rw [if_pos (by decide +kernel)]; kernel_rfl) | (rw [if_neg (by decide +kernel)]; exact ⟨rfl, rfl⟩))
  (fun os started H enc _ => lifted os started H enc)
theorem card : Rows.LimitPartsCardSaid :=
 Claim7.holds_tied_plain_at .later [] [.data, .data, .data, .data, .data, .data, .pinned] true (true, "1ac927b6c31f7e9902634f50ce5f21d6511048fe18fc2768fe9f77e9756654d9") false
  over (fun _ h => by cases h) (by as_aux_lemma => kernel_rfl) (fun _ h => by cases h) limitParts_row_tie rfl ⟨rfl, rfl⟩ HeadW.main rfl
  (fun f fn hf hfn => by
   obtain rfl : f = 15 := Option.some.inj ((show Tryz.prog.funcNamed "starling/starlinglaw.LimitParts" = some 15 by as_aux_lemma => kernel_rfl).symm.trans hf) |>.symm
   obtain rfl : fn = Tryz.f15 := (Option.some.inj (Tryz.func15.symm.trans hfn)).symm
   exact ⟨HeadW.looks.symm, fun j t ht => by
    rw [Tryz.params15] at ht
    have hm : t ∈ [22, 3, 3, 3] := by simpa using Array.mem_of_getElem? ht
    have hall : ([22, 3, 3, 3].all fun u => !Tryz.prog.wantsStandIn u) = true := by as_aux_lemma => kernel_rfl
    exact (show Tryz.prog.wantsStandIn t = false by simpa using List.all_eq_true.1 hall t hm)⟩)
  (by as_aux_lemma => kernel_rfl)
end Go.Proofs.YtoepifbpchpfkaaGreatDoor.limitPartsProof
namespace Go.Proofs.YtoepifbpchpfkaaGreatDoor
theorem limitParts_holds : Rows.LimitPartsCardSaid := limitPartsProof.card
end Go.Proofs.YtoepifbpchpfkaaGreatDoor
