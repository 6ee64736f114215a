/-
  Proved: for all lists of rows and every place JoinParts answers true: a list in two parts, joined, is both parts joined, one behind the other. No condition but the form's own reach.
-/
import Derived.Test.YtoepifbpchpfkaaGreatDoorGqG
import Derived.Test.YtoepifbpchpfkaaGreatDoorGqF
import Derived.Test.YtoepifbpchpfkaaGreatDoorBjB
namespace Go.Proofs.YtoepifbpchpfkaaGreatDoor.joinPartsProof
open Go.ChangeShapes Go.WideShapes Go.ChangeAt Go.RowKit
open Go.ChangeMaps (open_string shut_string)
set_option linter.unusedVariables false
set_option linter.unusedSimpArgs false
set_option maxRecDepth 100000
set_option maxHeartbeats 2000000
theorem walk (v0 : Value) (l0 : List (List VM.Vl)) (v1 : Value) (l1 : List (List VM.Vl)) (a2 : Int) (w : World) (hTt : Tt w) (rw0 : IsRR w v0 l0) (ok0 : ∀ y ∈ l0, y.length * 32 ≤ 140737488351232 ∧ ∀ z ∈ y, EV.gd z ∧ z.s.size ≤ 140737488351232) (b0 : l0.length * 24 ≤ 140737488351232) (rw1 : IsRR w v1 l1) (ok1 : ∀ y ∈ l1, y.length * 32 ≤ 140737488351232 ∧ ∀ z ∈ y, EV.gd z ∧ z.s.size ≤ 140737488351232) (b1 : l1.length * 24 ≤ 140737488351232) (w2 : -9223372036854775808 ≤ a2 ∧ a2 ≤ 9223372036854775807) :
  Calls Tryz.prog 19 #[v0, v1, .int .i64 a2] w fun e w' => e = .returned (.bool true) ∧ Fr w w' := by
 have HBg := hideP (fun (W : World) (f : Fr w W) => bagBegun_any W (hTt.tn.fr f) (hTt.tb.fr f))
 have HF := hideP (fun (W : World) (v : Value) (ls : List (List VM.Vl)) (f : Fr w W) (h : IsRR W v ls) (hs : ∀ r ∈ ls, r ∈ l0) (hn : ls.length ≤ l0.length) => join_any v _ ls l1 W h (rw1.fr f) (by omega) (fun r hr => by have := (ok0 r (hs r hr)).1; omega) (by omega) (fun r hr => by have := (ok1 r hr).1; omega))
 have HR := hideP rw0
 obtain ⟨A0, c0, rfl⟩ := rw0.slice
 have hcc : l0.length ≤ c0 := by obtain ⟨_, _, _, hc, _⟩ := rw0.at; exact hc
 obtain ⟨A1, c1, rfl⟩ := rw1.slice
 have HOk0 := hideP (fun r (hr : r ∈ l0) => show r.length ≤ 4398046511000 by have := (ok0 r hr).1; omega)
 have HOk1 := hideP (fun r (hr : r ∈ l1) => show r.length ≤ 4398046511000 by have := (ok1 r hr).1; omega)
 clear rw0 rw1 ok0 b0 ok1 b1
 cases hx : BG.jn l0 l1 with
 | error c =>
  have hne := BG.jn_ne hx
  have k1 := HF.out w _ l0 (Fr.refl _) HR.out (fun r h => h) (Nat.le_refl _)
  rw [hx] at k1
  have K1 := hideP k1
  have hc1 : ((c : Int) != 0) = true := by simp; omega
  have hc2 : ((c : Int) == 0) = false := by simp; omega
  clear k1 hx
  go_enter Tryz.func19, Tryz.ntmps19
  go_wp2_with fail
  refine K1.out.mono ?_
  rintro _ w1 ⟨rfl, f1⟩
  have F1 := hideP f1
  clear f1 K1
  go_wp2_with fail
  refine (HBg.out _ F1.out).mono ?_
  rintro _ w2 ⟨rfl, f2⟩
  have F2 := hideP (F1.out.trans f2)
  clear f2
  go_wp2_with fail
  go_ret
  exact ⟨rfl, F2.out⟩
 | ok m =>
  have k1 := HF.out w _ l0 (Fr.refl _) HR.out (fun r h => h) (Nat.le_refl _)
  rw [hx] at k1
  have K1 := hideP k1
  have HX := hideP hx
  clear k1 hx
  by_cases hk : a2 < 0 ∨ (l0.length : Int) < a2
  ·
   by_cases hk0 : a2 < 0
   ·
    go_enter Tryz.func19, Tryz.ntmps19
    go_wp2_with fail
    refine K1.out.mono ?_
    rintro _ w1 ⟨⟨u, rfl, hO⟩, f1⟩
    obtain ⟨ua, uc, rfl⟩ := hO.slice
    have F1 := hideP f1
    clear f1 K1 hO
    go_wp2_with fail
    refine (HBg.out _ F1.out).mono ?_
    rintro _ w2 ⟨rfl, f2⟩
    have F2 := hideP (F1.out.trans f2)
    clear f2
    go_wp2_with fail
    go_ret
    exact ⟨rfl, F2.out⟩
   ·
    have hk1 : (l0.length : Int) < a2 := by omega
    clear hk
    go_enter Tryz.func19, Tryz.ntmps19
    go_wp2_with fail
    refine K1.out.mono ?_
    rintro _ w1 ⟨⟨u, rfl, hO⟩, f1⟩
    obtain ⟨ua, uc, rfl⟩ := hO.slice
    have F1 := hideP f1
    clear f1 K1 hO
    go_wp2_with fail
    refine (HBg.out _ F1.out).mono ?_
    rintro _ w2 ⟨rfl, f2⟩
    have F2 := hideP (F1.out.trans f2)
    clear f2
    go_wp2_with fail
    go_ret
    exact ⟨rfl, F2.out⟩
  ·
   obtain ⟨K, rfl⟩ : ∃ K : Nat, a2 = (K : Int) := ⟨a2.toNat, by omega⟩
   have hK : K ≤ l0.length := by omega
   have hk1 : ¬ ((K : Int) < 0) := by omega
   have hk2 : ¬ ((l0.length : Int) < (K : Int)) := by omega
   have hk3 : (K : Int) ≤ (c0 : Int) := by omega
   have hk4 : (K : Int) ≤ (l0.length : Int) := by omega
   obtain ⟨x, y, hx1, hx2, hm⟩ := BG.jn_parts HX.out K
   have HX1 := hideP hx1
   have HX2 := hideP hx2
   have HM := hideP hm
   clear hx1 hx2 hm
   have HKn := hideP hK
   have h40 : m.length ≤ 40 ∧ ∀ r ∈ m, r.length ≤ 9223372036854775806 := by
    obtain ⟨_, _, h3, e⟩ := BG.jn_iff.1 HX.out
    subst e
    refine ⟨by rw [BG.join_len]; exact h3.2, fun r hr => ?_⟩
    obtain ⟨p, hp, q, hq, rfl⟩ := BG.join_mem hr
    have h1 := HOk0.out p hp
    have h2 := HOk1.out q hq
    rw [List.length_append]
    omega
   have HSz := hideP (show (x.length + y.length) * 24 ≤ 140737488355328 by have e := congrArg List.length HM.out; rw [List.length_append] at e; omega)
   have HLm := hideP (show m.length ≤ 9223372036854775806 by omega)
   have HRm := hideP h40.2
   clear h40
   have HCc := hideP hcc
   clear hk w2 hK hcc
   go_enter Tryz.func19, Tryz.ntmps19
   go_wp2_with fail
   refine K1.out.mono ?_
   rintro _ w1 ⟨⟨u, rfl, hO⟩, f1⟩
   obtain ⟨ua, uc, rfl⟩ := hO.slice
   have F1 := hideP f1
   have HO := hideP hO.rows
   clear f1 K1 hO
   go_wp2_with fail
   refine (HBg.out _ F1.out).mono ?_
   rintro _ w2 ⟨rfl, f2⟩
   have F2 := hideP (F1.out.trans f2)
   replace HO := hideP (HO.out.fr f2)
   clear f2
   go_wp2_with fail
   have k2 := HF.out w2 _ (l0.take K) F2.out (isRR_head (HR.out.fr F2.out) K HKn.out) (fun r h => List.mem_of_mem_take h) (by rw [List.length_take]; omega)
   rw [HX1.out] at k2
   refine k2.mono ?_
   clear k2
   rintro _ w3 ⟨⟨u, rfl, hP⟩, f3⟩
   obtain ⟨xa, xc, rfl⟩ := hP.slice
   have F3 := hideP (F2.out.trans f3)
   have HP := hideP hP.rows
   replace HO := hideP (HO.out.fr f3)
   clear f3 hP
   go_wp2_with fail
   ·
    have hck : c0 = K := by assumption
    have k3 := HF.out w3 (.slice A0 (l0.length - K) (c0 - K)) (l0.drop K) F3.out (isRR_back (HR.out.fr F3.out) K HKn.out A0 (fun b o e => .inl (by have := HCc.out; have := HKn.out; omega))) (fun r h => List.mem_of_mem_drop h) (by rw [List.length_drop]; omega)
    rw [HX2.out] at k3
    rw [show c0 - K = 0 by omega] at k3
    refine k3.mono ?_
    clear k3
    rintro _ w4 ⟨⟨u, rfl, hQ⟩, f4⟩
    obtain ⟨ya, yc, rfl⟩ := hQ.slice
    have F4 := hideP (F3.out.trans f4)
    have HQ := hideP hQ.rows
    replace HO := hideP (HO.out.fr f4)
    replace HP := hideP (HP.out.fr f4)
    clear f4 hQ
    go_wp2_with fail
    refine (together_any _ _ x y w4 HP.out HQ.out HSz.out).mono ?_
    rintro _ w5 ⟨⟨u, rfl, hT⟩, f5⟩
    rw [← HM.out] at hT
    obtain ⟨ta, tc, rfl⟩ := hT.slice
    have F5 := hideP (F4.out.trans f5)
    have HT := hideP hT
    replace HO := hideP (HO.out.fr f5)
    clear f5 hT
    go_wp2_with fail
    refine (sameRows_eq _ _ m w5 HO.out HT.out HLm.out HRm.out).mono ?_
    rintro _ w6 ⟨rfl, f6⟩
    have F6 := hideP (F5.out.trans f6)
    clear f6
    go_wp2_with fail
    go_ret
    exact ⟨rfl, F6.out⟩
   ·
    have k3 := HF.out w3 (.slice (Option.map (fun x => x.add K) A0) (l0.length - K) (c0 - K)) (l0.drop K) F3.out (isRR_back (HR.out.fr F3.out) K HKn.out (Option.map (fun x => x.add K) A0) (fun b o e => .inr (by rw [e]; simp [Addr.add_lit]))) (fun r h => List.mem_of_mem_drop h) (by rw [List.length_drop]; omega)
    rw [HX2.out] at k3
    refine k3.mono ?_
    clear k3
    rintro _ w4 ⟨⟨u, rfl, hQ⟩, f4⟩
    obtain ⟨ya, yc, rfl⟩ := hQ.slice
    have F4 := hideP (F3.out.trans f4)
    have HQ := hideP hQ.rows
    replace HO := hideP (HO.out.fr f4)
    replace HP := hideP (HP.out.fr f4)
    clear f4 hQ
    go_wp2_with fail
    refine (together_any _ _ x y w4 HP.out HQ.out HSz.out).mono ?_
    rintro _ w5 ⟨⟨u, rfl, hT⟩, f5⟩
    rw [← HM.out] at hT
    obtain ⟨ta, tc, rfl⟩ := hT.slice
    have F5 := hideP (F4.out.trans f5)
    have HT := hideP hT
    replace HO := hideP (HO.out.fr f5)
    clear f5 hT
    go_wp2_with fail
    refine (sameRows_eq _ _ m w5 HO.out HT.out HLm.out HRm.out).mono ?_
    rintro _ w6 ⟨rfl, f6⟩
    have F6 := hideP (F5.out.trans f6)
    clear f6
    go_wp2_with fail
    go_ret
    exact ⟨rfl, F6.out⟩

set_option maxRecDepth 100000 in
theorem lifted (os : Go.Os) (started : os.Started) (H : Type) (enc : TypeId × Value → H) :
  ReturnsInHanded {} Tryz.checked os 19 .any (fun w args => (Rows.joinPartsSpec.pre enc Tryz.prog Tryz.f19 [] false w args ∧ laidMetH Tryz.prog Rows.joinPartsRow.laid w) ∧ sizedMet enc Tryz.prog Tryz.f19 (OpenSpec.ofChange Rows.joinPartsSpec) false w args)
   (Rows.joinPartsSpec.post enc Tryz.prog Tryz.f19 false true false false) := by
 refine returnsInHanded_of_change_and (C := Tryz.checked) (X := fun w _ => laidMetH Tryz.prog Rows.joinPartsRow.laid w) (fun _ _ _ hh h => h.of_heap hh) own started (by kernel_rfl) Tryz.func19
  (ChangeSpec.witness_shaped (enc := enc) (C := Tryz.checked) (os := os) (X := fun w _ => laidMetH Tryz.prog Rows.joinPartsRow.laid w) false (World.laidAll Tryz.prog os Rows.joinPartsRow.laid) #[.slice none 0 0, .slice none 0 0, .int .i64 0] 8 (World.laidAll_os _ _ _)
   (World.shaped_of_ZipB (by kernel_rfl) (by kernel_rfl)) (by kernel_rfl) (by kernel_rfl) (by kernel_rfl)
   (by rw [MakeChecks.laidMetH_plain _ _ _ (by kernel_rfl)]; exact laidMet_laidAll _ (by kernel_rfl) (by kernel_rfl))) ?_
 intro W base args ds gs before hval0 hW hcnd hsz0 hL _
 have hT : Tt W := tabs_of_laid hL
 have hval : ∀ (j : Nat) t v, Tryz.f19.params[j]? = some t → args[j]? = some v → Value.okWide Tryz.prog W .any base t v := hval0
 have hsz : (DataW.weightsEach Tryz.prog (Tryz.f19.params.toList ++ Rows.joinPartsSpec.plain.varTypes Tryz.prog) (ds ++ gs)).all (· ≤ reachBytes) = true := hsz0
 have hW' := hW
 obtain ⟨p, q, hA0, hV, rfl, hfz, hnd⟩ := hW
 have hA : DataW.TrodAll enc Tryz.prog W 0 (fun _ => true) true Tryz.f19.params.toList args.toList ds p := hA0
 rw [Tryz.params19] at hA hval hsz
 obtain ⟨v0, vs0, d0, ds0, p0, q0, hargs, rfl, rfl, h0, r0⟩ := trodAll_cons hA
 obtain ⟨v1, vs1, d1, ds1, p1, q1, rfl, rfl, rfl, h1, r1⟩ := trodAll_cons r0
 obtain ⟨v2, vs2, d2, ds2, p2, q2, rfl, rfl, rfl, h2, r2⟩ := trodAll_cons r1
 obtain ⟨rfl, rfl, rfl⟩ := trodAll_nil r2
 obtain rfl : args = #[v0, v1, v2] := by cases args; simp_all
 obtain ⟨rfl, rfl⟩ := trodVars_none hV
 obtain ⟨l0, rw0, ok0, b0⟩ := open_rws (hval 0 22 v0 rfl rfl) h0 (sized_at hsz (j := 0) rfl rfl)
 obtain ⟨l1, rw1, ok1, b1⟩ := open_rws (hval 1 22 v1 rfl rfl) h1 (sized_at hsz (j := 1) rfl rfl)
 obtain ⟨a2, rfl, rfl, rfl, w2⟩ := open_int Tryz.underlying3 (hval 2 3 v2 rfl rfl) h2
 clear hA0 hval0 hsz0
 refine (walk v0 l0 v1 l1 a2 W hT rw0 ok0 b0 rw1 ok1 b1 (wf_i64 w2)).mono fun e W' ⟨he, bel⟩ => ?_
 subst he
 exact ⟨_, rfl, _, _, _, [], _, [], hW', trodAll_mk1 (shut_bool Tryz.underlying4 _), (trodAll_cons_mk (shut_rws h0 bel) (trodAll_cons_mk (shut_rws h1 bel) (trodAll_cons_mk (shut_int Tryz.underlying3 w2) trodAll_mk0))), rfl, Below.frame bel _, fun h => by cases h⟩
theorem closed : joinedFacts Tryz.prog 19 Tryz.f19 Rows.joinPartsSpec Rows.joinPartsRow = true := by
 unfold joinedFacts
 repeat' (with_reducible refine Bool.and_eq_true_iff.2 ⟨?_, ?_⟩)
 all_goals first
  | with_reducible exact HeadW.mayEnter
  | with_reducible exact laidOut
  | with_reducible exact HeadW.mapsRowed
  | with_reducible exact HeadW.stopsHeard
  | (rw [HeadW.liftsFinal]; as_aux_lemma => kernel_rfl)
  | (rw [HeadW.make]; as_aux_lemma => kernel_rfl)
  | (rw [HeadW.plainKeys]; as_aux_lemma => kernel_rfl)
  | as_aux_lemma => kernel_rfl
theorem over : Rows.joinPartsRow.holds Tryz.pinned (OpenSpec.ofChange Rows.joinPartsSpec) :=
 OpenClaim.holds_of_wide 19 Tryz.f19 rfl rfl rfl rfl rfl rfl rfl ⟨rfl, rfl, rfl, rfl, rfl⟩ rfl rfl rfl rfl rfl (by as_aux_lemma => kernel_rfl) Tryz.func19 closed
  (of_decide_eq_true (by as_aux_lemma => kernel_rfl)) (by unfold Func.isWrapper; first | (rw [if_pos (by decide +kernel)]; kernel_rfl) | (rw [if_neg (by decide +kernel)]; exact ⟨rfl, rfl⟩))
  (fun os started H enc _ => lifted os started H enc)
theorem card : Rows.JoinPartsCardSaid :=
 Claim7.holds_tied_plain_at .later [] [.data, .data, .data, .data, .data, .data, .pinned] true (true, "1ac927b6c31f7e9902634f50ce5f21d6511048fe18fc2768fe9f77e9756654d9") false
  over (fun _ h => by cases h) (by as_aux_lemma => kernel_rfl) (fun _ h => by cases h) joinParts_row_tie rfl ⟨rfl, rfl⟩ HeadW.main rfl
  (fun f fn hf hfn => by
   obtain rfl : f = 19 := Option.some.inj ((show Tryz.prog.funcNamed "starling/starlinglaw.JoinParts" = some 19 by as_aux_lemma => kernel_rfl).symm.trans hf) |>.symm
   obtain rfl : fn = Tryz.f19 := (Option.some.inj (Tryz.func19.symm.trans hfn)).symm
   exact ⟨HeadW.looks.symm, fun j t ht => by
    rw [Tryz.params19] at ht
    have hm : t ∈ [22, 22, 3] := by simpa using Array.mem_of_getElem? ht
    have hall : ([22, 22, 3].all fun u => !Tryz.prog.wantsStandIn u) = true := by as_aux_lemma => kernel_rfl
    exact (show Tryz.prog.wantsStandIn t = false by simpa using List.all_eq_true.1 hall t hm)⟩)
  (by as_aux_lemma => kernel_rfl)
end Go.Proofs.YtoepifbpchpfkaaGreatDoor.joinPartsProof
namespace Go.Proofs.YtoepifbpchpfkaaGreatDoor
theorem joinParts_holds : Rows.JoinPartsCardSaid := joinPartsProof.card
end Go.Proofs.YtoepifbpchpfkaaGreatDoor
