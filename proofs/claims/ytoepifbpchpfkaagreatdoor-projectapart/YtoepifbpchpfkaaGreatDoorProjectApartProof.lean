/-
  Proved: for every list of rows, place, columns and list of expressions ProjectApart answers true: each row becomes one row, whatever the others are. No condition but the form's own reach.
-/
import Derived.Test.YtoepifbpchpfkaaGreatDoorGqG
import Derived.Test.YtoepifbpchpfkaaGreatDoorGqF
import Derived.Test.YtoepifbpchpfkaaGreatDoorBjB
namespace Go.Proofs.YtoepifbpchpfkaaGreatDoor.projectApartProof
open Go.ChangeShapes Go.WideShapes Go.ChangeAt Go.RowKit
open Go.ChangeMaps (open_string shut_string)
set_option linter.unusedVariables false
set_option linter.unusedSimpArgs false
set_option maxRecDepth 100000
set_option maxHeartbeats 2000000
theorem mp_mem {α β : Type} {f : α → Except Nat β} : ∀ {l : List α} {m : List β}, BG.mp f l = .ok m → ∀ y ∈ m, ∃ x ∈ l, f x = .ok y
 | [], m, h, y, hy => by cases h; cases hy
 | a :: t, m, h, y, hy => by
  unfold BG.mp at h
  cases ha : f a with
  | error c => rw [ha] at h; cases h
  | ok b =>
   rw [ha] at h
   cases ht : BG.mp f t with
   | error c => simp only [ht] at h; cases h
   | ok n =>
    simp only [ht] at h
    cases h
    rcases List.mem_cons.1 hy with rfl | hy
    · exact ⟨a, List.mem_cons_self .., ha⟩
    ·
     obtain ⟨x, hx, e⟩ := mp_mem ht y hy
     exact ⟨x, List.mem_cons_of_mem _ hx, e⟩
theorem prj_rows {ls m : List (List VM.Vl)} {cs : List ByteArray} {es : List (List EX.Nd)} (h : BG.prj ls cs es = .ok m) : ls.length ≤ 40 ∧ ∀ r ∈ m, r.length ≤ 9223372036854775806 := by
 unfold BG.prj at h
 split at h
 · cases h
 rename_i h1
 split at h
 · cases h
 rename_i h2
 split at h
 · cases h
 refine ⟨(BG.chk_all (by omega)).1, fun r hr => ?_⟩
 obtain ⟨x, _, e⟩ := mp_mem h r hr
 have := BG.mp_len e
 omega
theorem walk (v0 : Value) (l0 : List (List VM.Vl)) (a1 : Int) (v2 : Value) (l2 : List ByteArray) (v3 : Value) (l3 : List (List EX.Nd)) (w : World) (hTt : Tt w) (rw0 : IsRR w v0 l0) (ok0 : ∀ y ∈ l0, y.length * 32 ≤ 140737488351232 ∧ ∀ z ∈ y, EV.gd z ∧ z.s.size ≤ 140737488351232) (b0 : l0.length * 24 ≤ 140737488351232) (w1 : -9223372036854775808 ≤ a1 ∧ a1 ≤ 9223372036854775807) (rw2 : IsL cdB w v2 l2) (ok2 : ∀ y ∈ l2, y.size ≤ 140737488351232) (b2 : l2.length * 16 ≤ 140737488351232) (rw3 : IsEE w v3 l3) (ok3 : ∀ y ∈ l3, y.length * 64 ≤ 140737488351232 ∧ ∀ z ∈ y, EV.okN z ∧ (-9223372036854775808 ≤ z.op ∧ z.op ≤ 9223372036854775807) ∧ (-9223372036854775808 ≤ z.kids ∧ z.kids ≤ 9223372036854775807)) (b3 : l3.length * 24 ≤ 140737488351232) :
  Calls Tryz.prog 8 #[v0, .int .i64 a1, v2, v3] w fun e w' => e = .returned (.bool true) ∧ Fr w w' := by
 have HBg := hideP (fun (W : World) (f : Fr w W) => bagBegun_any W (hTt.tn.fr f) (hTt.tb.fr f))
 have HF := hideP (fun (W : World) (v : Value) (ls : List (List VM.Vl)) (f : Fr w W) (h : IsRR W v ls) (hs : ∀ r ∈ ls, r ∈ l0) (hn : ls.length ≤ l0.length) => project_any v _ _ ls l2 l3 W h (rw2.fr f) (rw3.fr f) (fun e he n hn => ((ok3 e he).2 n hn).1.1) (fun e he => by have := (ok3 e he).1; omega) (fun c hc => by have := ok2 c hc; omega) (hTt.tn.fr f) (hTt.tb.fr f) (fun e he n hn => ((ok3 e he).2 n hn).1.2) (fun r hr x hx => ((ok0 r (hs r hr)).2 x hx).1) (by omega) (fun r hr => by have := (ok0 r (hs r hr)).1; omega) (by omega))
 have HR := hideP rw0
 obtain ⟨A0, c0, rfl⟩ := rw0.slice
 have hcc : l0.length ≤ c0 := by obtain ⟨_, _, _, hc, _⟩ := rw0.at; exact hc
 obtain ⟨A2, c2, rfl, _⟩ := rw2
 obtain ⟨A3, c3, rfl⟩ := rw3.slice
 clear rw0 rw3 ok0 b0 ok2 b2 ok3 b3
 cases hx : BG.prj l0 l2 l3 with
 | error c =>
  have hne := BG.prj_ne hx
  have k1 := HF.out w _ l0 (Fr.refl _) HR.out (fun r h => h) (Nat.le_refl _)
  rw [hx] at k1
  have K1 := hideP k1
  have hc1 : ((c : Int) != 0) = true := by simp; omega
  have hc2 : ((c : Int) == 0) = false := by simp; omega
  clear k1 hx
  go_enter Tryz.func8, Tryz.ntmps8
  go_wp2_with fail
  refine K1.out.mono ?_
  rintro _ w1 ⟨rfl, f1⟩
  have F1 := hideP f1
  clear f1 K1
  go_wp2_with fail
  refine (HBg.out _ F1.out).mono ?_
  rintro _ w2 ⟨rfl, f2⟩
  have F2 := hideP (F1.out.trans f2)
  clear f2
  go_wp2_with fail
  go_ret
  exact ⟨rfl, F2.out⟩
 | ok m =>
  have k1 := HF.out w _ l0 (Fr.refl _) HR.out (fun r h => h) (Nat.le_refl _)
  rw [hx] at k1
  have K1 := hideP k1
  have HX := hideP hx
  clear k1 hx
  by_cases hk : a1 < 0 ∨ (l0.length : Int) < a1
  ·
   by_cases hk0 : a1 < 0
   ·
    go_enter Tryz.func8, Tryz.ntmps8
    go_wp2_with fail
    refine K1.out.mono ?_
    rintro _ w1 ⟨⟨u, rfl, hO⟩, f1⟩
    obtain ⟨ua, uc, rfl⟩ := hO.slice
    have F1 := hideP f1
    clear f1 K1 hO
    go_wp2_with fail
    refine (HBg.out _ F1.out).mono ?_
    rintro _ w2 ⟨rfl, f2⟩
    have F2 := hideP (F1.out.trans f2)
    clear f2
    go_wp2_with fail
    go_ret
    exact ⟨rfl, F2.out⟩
   ·
    have hk1 : (l0.length : Int) < a1 := by omega
    clear hk
    go_enter Tryz.func8, Tryz.ntmps8
    go_wp2_with fail
    refine K1.out.mono ?_
    rintro _ w1 ⟨⟨u, rfl, hO⟩, f1⟩
    obtain ⟨ua, uc, rfl⟩ := hO.slice
    have F1 := hideP f1
    clear f1 K1 hO
    go_wp2_with fail
    refine (HBg.out _ F1.out).mono ?_
    rintro _ w2 ⟨rfl, f2⟩
    have F2 := hideP (F1.out.trans f2)
    clear f2
    go_wp2_with fail
    go_ret
    exact ⟨rfl, F2.out⟩
  ·
   obtain ⟨K, rfl⟩ : ∃ K : Nat, a1 = (K : Int) := ⟨a1.toNat, by omega⟩
   have hK : K ≤ l0.length := by omega
   have hk1 : ¬ ((K : Int) < 0) := by omega
   have hk2 : ¬ ((l0.length : Int) < (K : Int)) := by omega
   have hk3 : (K : Int) ≤ (c0 : Int) := by omega
   have hk4 : (K : Int) ≤ (l0.length : Int) := by omega
   obtain ⟨hml, x, y, hx1, hx2, hm, hxl⟩ := BG.prj_parts HX.out K
   have HX1 := hideP hx1
   have HX2 := hideP hx2
   have HM := hideP hm
   have hxl2 : x.length = K := by rw [hxl, List.length_take]; omega
   have q1 : ((m.length : Int) == (l0.length : Int)) = true := by simp; omega
   have q2 : ((x.length : Int) == (K : Int)) = true := by simp; omega
   have hq1 : (m.length : Int) = (l0.length : Int) := by omega
   have hq2 : (x.length : Int) = (K : Int) := by omega
   clear hx1 hx2 hm
   have HKn := hideP hK
   have h40 : l0.length ≤ 40 ∧ ∀ r ∈ m, r.length ≤ 9223372036854775806 := prj_rows HX.out
   have HSz := hideP (show (x.length + y.length) * 24 ≤ 140737488355328 by have e := congrArg List.length HM.out; rw [List.length_append] at e; omega)
   have HLm := hideP (show m.length ≤ 9223372036854775806 by omega)
   have HRm := hideP h40.2
   clear h40 hml hxl hxl2
   have HCc := hideP hcc
   clear hk w1 hK hcc
   go_enter Tryz.func8, Tryz.ntmps8
   go_wp2_with fail
   refine K1.out.mono ?_
   rintro _ w1 ⟨⟨u, rfl, hO⟩, f1⟩
   obtain ⟨ua, uc, rfl⟩ := hO.slice
   have F1 := hideP f1
   have HO := hideP hO.rows
   clear f1 K1 hO
   go_wp2_with fail
   refine (HBg.out _ F1.out).mono ?_
   rintro _ w2 ⟨rfl, f2⟩
   have F2 := hideP (F1.out.trans f2)
   replace HO := hideP (HO.out.fr f2)
   clear f2
   go_wp2_with fail
   have k2 := HF.out w2 _ (l0.take K) F2.out (isRR_head (HR.out.fr F2.out) K HKn.out) (fun r h => List.mem_of_mem_take h) (by rw [List.length_take]; omega)
   rw [HX1.out] at k2
   refine k2.mono ?_
   clear k2
   rintro _ w3 ⟨⟨u, rfl, hP⟩, f3⟩
   obtain ⟨xa, xc, rfl⟩ := hP.slice
   have F3 := hideP (F2.out.trans f3)
   have HP := hideP hP.rows
   replace HO := hideP (HO.out.fr f3)
   clear f3 hP
   go_wp2_with fail
   ·
    have hck : c0 = K := by assumption
    have k3 := HF.out w3 (.slice A0 (l0.length - K) (c0 - K)) (l0.drop K) F3.out (isRR_back (HR.out.fr F3.out) K HKn.out A0 (fun b o e => .inl (by have := HCc.out; have := HKn.out; omega))) (fun r h => List.mem_of_mem_drop h) (by rw [List.length_drop]; omega)
    rw [HX2.out] at k3
    rw [show c0 - K = 0 by omega] at k3
    refine k3.mono ?_
    clear k3
    rintro _ w4 ⟨⟨u, rfl, hQ⟩, f4⟩
    obtain ⟨ya, yc, rfl⟩ := hQ.slice
    have F4 := hideP (F3.out.trans f4)
    have HQ := hideP hQ.rows
    replace HO := hideP (HO.out.fr f4)
    replace HP := hideP (HP.out.fr f4)
    clear f4 hQ
    go_wp2_with fail
    refine (together_any _ _ x y w4 HP.out HQ.out HSz.out).mono ?_
    rintro _ w5 ⟨⟨u, rfl, hT⟩, f5⟩
    rw [← HM.out] at hT
    obtain ⟨ta, tc, rfl⟩ := hT.slice
    have F5 := hideP (F4.out.trans f5)
    have HT := hideP hT
    replace HO := hideP (HO.out.fr f5)
    clear f5 hT
    go_wp2_with fail
    refine (sameRows_eq _ _ m w5 HO.out HT.out HLm.out HRm.out).mono ?_
    rintro _ w6 ⟨rfl, f6⟩
    have F6 := hideP (F5.out.trans f6)
    clear f6
    go_wp2_with fail
    go_ret
    exact ⟨rfl, F6.out⟩
   ·
    have k3 := HF.out w3 (.slice (Option.map (fun x => x.add K) A0) (l0.length - K) (c0 - K)) (l0.drop K) F3.out (isRR_back (HR.out.fr F3.out) K HKn.out (Option.map (fun x => x.add K) A0) (fun b o e => .inr (by rw [e]; simp [Addr.add_lit]))) (fun r h => List.mem_of_mem_drop h) (by rw [List.length_drop]; omega)
    rw [HX2.out] at k3
    refine k3.mono ?_
    clear k3
    rintro _ w4 ⟨⟨u, rfl, hQ⟩, f4⟩
    obtain ⟨ya, yc, rfl⟩ := hQ.slice
    have F4 := hideP (F3.out.trans f4)
    have HQ := hideP hQ.rows
    replace HO := hideP (HO.out.fr f4)
    replace HP := hideP (HP.out.fr f4)
    clear f4 hQ
    go_wp2_with fail
    refine (together_any _ _ x y w4 HP.out HQ.out HSz.out).mono ?_
    rintro _ w5 ⟨⟨u, rfl, hT⟩, f5⟩
    rw [← HM.out] at hT
    obtain ⟨ta, tc, rfl⟩ := hT.slice
    have F5 := hideP (F4.out.trans f5)
    have HT := hideP hT
    replace HO := hideP (HO.out.fr f5)
    clear f5 hT
    go_wp2_with fail
    refine (sameRows_eq _ _ m w5 HO.out HT.out HLm.out HRm.out).mono ?_
    rintro _ w6 ⟨rfl, f6⟩
    have F6 := hideP (F5.out.trans f6)
    clear f6
    go_wp2_with fail
    go_ret
    exact ⟨rfl, F6.out⟩

set_option maxRecDepth 100000 in
theorem lifted (os : Go.Os) (started : os.Started) (H : Type) (enc : TypeId × Value → H) :
  ReturnsInHanded {} Tryz.checked os 8 .any (fun w args => (Rows.projectApartSpec.pre enc Tryz.prog Tryz.f8 [] false w args ∧ laidMetH Tryz.prog Rows.projectApartRow.laid w) ∧ sizedMet enc Tryz.prog Tryz.f8 (OpenSpec.ofChange Rows.projectApartSpec) false w args)
   (Rows.projectApartSpec.post enc Tryz.prog Tryz.f8 false true false false) := by
 refine returnsInHanded_of_change_and (C := Tryz.checked) (X := fun w _ => laidMetH Tryz.prog Rows.projectApartRow.laid w) (fun _ _ _ hh h => h.of_heap hh) own started (by kernel_rfl) Tryz.func8
  (ChangeSpec.witness_shaped (enc := enc) (C := Tryz.checked) (os := os) (X := fun w _ => laidMetH Tryz.prog Rows.projectApartRow.laid w) false (World.laidAll Tryz.prog os Rows.projectApartRow.laid) #[.slice none 0 0, .int .i64 0, .slice none 0 0, .slice none 0 0] 8 (World.laidAll_os _ _ _)
   (World.shaped_of_ZipB (by kernel_rfl) (by kernel_rfl)) (by kernel_rfl) (by kernel_rfl) (by kernel_rfl)
   (by rw [MakeChecks.laidMetH_plain _ _ _ (by kernel_rfl)]; exact laidMet_laidAll _ (by kernel_rfl) (by kernel_rfl))) ?_
 intro W base args ds gs before hval0 hW hcnd hsz0 hL _
 have hT : Tt W := tabs_of_laid hL
 have hval : ∀ (j : Nat) t v, Tryz.f8.params[j]? = some t → args[j]? = some v → Value.okWide Tryz.prog W .any base t v := hval0
 have hsz : (DataW.weightsEach Tryz.prog (Tryz.f8.params.toList ++ Rows.projectApartSpec.plain.varTypes Tryz.prog) (ds ++ gs)).all (· ≤ reachBytes) = true := hsz0
 have hW' := hW
 obtain ⟨p, q, hA0, hV, rfl, hfz, hnd⟩ := hW
 have hA : DataW.TrodAll enc Tryz.prog W 0 (fun _ => true) true Tryz.f8.params.toList args.toList ds p := hA0
 rw [Tryz.params8] at hA hval hsz
 obtain ⟨v0, vs0, d0, ds0, p0, q0, hargs, rfl, rfl, h0, r0⟩ := trodAll_cons hA
 obtain ⟨v1, vs1, d1, ds1, p1, q1, rfl, rfl, rfl, h1, r1⟩ := trodAll_cons r0
 obtain ⟨v2, vs2, d2, ds2, p2, q2, rfl, rfl, rfl, h2, r2⟩ := trodAll_cons r1
 obtain ⟨v3, vs3, d3, ds3, p3, q3, rfl, rfl, rfl, h3, r3⟩ := trodAll_cons r2
 obtain ⟨rfl, rfl, rfl⟩ := trodAll_nil r3
 obtain rfl : args = #[v0, v1, v2, v3] := by cases args; simp_all
 obtain ⟨rfl, rfl⟩ := trodVars_none hV
 obtain ⟨l0, rw0, ok0, b0⟩ := open_rws (hval 0 22 v0 rfl rfl) h0 (sized_at hsz (j := 0) rfl rfl)
 obtain ⟨a1, rfl, rfl, rfl, w1⟩ := open_int Tryz.underlying3 (hval 1 3 v1 rfl rfl) h1
 obtain ⟨l2, rw2, ok2, b2⟩ := open_cls (hval 2 23 v2 rfl rfl) h2 (sized_at hsz (j := 2) rfl rfl)
 obtain ⟨l3, rw3, ok3, b3⟩ := open_nls (hval 3 41 v3 rfl rfl) h3 (sized_at hsz (j := 3) rfl rfl)
 clear hA0 hval0 hsz0
 refine (walk v0 l0 a1 v2 l2 v3 l3 W hT rw0 ok0 b0 (wf_i64 w1) rw2 ok2 b2 rw3 ok3 b3).mono fun e W' ⟨he, bel⟩ => ?_
 subst he
 exact ⟨_, rfl, _, _, _, [], _, [], hW', trodAll_mk1 (shut_bool Tryz.underlying4 _), (trodAll_cons_mk (shut_rws h0 bel) (trodAll_cons_mk (shut_int Tryz.underlying3 w1) (trodAll_cons_mk (shut_cls h2 bel) (trodAll_cons_mk (shut_nls h3 bel) trodAll_mk0)))), rfl, Below.frame bel _, fun h => by cases h⟩
theorem closed : joinedFacts Tryz.prog 8 Tryz.f8 Rows.projectApartSpec Rows.projectApartRow = true := by
 unfold joinedFacts
 repeat' (with_reducible refine Bool.and_eq_true_iff.2 ⟨?_, ?_⟩)
 all_goals first
  | with_reducible exact HeadW.mayEnter
  | with_reducible exact laidOut
  | with_reducible exact HeadW.mapsRowed
  | with_reducible exact HeadW.stopsHeard
  | (rw [HeadW.liftsFinal]; as_aux_lemma => kernel_rfl)
  | (rw [HeadW.make]; as_aux_lemma => kernel_rfl)
  | (rw [HeadW.plainKeys]; as_aux_lemma => kernel_rfl)
  | as_aux_lemma => kernel_rfl
theorem over : Rows.projectApartRow.holds Tryz.pinned (OpenSpec.ofChange Rows.projectApartSpec) :=
 OpenClaim.holds_of_wide 8 Tryz.f8 rfl rfl rfl rfl rfl rfl rfl ⟨rfl, rfl, rfl, rfl, rfl⟩ rfl rfl rfl rfl rfl (by as_aux_lemma => kernel_rfl) Tryz.func8 closed
  (of_decide_eq_true (by as_aux_lemma => kernel_rfl)) (by unfold Func.isWrapper; first | (rw [if_pos (by decide +kernel)]; kernel_rfl) | (rw [if_neg (by decide +kernel)]; exact ⟨rfl, rfl⟩))
  (fun os started H enc _ => lifted os started H enc)
theorem card : Rows.ProjectApartCardSaid :=
 Claim7.holds_tied_plain_at .later [] [.data, .data, .data, .data, .data, .data, .pinned] true (true, "1ac927b6c31f7e9902634f50ce5f21d6511048fe18fc2768fe9f77e9756654d9") false
  over (fun _ h => by cases h) (by as_aux_lemma => kernel_rfl) (fun _ h => by cases h) projectApart_row_tie rfl ⟨rfl, rfl⟩ HeadW.main rfl
  (fun f fn hf hfn => by
   obtain rfl : f = 8 := Option.some.inj ((show Tryz.prog.funcNamed "starling/starlinglaw.ProjectApart" = some 8 by as_aux_lemma => kernel_rfl).symm.trans hf) |>.symm
   obtain rfl : fn = Tryz.f8 := (Option.some.inj (Tryz.func8.symm.trans hfn)).symm
   exact ⟨HeadW.looks.symm, fun j t ht => by
    rw [Tryz.params8] at ht
    have hm : t ∈ [22, 3, 23, 41] := by simpa using Array.mem_of_getElem? ht
    have hall : ([22, 3, 23, 41].all fun u => !Tryz.prog.wantsStandIn u) = true := by as_aux_lemma => kernel_rfl
    exact (show Tryz.prog.wantsStandIn t = false by simpa using List.all_eq_true.1 hall t hm)⟩)
  (by as_aux_lemma => kernel_rfl)
end Go.Proofs.YtoepifbpchpfkaaGreatDoor.projectApartProof
namespace Go.Proofs.YtoepifbpchpfkaaGreatDoor
theorem projectApart_holds : Rows.ProjectApartCardSaid := projectApartProof.card
end Go.Proofs.YtoepifbpchpfkaaGreatDoor
