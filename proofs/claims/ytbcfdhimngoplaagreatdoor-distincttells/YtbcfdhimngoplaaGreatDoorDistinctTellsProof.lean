/-
  Proved: for every list of rows and two numbers DistinctTells answers true: Distinct and Limit answer just what the document says. No condition but the form's own reach.
-/
import Derived.Test.YtbcfdhimngoplaaGreatDoorGqG
import Derived.Test.YtbcfdhimngoplaaGreatDoorGqF
import Derived.Test.YtbcfdhimngoplaaGreatDoorBjB
import Derived.Test.YtbcfdhimngoplaaGreatDoorBpA
namespace Go.Proofs.YtbcfdhimngoplaaGreatDoor.distinctTellsProof
open Go.ChangeShapes Go.WideShapes Go.ChangeAt Go.RowKit
open Go.ChangeMaps (open_string shut_string)
set_option linter.unusedVariables false
set_option linter.unusedSimpArgs false
set_option maxRecDepth 100000
set_option maxHeartbeats 2000000
theorem walk (v0 : Value) (l0 : List (List VM.Vl)) (a1 : Int) (a2 : Int) (w : World) (hTt : Tt w) (rw0 : IsRR w v0 l0) (ok0 : ∀ y ∈ l0, y.length * 32 ≤ 140737488351232 ∧ ∀ z ∈ y, EV.gd z ∧ z.s.size ≤ 140737488351232) (b0 : l0.length * 24 ≤ 140737488351232) (w1 : -9223372036854775808 ≤ a1 ∧ a1 ≤ 9223372036854775807) (w2 : -9223372036854775808 ≤ a2 ∧ a2 ≤ 9223372036854775807) :
  Calls Tryz.prog 7 #[v0, .int .i64 a1, .int .i64 a2] w fun e w' => e = .returned (.bool true) ∧ Fr w w' := by
 have HBg := hideP (fun (W : World) (f : Fr w W) => bagBegun_any W (hTt.tn.fr f) (hTt.tb.fr f))
 have HR := hideP rw0
 have HOk := hideP (fun r (hr : r ∈ l0) => show r.length ≤ 9223372036854775806 by have := (ok0 r hr).1; omega)
 have HW := hideP (fun r (hr : r ∈ l0) x (hx : x ∈ r) => show LM.wide x from ⟨((ok0 r hr).2 x hx).1.1.1, ((ok0 r hr).2 x hx).1.1.2⟩)
 obtain ⟨A0, c0, rfl⟩ := rw0.slice
 have b0' : l0.length ≤ 9223372036854775806 := by omega
 have HB0 := hideP b0'
 clear rw0 ok0 b0
 obtain ⟨x, hx⟩ : ∃ x, BG.dst l0 = x := ⟨_, rfl⟩
 obtain ⟨y, hy⟩ : ∃ y, BG.lim l0 a1 a2 = y := ⟨_, rfl⟩
 have K1 := hideP (distinct_any _ l0 w HR.out HW.out b0' HOk.out)
 have K2 := hideP (fun W (f : Fr w W) => distinctOf_any _ l0 W (HR.out.fr f) b0' HOk.out)
 have K3 := hideP (fun W (f : Fr w W) => limit_any _ l0 a1 a2 W (HR.out.fr f) b0' HOk.out)
 have K4 := hideP (fun W (f : Fr w W) => limitOf_any _ l0 a1 a2 W (HR.out.fr f) b0' HOk.out)
 rw [hx] at K1 K2
 rw [hy] at K3 K4
 have HMx := hideP (show (∀ r ∈ outR x, r ∈ l0) ∧ (outR x).length ≤ l0.length by
  rw [← hx, BG.dst_dist]
  split
  · exact ⟨fun r hr => (by cases hr), Nat.zero_le _⟩
  · exact ⟨fun r hr => BG.dist_mem hr, BG.dist_len l0⟩)
 have HMy := hideP (show (∀ r ∈ outR y, r ∈ l0) ∧ (outR y).length ≤ l0.length by
  rw [← hy]
  unfold BG.lim
  split
  · exact ⟨fun r hr => (by cases hr), Nat.zero_le _⟩
  split
  · exact ⟨fun r hr => (by cases hr), Nat.zero_le _⟩
  ·
   refine ⟨fun r hr => List.mem_of_mem_drop (List.mem_of_mem_take hr), ?_⟩
   show (List.take _ (List.drop _ l0)).length ≤ _
   rw [List.length_take, List.length_drop]
   omega)
 obtain ⟨m, hm⟩ : ∃ y, outR x = y := ⟨_, rfl⟩
 obtain ⟨f, hf⟩ : ∃ y, erR x = y := ⟨_, rfl⟩
 obtain ⟨a, ha⟩ : ∃ z, outR y = z := ⟨_, rfl⟩
 obtain ⟨g, hg⟩ : ∃ z, erR y = z := ⟨_, rfl⟩
 rw [hm] at HMx
 rw [ha] at HMy
 obtain ⟨mn, hmn⟩ : ∃ y, m.length = y := ⟨_, rfl⟩
 obtain ⟨an, han⟩ : ∃ y, a.length = y := ⟨_, rfl⟩
 have Hm := hideP hm
 have Hf := hideP hf
 have Ha := hideP ha
 have Hg := hideP hg
 have HMn := hideP hmn
 have HAn := hideP han
 clear hx hy hm hf ha hg hmn han b0' w1 w2
 go_enter Tryz.func7, Tryz.ntmps7
 go_wp2_with fail
 refine K1.out.mono ?_
 rintro _ w1 ⟨hA, f1⟩
 obtain ⟨ma, mc, he, hO⟩ := ra_out hA
 clear hA
 subst he
 rw [Hm.out, HMn.out] at hO ⊢
 rw [Hf.out]
 have F1 := hideP f1
 have HO1 := hideP hO.rows
 clear f1 K1 hO
 go_wp2_with fail
 refine (K2.out w1 F1.out).mono ?_
 rintro _ w2 ⟨hA, f2⟩
 obtain ⟨na, nc, he, hO⟩ := da_out hA
 clear hA
 subst he
 rw [Hm.out, HMn.out] at hO ⊢
 rw [Hf.out]
 have F2 := hideP (F1.out.trans f2)
 have HO2 := hideP (hO.rows f2)
 replace HO1 := hideP (HO1.out.fr f2)
 clear f2 K2 hO
 go_wp2_with fail
 refine (K3.out w2 F2.out).mono ?_
 rintro _ w3 ⟨hA, f3⟩
 obtain ⟨aa, ac, he, hO⟩ := ra_out hA
 clear hA
 subst he
 rw [Ha.out, HAn.out] at hO ⊢
 rw [Hg.out]
 have F3 := hideP (F2.out.trans f3)
 have HO3 := hideP hO.rows
 replace HO1 := hideP (HO1.out.fr f3)
 replace HO2 := hideP (HO2.out.fr f3)
 clear f3 K3 hO
 go_wp2_with fail
 refine (K4.out w3 F3.out).mono ?_
 rintro _ w4 ⟨hA, f4⟩
 obtain ⟨ba, bc, he, hO⟩ := da_out hA
 clear hA
 subst he
 rw [Ha.out, HAn.out] at hO ⊢
 rw [Hg.out]
 have F4 := hideP (F3.out.trans f4)
 have HO4 := hideP (hO.rows f4)
 replace HO1 := hideP (HO1.out.fr f4)
 replace HO2 := hideP (HO2.out.fr f4)
 replace HO3 := hideP (HO3.out.fr f4)
 clear f4 K4 hO
 go_wp2_with fail
 refine (HBg.out _ F4.out).mono ?_
 rintro _ w5 ⟨rfl, f5⟩
 have F5 := hideP (F4.out.trans f5)
 replace HO1 := hideP (HO1.out.fr f5)
 replace HO2 := hideP (HO2.out.fr f5)
 replace HO3 := hideP (HO3.out.fr f5)
 replace HO4 := hideP (HO4.out.fr f5)
 clear f5
 go_wp2_with fail
 refine (sameRows_eq _ _ m w5 HO1.out HO2.out (by have := HMx.out.2; have := HB0.out; omega) (fun r hr => HOk.out r (HMx.out.1 r hr))).mono ?_
 rintro _ w6 ⟨rfl, f6⟩
 have F6 := hideP (F5.out.trans f6)
 replace HO3 := hideP (HO3.out.fr f6)
 replace HO4 := hideP (HO4.out.fr f6)
 clear f6
 go_wp2_with fail
 refine (sameRows_eq _ _ a w6 HO3.out HO4.out (by have := HMy.out.2; have := HB0.out; omega) (fun r hr => HOk.out r (HMy.out.1 r hr))).mono ?_
 rintro _ w7 ⟨rfl, f7⟩
 have F7 := hideP (F6.out.trans f7)
 clear f7
 go_wp2_with fail
 go_ret
 exact ⟨rfl, F7.out⟩

set_option maxRecDepth 100000 in
theorem lifted (os : Go.Os) (started : os.Started) (H : Type) (enc : TypeId × Value → H) :
  ReturnsInHanded {} Tryz.checked os 7 .any (fun w args => (Rows.distinctTellsSpec.pre enc Tryz.prog Tryz.f7 [] false w args ∧ laidMetH Tryz.prog Rows.distinctTellsRow.laid w) ∧ sizedMet enc Tryz.prog Tryz.f7 (OpenSpec.ofChange Rows.distinctTellsSpec) false w args)
   (Rows.distinctTellsSpec.post enc Tryz.prog Tryz.f7 false true false false) := by
 refine returnsInHanded_of_change_and (C := Tryz.checked) (X := fun w _ => laidMetH Tryz.prog Rows.distinctTellsRow.laid w) (fun _ _ _ hh h => h.of_heap hh) own started (by kernel_rfl) Tryz.func7
  (ChangeSpec.witness_shaped (enc := enc) (C := Tryz.checked) (os := os) (X := fun w _ => laidMetH Tryz.prog Rows.distinctTellsRow.laid w) false (World.laidAll Tryz.prog os Rows.distinctTellsRow.laid) #[.slice none 0 0, .int .i64 0, .int .i64 0] 8 (World.laidAll_os _ _ _)
   (World.shaped_of_ZipB (by kernel_rfl) (by kernel_rfl)) (by kernel_rfl) (by kernel_rfl) (by kernel_rfl)
   (by rw [MakeChecks.laidMetH_plain _ _ _ (by kernel_rfl)]; exact laidMet_laidAll _ (by kernel_rfl) (by kernel_rfl))) ?_
 intro W base args ds gs before hval0 hW hcnd hsz0 hL _
 have hT : Tt W := tabs_of_laid hL
 have hval : ∀ (j : Nat) t v, Tryz.f7.params[j]? = some t → args[j]? = some v → Value.okWide Tryz.prog W .any base t v := hval0
 have hsz : (DataW.weightsEach Tryz.prog (Tryz.f7.params.toList ++ Rows.distinctTellsSpec.plain.varTypes Tryz.prog) (ds ++ gs)).all (· ≤ reachBytes) = true := hsz0
 have hW' := hW
 obtain ⟨p, q, hA0, hV, rfl, hfz, hnd⟩ := hW
 have hA : DataW.TrodAll enc Tryz.prog W 0 (fun _ => true) true Tryz.f7.params.toList args.toList ds p := hA0
 rw [Tryz.params7] at hA hval hsz
 obtain ⟨v0, vs0, d0, ds0, p0, q0, hargs, rfl, rfl, h0, r0⟩ := trodAll_cons hA
 obtain ⟨v1, vs1, d1, ds1, p1, q1, rfl, rfl, rfl, h1, r1⟩ := trodAll_cons r0
 obtain ⟨v2, vs2, d2, ds2, p2, q2, rfl, rfl, rfl, h2, r2⟩ := trodAll_cons r1
 obtain ⟨rfl, rfl, rfl⟩ := trodAll_nil r2
 obtain rfl : args = #[v0, v1, v2] := by cases args; simp_all
 obtain ⟨rfl, rfl⟩ := trodVars_none hV
 obtain ⟨l0, rw0, ok0, b0⟩ := open_rws (hval 0 22 v0 rfl rfl) h0 (sized_at hsz (j := 0) rfl rfl)
 obtain ⟨a1, rfl, rfl, rfl, w1⟩ := open_int Tryz.underlying3 (hval 1 3 v1 rfl rfl) h1
 obtain ⟨a2, rfl, rfl, rfl, w2⟩ := open_int Tryz.underlying3 (hval 2 3 v2 rfl rfl) h2
 clear hA0 hval0 hsz0
 refine (walk v0 l0 a1 a2 W hT rw0 ok0 b0 (wf_i64 w1) (wf_i64 w2)).mono fun e W' ⟨he, bel⟩ => ?_
 subst he
 exact ⟨_, rfl, _, _, _, [], _, [], hW', trodAll_mk1 (shut_bool Tryz.underlying4 _), (trodAll_cons_mk (shut_rws h0 bel) (trodAll_cons_mk (shut_int Tryz.underlying3 w1) (trodAll_cons_mk (shut_int Tryz.underlying3 w2) trodAll_mk0))), rfl, Below.frame bel _, fun h => by cases h⟩
theorem closed : joinedFacts Tryz.prog 7 Tryz.f7 Rows.distinctTellsSpec Rows.distinctTellsRow = true := by
 unfold joinedFacts
 repeat' (with_reducible refine Bool.and_eq_true_iff.2 ⟨?_, ?_⟩)
 all_goals first
  | with_reducible exact HeadW.mayEnter
  | with_reducible exact laidOut
  | with_reducible exact HeadW.mapsRowed
  | with_reducible exact HeadW.stopsHeard
  | (rw [HeadW.liftsFinal]; as_aux_lemma => kernel_rfl)
  | (rw [HeadW.make]; as_aux_lemma => kernel_rfl)
  | (rw [HeadW.plainKeys]; as_aux_lemma => kernel_rfl)
  | as_aux_lemma => kernel_rfl
theorem over : Rows.distinctTellsRow.holds Tryz.pinned (OpenSpec.ofChange Rows.distinctTellsSpec) :=
 OpenClaim.holds_of_wide 7 Tryz.f7 rfl rfl rfl rfl rfl rfl rfl ⟨rfl, rfl, rfl, rfl, rfl⟩ rfl rfl rfl rfl rfl (by as_aux_lemma => kernel_rfl) Tryz.func7 closed
  (of_decide_eq_true (by as_aux_lemma => kernel_rfl)) (by unfold Func.isWrapper; first | (rw [if_pos (by decide +kernel)]; kernel_rfl) | (rw [if_neg (by decide +kernel)]; exact ⟨rfl, rfl⟩))
  (fun os started H enc _ => lifted os started H enc)
theorem card : Rows.DistinctTellsCardSaid :=
 Claim7.holds_tied_plain_at .later [] [.data, .data, .data, .data, .data, .data, .pinned] true (true, "591cd41afe7b4b4e67348e953bda9d0a59dcbbd26f32dd65a3fcd8801666d624") false
  over (fun _ h => by cases h) (by as_aux_lemma => kernel_rfl) (fun _ h => by cases h) distinctTells_row_tie rfl ⟨rfl, rfl⟩ HeadW.main rfl
  (fun f fn hf hfn => by
   obtain rfl : f = 7 := Option.some.inj ((show Tryz.prog.funcNamed "starling/starlinglaw.DistinctTells" = some 7 by as_aux_lemma => kernel_rfl).symm.trans hf) |>.symm
   obtain rfl : fn = Tryz.f7 := (Option.some.inj (Tryz.func7.symm.trans hfn)).symm
   exact ⟨HeadW.looks.symm, fun j t ht => by
    rw [Tryz.params7] at ht
    have hm : t ∈ [22, 3, 3] := by simpa using Array.mem_of_getElem? ht
    have hall : ([22, 3, 3].all fun u => !Tryz.prog.wantsStandIn u) = true := by as_aux_lemma => kernel_rfl
    exact (show Tryz.prog.wantsStandIn t = false by simpa using List.all_eq_true.1 hall t hm)⟩)
  (by as_aux_lemma => kernel_rfl)
end Go.Proofs.YtbcfdhimngoplaaGreatDoor.distinctTellsProof
namespace Go.Proofs.YtbcfdhimngoplaaGreatDoor
theorem distinctTells_holds : Rows.DistinctTellsCardSaid := distinctTellsProof.card
end Go.Proofs.YtbcfdhimngoplaaGreatDoor
