/-
  Proved: for all two lists of rows JoinTells answers true: Join answers just what the document says. No condition but the form's own reach.
-/
import Derived.Test.YtbcfdhimngoplaaGreatDoorGqG
import Derived.Test.YtbcfdhimngoplaaGreatDoorGqF
import Derived.Test.YtbcfdhimngoplaaGreatDoorBjB
import Derived.Test.YtbcfdhimngoplaaGreatDoorBpJ
namespace Go.Proofs.YtbcfdhimngoplaaGreatDoor.joinTellsProof
open Go.ChangeShapes Go.WideShapes Go.ChangeAt Go.RowKit
open Go.ChangeMaps (open_string shut_string)
set_option linter.unusedVariables false
set_option linter.unusedSimpArgs false
set_option maxRecDepth 100000
set_option maxHeartbeats 2000000
theorem walk (v0 : Value) (l0 : List (List VM.Vl)) (v1 : Value) (l1 : List (List VM.Vl)) (w : World) (hTt : Tt w) (rw0 : IsRR w v0 l0) (ok0 : ∀ y ∈ l0, y.length * 32 ≤ 140737488351232 ∧ ∀ z ∈ y, EV.gd z ∧ z.s.size ≤ 140737488351232) (b0 : l0.length * 24 ≤ 140737488351232) (rw1 : IsRR w v1 l1) (ok1 : ∀ y ∈ l1, y.length * 32 ≤ 140737488351232 ∧ ∀ z ∈ y, EV.gd z ∧ z.s.size ≤ 140737488351232) (b1 : l1.length * 24 ≤ 140737488351232) :
  Calls Tryz.prog 8 #[v0, v1] w fun e w' => e = .returned (.bool true) ∧ Fr w w' := by
 have HBg := hideP (fun (W : World) (f : Fr w W) => bagBegun_any W (hTt.tn.fr f) (hTt.tb.fr f))
 have HR := hideP rw0
 have HS := hideP rw1
 have HOk := hideP (fun r (hr : r ∈ l0) => show r.length ≤ 9223372036854775806 by have := (ok0 r hr).1; omega)
 have HOk1 := hideP (fun r (hr : r ∈ l1) => show r.length ≤ 9223372036854775806 by have := (ok1 r hr).1; omega)
 obtain ⟨A0, c0, rfl⟩ := rw0.slice
 obtain ⟨A1, c1, rfl⟩ := rw1.slice
 have b0' : l0.length ≤ 9223372036854775806 := by omega
 have b1' : l1.length ≤ 9223372036854775806 := by omega
 clear rw0 ok0 b0 rw1 ok1 b1
 obtain ⟨x, hx⟩ : ∃ x, BG.jn l0 l1 = x := ⟨_, rfl⟩
 have K1 := hideP (join_any _ _ l0 l1 w HR.out HS.out b0' HOk.out b1' HOk1.out)
 have K2 := hideP (fun W (f : Fr w W) => joinOf_any _ _ l0 l1 W (HR.out.fr f) (HS.out.fr f) b0' HOk.out b1' HOk1.out)
 rw [hx] at K1 K2
 have HMx := hideP (show (∀ r ∈ outR x, r.length ≤ 9223372036854775806) ∧ (outR x).length ≤ 9223372036854775806 by
  rw [← hx]
  cases hj : BG.jn l0 l1 with
  | error c => exact ⟨fun r hr => (by cases hr), by show 0 ≤ _; omega⟩
  | ok m =>
   obtain ⟨h0, h1, ⟨h8, h40⟩, rfl⟩ := BG.jn_iff.1 hj
   refine ⟨fun r hr => ?_, ?_⟩
   ·
    obtain ⟨y, hy, z, hz, rfl⟩ := BG.join_mem hr
    have q1 := ((BG.chk_all h0).2 y hy).1
    have q2 := ((BG.chk_all h1).2 z hz).1
    rw [List.length_append]
    omega
   ·
    show (BM.join l0 l1).length ≤ _
    rw [BG.join_len]
    omega)
 obtain ⟨m, hm⟩ : ∃ y, outR x = y := ⟨_, rfl⟩
 obtain ⟨f, hf⟩ : ∃ y, erR x = y := ⟨_, rfl⟩
 rw [hm] at HMx
 obtain ⟨mn, hmn⟩ : ∃ y, m.length = y := ⟨_, rfl⟩
 have Hm := hideP hm
 have Hf := hideP hf
 have HMn := hideP hmn
 clear hx hm hf hmn b0' b1'
 go_enter Tryz.func8, Tryz.ntmps8
 go_wp2_with fail
 refine K1.out.mono ?_
 rintro _ w1 ⟨hA, f1⟩
 obtain ⟨ma, mc, he, hO⟩ := ra_out hA
 clear hA
 subst he
 rw [Hm.out, HMn.out] at hO ⊢
 rw [Hf.out]
 have F1 := hideP f1
 have HO1 := hideP hO.rows
 clear f1 K1 hO
 go_wp2_with fail
 refine (K2.out w1 F1.out).mono ?_
 rintro _ w2 ⟨hA, f2⟩
 obtain ⟨na, nc, he, hO⟩ := ra_out hA
 clear hA
 subst he
 rw [Hm.out, HMn.out] at hO ⊢
 rw [Hf.out]
 have F2 := hideP (F1.out.trans f2)
 have HO2 := hideP (hO.rows)
 replace HO1 := hideP (HO1.out.fr f2)
 clear f2 K2 hO
 go_wp2_with fail
 refine (HBg.out _ F2.out).mono ?_
 rintro _ w5 ⟨rfl, f5⟩
 have F5 := hideP (F2.out.trans f5)
 replace HO1 := hideP (HO1.out.fr f5)
 replace HO2 := hideP (HO2.out.fr f5)
 clear f5
 go_wp2_with fail
 refine (sameRows_eq _ _ m w5 HO1.out HO2.out HMx.out.2 HMx.out.1).mono ?_
 rintro _ w6 ⟨rfl, f6⟩
 have F6 := hideP (F5.out.trans f6)
 clear f6
 go_wp2_with fail
 go_ret
 exact ⟨rfl, F6.out⟩

set_option maxRecDepth 100000 in
theorem lifted (os : Go.Os) (started : os.Started) (H : Type) (enc : TypeId × Value → H) :
  ReturnsInHanded {} Tryz.checked os 8 .any (fun w args => (Rows.joinTellsSpec.pre enc Tryz.prog Tryz.f8 [] false w args ∧ laidMetH Tryz.prog Rows.joinTellsRow.laid w) ∧ sizedMet enc Tryz.prog Tryz.f8 (OpenSpec.ofChange Rows.joinTellsSpec) false w args)
   (Rows.joinTellsSpec.post enc Tryz.prog Tryz.f8 false true false false) := by
 refine returnsInHanded_of_change_and (C := Tryz.checked) (X := fun w _ => laidMetH Tryz.prog Rows.joinTellsRow.laid w) (fun _ _ _ hh h => h.of_heap hh) own started (by kernel_rfl) Tryz.func8
  (ChangeSpec.witness_shaped (enc := enc) (C := Tryz.checked) (os := os) (X := fun w _ => laidMetH Tryz.prog Rows.joinTellsRow.laid w) false (World.laidAll Tryz.prog os Rows.joinTellsRow.laid) #[.slice none 0 0, .slice none 0 0] 8 (World.laidAll_os _ _ _)
   (World.shaped_of_ZipB (by kernel_rfl) (by kernel_rfl)) (by kernel_rfl) (by kernel_rfl) (by kernel_rfl)
   (by rw [MakeChecks.laidMetH_plain _ _ _ (by kernel_rfl)]; exact laidMet_laidAll _ (by kernel_rfl) (by kernel_rfl))) ?_
 intro W base args ds gs before hval0 hW hcnd hsz0 hL _
 have hT : Tt W := tabs_of_laid hL
 have hval : ∀ (j : Nat) t v, Tryz.f8.params[j]? = some t → args[j]? = some v → Value.okWide Tryz.prog W .any base t v := hval0
 have hsz : (DataW.weightsEach Tryz.prog (Tryz.f8.params.toList ++ Rows.joinTellsSpec.plain.varTypes Tryz.prog) (ds ++ gs)).all (· ≤ reachBytes) = true := hsz0
 have hW' := hW
 obtain ⟨p, q, hA0, hV, rfl, hfz, hnd⟩ := hW
 have hA : DataW.TrodAll enc Tryz.prog W 0 (fun _ => true) true Tryz.f8.params.toList args.toList ds p := hA0
 rw [Tryz.params8] at hA hval hsz
 obtain ⟨v0, vs0, d0, ds0, p0, q0, hargs, rfl, rfl, h0, r0⟩ := trodAll_cons hA
 obtain ⟨v1, vs1, d1, ds1, p1, q1, rfl, rfl, rfl, h1, r1⟩ := trodAll_cons r0
 obtain ⟨rfl, rfl, rfl⟩ := trodAll_nil r1
 obtain rfl : args = #[v0, v1] := by cases args; simp_all
 obtain ⟨rfl, rfl⟩ := trodVars_none hV
 obtain ⟨l0, rw0, ok0, b0⟩ := open_rws (hval 0 22 v0 rfl rfl) h0 (sized_at hsz (j := 0) rfl rfl)
 obtain ⟨l1, rw1, ok1, b1⟩ := open_rws (hval 1 22 v1 rfl rfl) h1 (sized_at hsz (j := 1) rfl rfl)
 clear hA0 hval0 hsz0
 refine (walk v0 l0 v1 l1 W hT rw0 ok0 b0 rw1 ok1 b1).mono fun e W' ⟨he, bel⟩ => ?_
 subst he
 exact ⟨_, rfl, _, _, _, [], _, [], hW', trodAll_mk1 (shut_bool Tryz.underlying4 _), (trodAll_cons_mk (shut_rws h0 bel) (trodAll_cons_mk (shut_rws h1 bel) trodAll_mk0)), rfl, Below.frame bel _, fun h => by cases h⟩
theorem closed : joinedFacts Tryz.prog 8 Tryz.f8 Rows.joinTellsSpec Rows.joinTellsRow = true := by
 unfold joinedFacts
 repeat' (with_reducible refine Bool.and_eq_true_iff.2 ⟨?_, ?_⟩)
 all_goals first
  | with_reducible exact HeadW.mayEnter
  | with_reducible exact laidOut
  | with_reducible exact HeadW.mapsRowed
  | with_reducible exact HeadW.stopsHeard
  | (rw [HeadW.liftsFinal]; as_aux_lemma => kernel_rfl)
  | (rw [HeadW.make]; as_aux_lemma => kernel_rfl)
  | (rw [HeadW.plainKeys]; as_aux_lemma => kernel_rfl)
  | as_aux_lemma => kernel_rfl
theorem over : Rows.joinTellsRow.holds Tryz.pinned (OpenSpec.ofChange Rows.joinTellsSpec) :=
 OpenClaim.holds_of_wide 8 Tryz.f8 rfl rfl rfl rfl rfl rfl rfl ⟨rfl, rfl, rfl, rfl, rfl⟩ rfl rfl rfl rfl rfl (by as_aux_lemma => kernel_rfl) Tryz.func8 closed
  (of_decide_eq_true (by as_aux_lemma => kernel_rfl)) (by unfold Func.isWrapper; first | (rw [if_pos (by decide +kernel)]; kernel_rfl) | (rw [if_neg (by decide +kernel)]; exact ⟨rfl, rfl⟩))
  (fun os started H enc _ => lifted os started H enc)
theorem card : Rows.JoinTellsCardSaid :=
 Claim7.holds_tied_plain_at .later [] [.data, .data, .data, .data, .data, .data, .pinned] true (true, "591cd41afe7b4b4e67348e953bda9d0a59dcbbd26f32dd65a3fcd8801666d624") false
  over (fun _ h => by cases h) (by as_aux_lemma => kernel_rfl) (fun _ h => by cases h) joinTells_row_tie rfl ⟨rfl, rfl⟩ HeadW.main rfl
  (fun f fn hf hfn => by
   obtain rfl : f = 8 := Option.some.inj ((show Tryz.prog.funcNamed "starling/starlinglaw.JoinTells" = some 8 by as_aux_lemma => kernel_rfl).symm.trans hf) |>.symm
   obtain rfl : fn = Tryz.f8 := (Option.some.inj (Tryz.func8.symm.trans hfn)).symm
   exact ⟨HeadW.looks.symm, fun j t ht => by
    rw [Tryz.params8] at ht
    have hm : t ∈ [22, 22] := by simpa using Array.mem_of_getElem? ht
    have hall : ([22, 22].all fun u => !Tryz.prog.wantsStandIn u) = true := by as_aux_lemma => kernel_rfl
    exact (show Tryz.prog.wantsStandIn t = false by simpa using List.all_eq_true.1 hall t hm)⟩)
  (by as_aux_lemma => kernel_rfl)
end Go.Proofs.YtbcfdhimngoplaaGreatDoor.joinTellsProof
namespace Go.Proofs.YtbcfdhimngoplaaGreatDoor
theorem joinTells_holds : Rows.JoinTellsCardSaid := joinTellsProof.card
end Go.Proofs.YtbcfdhimngoplaaGreatDoor
