/-
  Proved: for every list of rows, all columns and all that is asked GroupTells answers true: Group answers just what the document says. No condition but the form's own reach.
-/
import Derived.Test.YtbcfdhimngoplaaGreatDoorGqG
import Derived.Test.YtbcfdhimngoplaaGreatDoorGqF
import Derived.Test.YtbcfdhimngoplaaGreatDoorBjB
import Derived.Test.YtbcfdhimngoplaaGreatDoorBpW
namespace Go.Proofs.YtbcfdhimngoplaaGreatDoor.groupTellsProof
open Go.ChangeShapes Go.WideShapes Go.ChangeAt Go.RowKit
open Go.ChangeMaps (open_string shut_string)
set_option linter.unusedVariables false
set_option linter.unusedSimpArgs false
set_option maxRecDepth 100000
set_option maxHeartbeats 2000000
theorem mp_from {α β : Type} {f : α → Except Nat β} : ∀ {l : List α} {m : List β}, BG.mp f l = .ok m → ∀ x ∈ m, ∃ a ∈ l, f a = .ok x
 | [], m, h, x, hx => by cases h; cases hx
 | a :: t, m, h, x, hx => by
  cases e : f a with
  | error c => rw [BG.mp_err e] at h; cases h
  | ok z =>
   rw [BG.mp_ok e] at h
   cases e2 : BG.mp f t with
   | error c => rw [e2] at h; cases h
   | ok z2 =>
    rw [e2] at h
    have hm : [z] ++ z2 = m := by injection h
    subst hm
    rcases List.mem_append.1 hx with h1 | h1
    ·
     rw [List.mem_singleton] at h1
     subst h1
     exact ⟨a, by simp, e⟩
    ·
     obtain ⟨b, hb, eb⟩ := mp_from e2 x h1
     exact ⟨b, List.mem_cons_of_mem _ hb, eb⟩
theorem gpO_small (ls : List (List VM.Vl)) (cs : List Int) (gs : List BG.Ag) : (∀ r ∈ outR (BG.gpO ls cs gs), r.length ≤ 9223372036854775806) ∧ (outR (BG.gpO ls cs gs)).length ≤ 9223372036854775806 := by
 cases hj : BG.gpO ls cs gs with
 | error c => exact ⟨fun r hr => (by cases hr), by show 0 ≤ _; omega⟩
 | ok m =>
  unfold BG.gpO at hj
  split at hj
  · cases hj
  split at hj
  · cases hj
  rename_i h1 h2
  have h40 := (BG.chk_all (by simpa using h1)).1
  obtain ⟨g8, _⟩ := BG.gE_ok (by simpa using h2)
  refine ⟨fun r hr => ?_, ?_⟩
  ·
   obtain ⟨g, hg, e⟩ := mp_from hj r hr
   have hs := BG.grs_same cs ls g hg
   unfold BG.telR at e
   cases e2 : BG.mp (BG.tel g.2) gs with
   | error c => rw [e2] at e; cases e
   | ok vs =>
    rw [e2] at e
    have hm : g.1 ++ vs = r := by injection e
    rw [← hm, List.length_append, hs, BG.mp_len e2]
    omega
  ·
   show m.length ≤ _
   rw [BG.mp_len hj]
   have := BG.grs_len cs ls
   omega
theorem walk (v0 : Value) (l0 : List (List VM.Vl)) (v1 : Value) (l1 : List Int) (v2 : Value) (l2 : List BG.Ag) (w : World) (hTt : Tt w) (rw0 : IsRR w v0 l0) (ok0 : ∀ y ∈ l0, y.length * 32 ≤ 140737488351232 ∧ ∀ z ∈ y, EV.gd z ∧ z.s.size ≤ 140737488351232) (b0 : l0.length * 24 ≤ 140737488351232) (rw1 : IsL cdZ w v1 l1) (ok1 : ∀ y ∈ l1, (-9223372036854775808 ≤ y ∧ y ≤ 9223372036854775807)) (b1 : l1.length * 8 ≤ 140737488351232) (rw2 : IsL cdG w v2 l2) (ok2 : ∀ y ∈ l2, (-9223372036854775808 ≤ y.kind ∧ y.kind ≤ 9223372036854775807) ∧ (-9223372036854775808 ≤ y.col ∧ y.col ≤ 9223372036854775807)) (b2 : l2.length * 16 ≤ 140737488351232) :
  Calls Tryz.prog 9 #[v0, v1, v2] w fun e w' => e = .returned (.bool true) ∧ Fr w w' := by
 have HBg := hideP (fun (W : World) (f : Fr w W) => bagBegun_any W (hTt.tn.fr f) (hTt.tb.fr f))
 have HR := hideP rw0
 have HOk := hideP (fun r (hr : r ∈ l0) => show r.length ≤ 9223372036854775806 by have := (ok0 r hr).1; omega)
 have HSz := hideP (fun r (hr : r ∈ l0) x (hx : x ∈ r) => show x.s.size ≤ maxLen by have := ((ok0 r hr).2 x hx).2; unfold maxLen; omega)
 have HWi := hideP (fun r (hr : r ∈ l0) x (hx : x ∈ r) => show LM.wide x from ⟨((ok0 r hr).2 x hx).1.1.1, ((ok0 r hr).2 x hx).1.1.2⟩)
 obtain ⟨A0, c0, rfl⟩ := rw0.slice
 have HK := hideP rw1
 have HG := hideP rw2
 obtain ⟨A1, c1, rfl, hcc, hcs⟩ := rw1
 obtain ⟨A2, c2, rfl, hcc2, hcs2⟩ := rw2
 have b0' : l0.length ≤ 9223372036854775806 := by omega
 have b1' : l1.length ≤ 4611686018427387900 := by omega
 have b2' : l2.length ≤ 4611686018427387900 := by omega
 clear rw0 ok0 b0 ok1 b1 hcc hcs ok2 b2 hcc2 hcs2
 obtain ⟨x, hx⟩ : ∃ x, BG.gpO l0 l1 l2 = x := ⟨_, rfl⟩
 have K1 := hideP (group_any _ _ _ l0 l1 l2 w HR.out HK.out HG.out HWi.out b0' HOk.out b1' b2')
 have K2 := hideP (fun W (f : Fr w W) => groupOf_any _ _ _ l0 l1 l2 W (HR.out.fr f) (HK.out.fr f) (HG.out.fr f) (fun r hr x hx => HWi.out r hr x hx) HSz.out b0' HOk.out b1' b2')
 rw [hx] at K1 K2
 have HMx := hideP (gpO_small l0 l1 l2)
 rw [hx] at HMx
 obtain ⟨m, hm⟩ : ∃ y, outR x = y := ⟨_, rfl⟩
 obtain ⟨f, hf⟩ : ∃ y, erR x = y := ⟨_, rfl⟩
 rw [hm] at HMx
 obtain ⟨mn, hmn⟩ : ∃ y, m.length = y := ⟨_, rfl⟩
 have Hm := hideP hm
 have Hf := hideP hf
 have HMn := hideP hmn
 clear hx hm hf hmn b0' b1' b2'
 go_enter Tryz.func9, Tryz.ntmps9
 go_wp2_with fail
 refine K1.out.mono ?_
 rintro _ w1 ⟨hA, f1⟩
 obtain ⟨ma, mc, he, hO⟩ := ra_out hA
 clear hA
 subst he
 rw [Hm.out, HMn.out] at hO ⊢
 rw [Hf.out]
 have F1 := hideP f1
 have HO1 := hideP hO.rows
 clear f1 K1 hO
 go_wp2_with fail
 refine (K2.out w1 F1.out).mono ?_
 rintro _ w2 ⟨hA, f2⟩
 obtain ⟨na, nc, he, hO⟩ := ra_out hA
 clear hA
 subst he
 rw [Hm.out, HMn.out] at hO ⊢
 rw [Hf.out]
 have F2 := hideP (F1.out.trans f2)
 have HO2 := hideP (hO.rows)
 replace HO1 := hideP (HO1.out.fr f2)
 clear f2 K2 hO
 go_wp2_with fail
 refine (HBg.out _ F2.out).mono ?_
 rintro _ w5 ⟨rfl, f5⟩
 have F5 := hideP (F2.out.trans f5)
 replace HO1 := hideP (HO1.out.fr f5)
 replace HO2 := hideP (HO2.out.fr f5)
 clear f5
 go_wp2_with fail
 refine (sameRows_eq _ _ m w5 HO1.out HO2.out HMx.out.2 HMx.out.1).mono ?_
 rintro _ w6 ⟨rfl, f6⟩
 have F6 := hideP (F5.out.trans f6)
 clear f6
 go_wp2_with fail
 go_ret
 exact ⟨rfl, F6.out⟩

set_option maxRecDepth 100000 in
theorem lifted (os : Go.Os) (started : os.Started) (H : Type) (enc : TypeId × Value → H) :
  ReturnsInHanded {} Tryz.checked os 9 .any (fun w args => (Rows.groupTellsSpec.pre enc Tryz.prog Tryz.f9 [] false w args ∧ laidMetH Tryz.prog Rows.groupTellsRow.laid w) ∧ sizedMet enc Tryz.prog Tryz.f9 (OpenSpec.ofChange Rows.groupTellsSpec) false w args)
   (Rows.groupTellsSpec.post enc Tryz.prog Tryz.f9 false true false false) := by
 refine returnsInHanded_of_change_and (C := Tryz.checked) (X := fun w _ => laidMetH Tryz.prog Rows.groupTellsRow.laid w) (fun _ _ _ hh h => h.of_heap hh) own started (by kernel_rfl) Tryz.func9
  (ChangeSpec.witness_shaped (enc := enc) (C := Tryz.checked) (os := os) (X := fun w _ => laidMetH Tryz.prog Rows.groupTellsRow.laid w) false (World.laidAll Tryz.prog os Rows.groupTellsRow.laid) #[.slice none 0 0, .slice none 0 0, .slice none 0 0] 8 (World.laidAll_os _ _ _)
   (World.shaped_of_ZipB (by kernel_rfl) (by kernel_rfl)) (by kernel_rfl) (by kernel_rfl) (by kernel_rfl)
   (by rw [MakeChecks.laidMetH_plain _ _ _ (by kernel_rfl)]; exact laidMet_laidAll _ (by kernel_rfl) (by kernel_rfl))) ?_
 intro W base args ds gs before hval0 hW hcnd hsz0 hL _
 have hT : Tt W := tabs_of_laid hL
 have hval : ∀ (j : Nat) t v, Tryz.f9.params[j]? = some t → args[j]? = some v → Value.okWide Tryz.prog W .any base t v := hval0
 have hsz : (DataW.weightsEach Tryz.prog (Tryz.f9.params.toList ++ Rows.groupTellsSpec.plain.varTypes Tryz.prog) (ds ++ gs)).all (· ≤ reachBytes) = true := hsz0
 have hW' := hW
 obtain ⟨p, q, hA0, hV, rfl, hfz, hnd⟩ := hW
 have hA : DataW.TrodAll enc Tryz.prog W 0 (fun _ => true) true Tryz.f9.params.toList args.toList ds p := hA0
 rw [Tryz.params9] at hA hval hsz
 obtain ⟨v0, vs0, d0, ds0, p0, q0, hargs, rfl, rfl, h0, r0⟩ := trodAll_cons hA
 obtain ⟨v1, vs1, d1, ds1, p1, q1, rfl, rfl, rfl, h1, r1⟩ := trodAll_cons r0
 obtain ⟨v2, vs2, d2, ds2, p2, q2, rfl, rfl, rfl, h2, r2⟩ := trodAll_cons r1
 obtain ⟨rfl, rfl, rfl⟩ := trodAll_nil r2
 obtain rfl : args = #[v0, v1, v2] := by cases args; simp_all
 obtain ⟨rfl, rfl⟩ := trodVars_none hV
 obtain ⟨l0, rw0, ok0, b0⟩ := open_rws (hval 0 22 v0 rfl rfl) h0 (sized_at hsz (j := 0) rfl rfl)
 obtain ⟨l1, rw1, ok1, b1⟩ := open_its (hval 1 40 v1 rfl rfl) h1 (sized_at hsz (j := 1) rfl rfl)
 obtain ⟨l2, rw2, ok2, b2⟩ := open_ags (hval 2 41 v2 rfl rfl) h2 (sized_at hsz (j := 2) rfl rfl)
 clear hA0 hval0 hsz0
 refine (walk v0 l0 v1 l1 v2 l2 W hT rw0 ok0 b0 rw1 ok1 b1 rw2 ok2 b2).mono fun e W' ⟨he, bel⟩ => ?_
 subst he
 exact ⟨_, rfl, _, _, _, [], _, [], hW', trodAll_mk1 (shut_bool Tryz.underlying4 _), (trodAll_cons_mk (shut_rws h0 bel) (trodAll_cons_mk (shut_its h1 bel) (trodAll_cons_mk (shut_ags h2 bel) trodAll_mk0))), rfl, Below.frame bel _, fun h => by cases h⟩
theorem closed : joinedFacts Tryz.prog 9 Tryz.f9 Rows.groupTellsSpec Rows.groupTellsRow = true := by
 unfold joinedFacts
 repeat' (with_reducible refine Bool.and_eq_true_iff.2 ⟨?_, ?_⟩)
 all_goals first
  | with_reducible exact HeadW.mayEnter
  | with_reducible exact laidOut
  | with_reducible exact HeadW.mapsRowed
  | with_reducible exact HeadW.stopsHeard
  | (rw [HeadW.liftsFinal]; as_aux_lemma => kernel_rfl)
  | (rw [HeadW.make]; as_aux_lemma => kernel_rfl)
  | (rw [HeadW.plainKeys]; as_aux_lemma => kernel_rfl)
  | as_aux_lemma => kernel_rfl
theorem over : Rows.groupTellsRow.holds Tryz.pinned (OpenSpec.ofChange Rows.groupTellsSpec) :=
 OpenClaim.holds_of_wide 9 Tryz.f9 rfl rfl rfl rfl rfl rfl rfl ⟨rfl, rfl, rfl, rfl, rfl⟩ rfl rfl rfl rfl rfl (by as_aux_lemma => kernel_rfl) Tryz.func9 closed
  (of_decide_eq_true (by as_aux_lemma => kernel_rfl)) (by unfold Func.isWrapper; first | (rw [if_pos (by decide +kernel)]; kernel_rfl) | (rw [if_neg (by decide +kernel)]; exact ⟨rfl, rfl⟩))
  (fun os started H enc _ => lifted os started H enc)
theorem card : Rows.GroupTellsCardSaid :=
 Claim7.holds_tied_plain_at .later [] [.data, .data, .data, .data, .data, .data, .pinned] true (true, "591cd41afe7b4b4e67348e953bda9d0a59dcbbd26f32dd65a3fcd8801666d624") false
  over (fun _ h => by cases h) (by as_aux_lemma => kernel_rfl) (fun _ h => by cases h) groupTells_row_tie rfl ⟨rfl, rfl⟩ HeadW.main rfl
  (fun f fn hf hfn => by
   obtain rfl : f = 9 := Option.some.inj ((show Tryz.prog.funcNamed "starling/starlinglaw.GroupTells" = some 9 by as_aux_lemma => kernel_rfl).symm.trans hf) |>.symm
   obtain rfl : fn = Tryz.f9 := (Option.some.inj (Tryz.func9.symm.trans hfn)).symm
   exact ⟨HeadW.looks.symm, fun j t ht => by
    rw [Tryz.params9] at ht
    have hm : t ∈ [22, 40, 41] := by simpa using Array.mem_of_getElem? ht
    have hall : ([22, 40, 41].all fun u => !Tryz.prog.wantsStandIn u) = true := by as_aux_lemma => kernel_rfl
    exact (show Tryz.prog.wantsStandIn t = false by simpa using List.all_eq_true.1 hall t hm)⟩)
  (by as_aux_lemma => kernel_rfl)
end Go.Proofs.YtbcfdhimngoplaaGreatDoor.groupTellsProof
namespace Go.Proofs.YtbcfdhimngoplaaGreatDoor
theorem groupTells_holds : Rows.GroupTellsCardSaid := groupTellsProof.card
end Go.Proofs.YtbcfdhimngoplaaGreatDoor
