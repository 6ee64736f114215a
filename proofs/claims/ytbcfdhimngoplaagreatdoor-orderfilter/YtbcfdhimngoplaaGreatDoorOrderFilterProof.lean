/-
  Proved: for every list of rows, keys, columns and expression OrderFilter answers true: who is kept of sorted rows is sorted of who is kept. No condition but the form's own reach.
-/
import Derived.Test.YtbcfdhimngoplaaGreatDoorGqG
import Derived.Test.YtbcfdhimngoplaaGreatDoorGqF
import Derived.Test.YtbcfdhimngoplaaGreatDoorBjB
import Derived.Test.YtbcfdhimngoplaaGreatDoorBpB
namespace Go.Proofs.YtbcfdhimngoplaaGreatDoor.orderFilterProof
open Go.ChangeShapes Go.WideShapes Go.ChangeAt Go.RowKit
open Go.ChangeMaps (open_string shut_string)
set_option linter.unusedVariables false
set_option linter.unusedSimpArgs false
set_option maxRecDepth 100000
set_option maxHeartbeats 2000000
theorem walk (v0 : Value) (l0 : List (List VM.Vl)) (v1 : Value) (l1 : List BG.Ky) (v2 : Value) (l2 : List ByteArray) (v3 : Value) (l3 : List EX.Nd) (w : World) (hTt : Tt w) (rw0 : IsRR w v0 l0) (ok0 : ∀ y ∈ l0, y.length * 32 ≤ 140737488351232 ∧ ∀ z ∈ y, EV.gd z ∧ z.s.size ≤ 140737488351232) (b0 : l0.length * 24 ≤ 140737488351232) (rw1 : IsL cdY w v1 l1) (ok1 : ∀ y ∈ l1, (-9223372036854775808 ≤ y.col ∧ y.col ≤ 9223372036854775807)) (b1 : l1.length * 16 ≤ 140737488351232) (rw2 : IsL cdB w v2 l2) (ok2 : ∀ y ∈ l2, y.size ≤ 140737488351232) (b2 : l2.length * 16 ≤ 140737488351232) (rw3 : IsL cdN w v3 l3) (ok3 : ∀ y ∈ l3, EV.okN y ∧ (-9223372036854775808 ≤ y.op ∧ y.op ≤ 9223372036854775807) ∧ (-9223372036854775808 ≤ y.kids ∧ y.kids ≤ 9223372036854775807)) (b3 : l3.length * 64 ≤ 140737488351232) :
  Calls Tryz.prog 6 #[v0, v1, v2, v3] w fun e w' => e = .returned (.bool true) ∧ Fr w w' := by
 have HBg := hideP (fun (W : World) (f : Fr w W) => bagBegun_any W (hTt.tn.fr f) (hTt.tb.fr f))
 have HSo := hideP (fun (W : World) (v : Value) (ls : List (List VM.Vl)) (f : Fr w W) (h : IsRR W v ls) (hs : ∀ r ∈ ls, r ∈ l0) (hn : ls.length ≤ l0.length) => sort_any v _ ls l1 W h (rw1.fr f) (by omega) (fun r hr => by have := (ok0 r (hs r hr)).1; omega) (by omega))
 have HR := hideP rw0
 have HOk := hideP (fun r (hr : r ∈ l0) => show r.length ≤ 9223372036854775806 by have := (ok0 r hr).1; omega)
 have HF := hideP (fun (W : World) (v : Value) (ls : List (List VM.Vl)) (f : Fr w W) (h : IsRR W v ls) (hs : ∀ r ∈ ls, r ∈ l0) (hn : ls.length ≤ l0.length) => filter_any v _ _ ls l2 l3 W h (rw2.fr f) (rw3.fr f) (fun n hn => (ok3 n hn).1.1) (by omega) (fun c hc => by have := ok2 c hc; omega) (hTt.tn.fr f) (hTt.tb.fr f) (fun n hn => (ok3 n hn).1.2) (fun r hr x hx => ((ok0 r (hs r hr)).2 x hx).1) (by omega) (fun r hr => by have := (ok0 r (hs r hr)).1; omega))
 obtain ⟨A0, c0, rfl⟩ := rw0.slice
 obtain ⟨A1, c1, rfl, _⟩ := rw1
 obtain ⟨A2, c2, rfl, _⟩ := rw2
 obtain ⟨A3, c3, rfl, _⟩ := rw3
 have b0' : l0.length ≤ 9223372036854775806 := by omega
 have k1 := HSo.out w _ l0 (Fr.refl _) HR.out (fun r h => h) (Nat.le_refl _)
 have HM1 := hideP (BG.srt_mem (ls := l0) (ks := l1))
 have HSf := hideP (BG.srt_fil (ls := l0) (ks := l1) (cs := l2) (e := l3))
 have HE1 := hideP (BG.srt_er' (ls := l0) (ks := l1))
 have HMb := hideP (BG.fil_mem (ls := l0) (cs := l2) (e := l3))
 have HMa := hideP (BG.fil_mem (ls := outR (BG.srt l0 l1)) (cs := l2) (e := l3))
 clear rw0 ok0 b0 ok1 b1 ok2 b2 ok3 b3
 have HB0 := hideP b0'
 clear b0'
 have K1 := hideP k1
 clear k1
 obtain ⟨m, hm⟩ : ∃ y, outR (BG.srt l0 l1) = y := ⟨_, rfl⟩
 obtain ⟨f, hf⟩ : ∃ f, erR (BG.srt l0 l1) = f := ⟨_, rfl⟩
 rw [hm, hf] at HSf HE1
 rw [hm] at HM1 HMa
 obtain ⟨a, ha⟩ : ∃ y, outR (BG.fil m l2 l3) = y := ⟨_, rfl⟩
 obtain ⟨g, hg⟩ : ∃ f, erR (BG.fil m l2 l3) = f := ⟨_, rfl⟩
 rw [ha, hg] at HSf
 rw [ha] at HMa
 obtain ⟨b, hb⟩ : ∃ y, outR (BG.fil l0 l2 l3) = y := ⟨_, rfl⟩
 obtain ⟨h, hh⟩ : ∃ f, erR (BG.fil l0 l2 l3) = f := ⟨_, rfl⟩
 rw [hb, hh] at HSf
 rw [hb] at HMb
 obtain ⟨n, hn⟩ : ∃ y, outR (BG.srt b l1) = y := ⟨_, rfl⟩
 obtain ⟨i, hi⟩ : ∃ f, erR (BG.srt b l1) = f := ⟨_, rfl⟩
 rw [hn, hi] at HSf
 have K2 := hideP (fun W v (fw : Fr w W) (hr : IsRR W v m) => HF.out W v m fw hr HM1.out.1 HM1.out.2)
 have K3 := hideP (fun W (fw : Fr w W) => HF.out W _ l0 fw (HR.out.fr fw) (fun r h => h) (Nat.le_refl _))
 have K4 := hideP (fun W v (fw : Fr w W) (hr : IsRR W v b) => HSo.out W v b fw hr HMb.out.1 HMb.out.2)
 have Hm := hideP hm
 have Hf := hideP hf
 have Ha := hideP ha
 have Hg := hideP hg
 have Hb := hideP hb
 have Hh := hideP hh
 have Hn := hideP hn
 have Hi := hideP hi
 clear hm hf ha hg hb hh hn hi
 go_enter Tryz.func6, Tryz.ntmps6
 go_wp2_with fail
 refine K1.out.mono ?_
 rintro _ w1 ⟨hA, f1⟩
 obtain ⟨ma, mc, he, hO⟩ := ra_out hA
 clear hA
 subst he
 rw [Hm.out] at hO ⊢
 rw [Hf.out]
 have F1 := hideP f1
 have HO1 := hideP hO.rows
 obtain ⟨mn, hmn⟩ : ∃ y, m.length = y := ⟨_, rfl⟩
 rw [hmn] at HO1 ⊢
 have HMn := hideP hmn
 clear f1 K1 hO hmn
 go_wp2_with fail
 refine (K2.out w1 _ F1.out HO1.out).mono ?_
 rintro _ w2 ⟨hA, f2⟩
 obtain ⟨aa, ac, he, hO⟩ := ra_out hA
 clear hA
 subst he
 rw [Ha.out] at hO ⊢
 rw [Hg.out]
 have F2 := hideP (F1.out.trans f2)
 have HO2 := hideP hO.rows
 obtain ⟨an, han⟩ : ∃ y, a.length = y := ⟨_, rfl⟩
 rw [han] at HO2 ⊢
 have HAn := hideP han
 clear f2 K2 hO HO1 han
 go_wp2_with fail
 refine (K3.out w2 F2.out).mono ?_
 rintro _ w3 ⟨hA, f3⟩
 obtain ⟨ba, bc, he, hO⟩ := ra_out hA
 clear hA
 subst he
 rw [Hb.out] at hO ⊢
 rw [Hh.out]
 have F3 := hideP (F2.out.trans f3)
 replace HO2 := hideP (HO2.out.fr f3)
 have HO3 := hideP hO.rows
 obtain ⟨bn, hbn⟩ : ∃ y, b.length = y := ⟨_, rfl⟩
 rw [hbn] at HO3 ⊢
 have HBn := hideP hbn
 clear f3 K3 hO hbn
 go_wp2_with fail
 refine (K4.out w3 _ F3.out HO3.out).mono ?_
 rintro _ w4 ⟨hA, f4⟩
 obtain ⟨na, nc, he, hO⟩ := ra_out hA
 clear hA
 subst he
 rw [Hn.out] at hO ⊢
 rw [Hi.out]
 have F4 := hideP (F3.out.trans f4)
 replace HO2 := hideP (HO2.out.fr f4)
 have HO4 := hideP hO.rows
 obtain ⟨nn, hnn⟩ : ∃ y, n.length = y := ⟨_, rfl⟩
 rw [hnn] at HO4 ⊢
 clear f4 K4 hO HO3 hnn
 go_wp2_with fail
 refine (HBg.out _ F4.out).mono ?_
 rintro _ w5 ⟨rfl, f5⟩
 have F5 := hideP (F4.out.trans f5)
 replace HO2 := hideP (HO2.out.fr f5)
 replace HO4 := hideP (HO4.out.fr f5)
 clear f5
 by_cases hf0 : f = 0
 case neg =>
  have e1 : ((f : Int) != 0) = true := by simp; omega
  have e2 : ((f : Int) == 0) = false := by simp; omega
  have e3 : mn = 0 := by rw [← HMn.out, HE1.out hf0]; rfl
  subst e3
  go_wp2_with fail
  go_ret
  exact ⟨rfl, F5.out⟩
 subst hf0
 by_cases hg0 : g = 0
 case neg =>
  have e1 : ((g : Int) != 0) = true := by simp; omega
  have e2 : ((g : Int) == 0) = false := by simp; omega
  go_wp2_with fail
  go_ret
  exact ⟨rfl, F5.out⟩
 subst hg0
 obtain ⟨rfl, rfl, rfl⟩ := HSf.out rfl rfl
 have ce := sameRows_eq _ _ n w5 HO2.out HO4.out (by have := HMa.out.2; have := HM1.out.2; have := HB0.out; omega) (fun r hr => HOk.out r (HM1.out.1 r (HMa.out.1 r hr)))
 go_wp2_with fail
 refine ce.mono ?_
 rintro _ w6 ⟨rfl, f6⟩
 have F6 := hideP (F5.out.trans f6)
 clear f6 ce
 go_wp2_with fail
 go_ret
 exact ⟨rfl, F6.out⟩

set_option maxRecDepth 100000 in
theorem lifted (os : Go.Os) (started : os.Started) (H : Type) (enc : TypeId × Value → H) :
  ReturnsInHanded {} Tryz.checked os 6 .any (fun w args => (Rows.orderFilterSpec.pre enc Tryz.prog Tryz.f6 [] false w args ∧ laidMetH Tryz.prog Rows.orderFilterRow.laid w) ∧ sizedMet enc Tryz.prog Tryz.f6 (OpenSpec.ofChange Rows.orderFilterSpec) false w args)
   (Rows.orderFilterSpec.post enc Tryz.prog Tryz.f6 false true false false) := by
 refine returnsInHanded_of_change_and (C := Tryz.checked) (X := fun w _ => laidMetH Tryz.prog Rows.orderFilterRow.laid w) (fun _ _ _ hh h => h.of_heap hh) own started (by kernel_rfl) Tryz.func6
  (ChangeSpec.witness_shaped (enc := enc) (C := Tryz.checked) (os := os) (X := fun w _ => laidMetH Tryz.prog Rows.orderFilterRow.laid w) false (World.laidAll Tryz.prog os Rows.orderFilterRow.laid) #[.slice none 0 0, .slice none 0 0, .slice none 0 0, .slice none 0 0] 8 (World.laidAll_os _ _ _)
   (World.shaped_of_ZipB (by kernel_rfl) (by kernel_rfl)) (by kernel_rfl) (by kernel_rfl) (by kernel_rfl)
   (by rw [MakeChecks.laidMetH_plain _ _ _ (by kernel_rfl)]; exact laidMet_laidAll _ (by kernel_rfl) (by kernel_rfl))) ?_
 intro W base args ds gs before hval0 hW hcnd hsz0 hL _
 have hT : Tt W := tabs_of_laid hL
 have hval : ∀ (j : Nat) t v, Tryz.f6.params[j]? = some t → args[j]? = some v → Value.okWide Tryz.prog W .any base t v := hval0
 have hsz : (DataW.weightsEach Tryz.prog (Tryz.f6.params.toList ++ Rows.orderFilterSpec.plain.varTypes Tryz.prog) (ds ++ gs)).all (· ≤ reachBytes) = true := hsz0
 have hW' := hW
 obtain ⟨p, q, hA0, hV, rfl, hfz, hnd⟩ := hW
 have hA : DataW.TrodAll enc Tryz.prog W 0 (fun _ => true) true Tryz.f6.params.toList args.toList ds p := hA0
 rw [Tryz.params6] at hA hval hsz
 obtain ⟨v0, vs0, d0, ds0, p0, q0, hargs, rfl, rfl, h0, r0⟩ := trodAll_cons hA
 obtain ⟨v1, vs1, d1, ds1, p1, q1, rfl, rfl, rfl, h1, r1⟩ := trodAll_cons r0
 obtain ⟨v2, vs2, d2, ds2, p2, q2, rfl, rfl, rfl, h2, r2⟩ := trodAll_cons r1
 obtain ⟨v3, vs3, d3, ds3, p3, q3, rfl, rfl, rfl, h3, r3⟩ := trodAll_cons r2
 obtain ⟨rfl, rfl, rfl⟩ := trodAll_nil r3
 obtain rfl : args = #[v0, v1, v2, v3] := by cases args; simp_all
 obtain ⟨rfl, rfl⟩ := trodVars_none hV
 obtain ⟨l0, rw0, ok0, b0⟩ := open_rws (hval 0 22 v0 rfl rfl) h0 (sized_at hsz (j := 0) rfl rfl)
 obtain ⟨l1, rw1, ok1, b1⟩ := open_kys (hval 1 23 v1 rfl rfl) h1 (sized_at hsz (j := 1) rfl rfl)
 obtain ⟨l2, rw2, ok2, b2⟩ := open_cls (hval 2 32 v2 rfl rfl) h2 (sized_at hsz (j := 2) rfl rfl)
 obtain ⟨l3, rw3, ok3, b3⟩ := open_nds (hval 3 33 v3 rfl rfl) h3 (sized_at hsz (j := 3) rfl rfl)
 clear hA0 hval0 hsz0
 refine (walk v0 l0 v1 l1 v2 l2 v3 l3 W hT rw0 ok0 b0 rw1 ok1 b1 rw2 ok2 b2 rw3 ok3 b3).mono fun e W' ⟨he, bel⟩ => ?_
 subst he
 exact ⟨_, rfl, _, _, _, [], _, [], hW', trodAll_mk1 (shut_bool Tryz.underlying4 _), (trodAll_cons_mk (shut_rws h0 bel) (trodAll_cons_mk (shut_kys h1 bel) (trodAll_cons_mk (shut_cls h2 bel) (trodAll_cons_mk (shut_nds h3 bel) trodAll_mk0)))), rfl, Below.frame bel _, fun h => by cases h⟩
theorem closed : joinedFacts Tryz.prog 6 Tryz.f6 Rows.orderFilterSpec Rows.orderFilterRow = true := by
 unfold joinedFacts
 repeat' (with_reducible refine Bool.and_eq_true_iff.2 ⟨?_, ?_⟩)
 all_goals first
  | with_reducible exact HeadW.mayEnter
  | with_reducible exact laidOut
  | with_reducible exact HeadW.mapsRowed
  | with_reducible exact HeadW.stopsHeard
  | (rw [HeadW.liftsFinal]; as_aux_lemma => kernel_rfl)
  | (rw [HeadW.make]; as_aux_lemma => kernel_rfl)
  | (rw [HeadW.plainKeys]; as_aux_lemma => kernel_rfl)
  | as_aux_lemma => kernel_rfl
theorem over : Rows.orderFilterRow.holds Tryz.pinned (OpenSpec.ofChange Rows.orderFilterSpec) :=
 OpenClaim.holds_of_wide 6 Tryz.f6 rfl rfl rfl rfl rfl rfl rfl ⟨rfl, rfl, rfl, rfl, rfl⟩ rfl rfl rfl rfl rfl (by as_aux_lemma => kernel_rfl) Tryz.func6 closed
  (of_decide_eq_true (by as_aux_lemma => kernel_rfl)) (by unfold Func.isWrapper; first | (rw [if_pos (by decide +kernel)]; kernel_rfl) | (rw [if_neg (by decide +kernel)]; exact ⟨rfl, rfl⟩))
  (fun os started H enc _ => lifted os started H enc)
theorem card : Rows.OrderFilterCardSaid :=
 Claim7.holds_tied_plain_at .later [] [.data, .data, .data, .data, .data, .data, .pinned] true (true, "591cd41afe7b4b4e67348e953bda9d0a59dcbbd26f32dd65a3fcd8801666d624") false
  over (fun _ h => by cases h) (by as_aux_lemma => kernel_rfl) (fun _ h => by cases h) orderFilter_row_tie rfl ⟨rfl, rfl⟩ HeadW.main rfl
  (fun f fn hf hfn => by
   obtain rfl : f = 6 := Option.some.inj ((show Tryz.prog.funcNamed "starling/starlinglaw.OrderFilter" = some 6 by as_aux_lemma => kernel_rfl).symm.trans hf) |>.symm
   obtain rfl : fn = Tryz.f6 := (Option.some.inj (Tryz.func6.symm.trans hfn)).symm
   exact ⟨HeadW.looks.symm, fun j t ht => by
    rw [Tryz.params6] at ht
    have hm : t ∈ [22, 23, 32, 33] := by simpa using Array.mem_of_getElem? ht
    have hall : ([22, 23, 32, 33].all fun u => !Tryz.prog.wantsStandIn u) = true := by as_aux_lemma => kernel_rfl
    exact (show Tryz.prog.wantsStandIn t = false by simpa using List.all_eq_true.1 hall t hm)⟩)
  (by as_aux_lemma => kernel_rfl)
end Go.Proofs.YtbcfdhimngoplaaGreatDoor.orderFilterProof
namespace Go.Proofs.YtbcfdhimngoplaaGreatDoor
theorem orderFilter_holds : Rows.OrderFilterCardSaid := orderFilterProof.card
end Go.Proofs.YtbcfdhimngoplaaGreatDoor
