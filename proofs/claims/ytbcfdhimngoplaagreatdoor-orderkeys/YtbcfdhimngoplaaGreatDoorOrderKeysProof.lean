/-
  Proved: for every list of rows and keys OrderKeys answers true: sorted by the last key, then by the one ahead of it, rows stand as they are sorted by all. No condition but the form's own reach.
-/
import Derived.Test.YtbcfdhimngoplaaGreatDoorGqG
import Derived.Test.YtbcfdhimngoplaaGreatDoorGqF
import Derived.Test.YtbcfdhimngoplaaGreatDoorBjB
import Derived.Test.YtbcfdhimngoplaaGreatDoorBpB
namespace Go.Proofs.YtbcfdhimngoplaaGreatDoor.orderKeysProof
open Go.ChangeShapes Go.WideShapes Go.ChangeAt Go.RowKit
open Go.ChangeMaps (open_string shut_string)
set_option linter.unusedVariables false
set_option linter.unusedSimpArgs false
set_option maxRecDepth 100000
set_option maxHeartbeats 2000000
theorem walk (v0 : Value) (l0 : List (List VM.Vl)) (v1 : Value) (l1 : List BG.Ky) (w : World) (hTt : Tt w) (rw0 : IsRR w v0 l0) (ok0 : ∀ y ∈ l0, y.length * 32 ≤ 140737488351232 ∧ ∀ z ∈ y, EV.gd z ∧ z.s.size ≤ 140737488351232) (b0 : l0.length * 24 ≤ 140737488351232) (rw1 : IsL cdY w v1 l1) (ok1 : ∀ y ∈ l1, (-9223372036854775808 ≤ y.col ∧ y.col ≤ 9223372036854775807)) (b1 : l1.length * 16 ≤ 140737488351232) :
  Calls Tryz.prog 5 #[v0, v1] w fun e w' => e = .returned (.bool true) ∧ Fr w w' := by
 have HBg := hideP (fun (W : World) (f : Fr w W) => bagBegun_any W (hTt.tn.fr f) (hTt.tb.fr f))
 have HSo := hideP (fun (W : World) (v vk : Value) (ls : List (List VM.Vl)) (ks : List BG.Ky) (f : Fr w W) (h : IsRR W v ls) (hk : IsL cdY W vk ks) (hs : ∀ r ∈ ls, r ∈ l0) (hn : ls.length ≤ l0.length) (hk8 : ks.length ≤ l1.length) => sort_any v vk ls ks W h hk (by omega) (fun r hr => by have := (ok0 r (hs r hr)).1; omega) (by omega))
 have HR := hideP rw0
 have HOk := hideP (fun r (hr : r ∈ l0) => show r.length ≤ 9223372036854775806 by have := (ok0 r hr).1; omega)
 obtain ⟨A0, c0, rfl⟩ := rw0.slice
 have HK := hideP rw1
 obtain ⟨A1, c1, rfl, hcc, hcs⟩ := rw1
 have HCs := hideP hcs
 have HB0 := hideP (show l0.length ≤ 9223372036854775806 ∧ l1.length * 16 ≤ 140737488351232 ∧ l1.length ≤ c1 by omega)
 have k1 := HSo.out w _ _ l0 l1 (Fr.refl _) HR.out HK.out (fun r h => h) (Nat.le_refl _) (Nat.le_refl _)
 have HE1 := hideP (BG.srt_er' (ls := l0) (ks := l1))
 have HEr := hideP (BG.srt_er (ls := l0) (ks := l1))
 have HSt := hideP (fun h i hi => BG.srt_step (ls := l0) (ks := l1) h (i := i) hi)
 clear rw0 ok0 b0 ok1 b1 hcc hcs
 have K1 := hideP k1
 clear k1
 have HX := hideP (show BG.srt l0 l1 = BG.srt l0 l1 from rfl)
 obtain ⟨m, hm⟩ : ∃ y, outR (BG.srt l0 l1) = y := ⟨_, rfl⟩
 obtain ⟨f, hf⟩ : ∃ f, erR (BG.srt l0 l1) = f := ⟨_, rfl⟩
 rw [hm, hf] at HE1
 rw [hf] at HEr HSt
 have Hm := hideP hm
 have Hf := hideP hf
 clear hm hf HX
 go_enter Tryz.func5, Tryz.ntmps5
 go_wp2_with fail
 refine K1.out.mono ?_
 rintro _ w1 ⟨hA, f1⟩
 obtain ⟨ma, mc, he, hO⟩ := ra_out hA
 clear hA
 subst he
 rw [Hm.out] at hO ⊢
 rw [Hf.out]
 have F1 := hideP f1
 have HO1 := hideP hO.rows
 obtain ⟨mn, hmn⟩ : ∃ y, m.length = y := ⟨_, rfl⟩
 rw [hmn] at HO1 ⊢
 have HMn := hideP hmn
 clear f1 K1 hO hmn
 go_wp2_with fail
 refine (HBg.out _ F1.out).mono ?_
 rintro _ w2 ⟨rfl, f2⟩
 have F2 := hideP (F1.out.trans f2)
 replace HO1 := hideP (HO1.out.fr f2)
 clear f2
 by_cases hf0 : f = 0
 case neg =>
  have e1 : ((f : Int) != 0) = true := by simp; omega
  have e3 : mn = 0 := by rw [← HMn.out, HE1.out hf0]; rfl
  subst e3
  go_wp2_with fail
  go_ret
  exact ⟨rfl, F2.out⟩
 subst hf0
 have hmS : m = BO.sort (BG.klt l1) l0 := by
  obtain ⟨x, hx⟩ := HEr.out rfl
  have := Hm.out
  rw [hx] at this
  rw [← this]
  exact (BG.srt_iff.1 hx).2.2.2
 have HMs := hideP hmS
 clear hmS
 have HLn := hideP (show BO.sort (BG.klt (l1.drop l1.length)) l0 = l0 by rw [List.drop_length]; exact BO.sort_none l0)
 obtain ⟨nk, hnk⟩ : ∃ n, l1.length = n := ⟨_, rfl⟩
 have HNk := hideP hnk
 rw [hnk] at HB0 HLn ⊢
 have hnb : (nk : Int) ≤ 9223372036854775806 := by have := HB0.out; omega
 have hsb : IntKind.i64.wrap ((nk : Int) - 1) = (nk : Int) - 1 := by rw [IntKind.wrap_i64]; have := HB0.out; omega
 clear hnk
 go_wp2_with fail
 clear hsb
 go_loopw [7, 8, 9] (fun nv iv _ wr => ∃ i : Nat, iv = .int .i64 ((i : Int) - 1) ∧ i ≤ nk ∧ (∃ a c, nv = .slice a (BO.sort (BG.klt (l1.drop i)) l0).length c) ∧ IsRR wr nv (BO.sort (BG.klt (l1.drop i)) l0) ∧ Fr w2 wr) (fun _ iv _ _ => (intOf iv + 1).toNat)
 case atStart => exact ⟨nk, rfl, Nat.le_refl _, by rw [HLn.out]; exact ⟨_, _, rfl⟩, by rw [HLn.out]; exact HR.out.fr F2.out, Fr.refl _⟩
 case round =>
  obtain ⟨i, rfl, hi, ⟨va, vc, rfl⟩, hv, hfr⟩ := hrel
  have HF := hideP hfr
  clear hfr
  cases i with
  | zero =>
   have hlt' : ¬ ((0 : Int) ≤ (((0 : Nat) : Int) - 1)) := by omega
   rw [List.drop_zero, ← HMs.out, HMn.out] at hv
   have e9 : (BO.sort (BG.klt (l1.drop 0)) l0).length = mn := by rw [List.drop_zero, ← HMs.out, HMn.out]
   rw [e9]
   have ce := sameRows_eq _ _ m wr (HO1.out.fr HF.out) hv (by rw [HMs.out, BO.sort_len]; have := HB0.out; omega) (fun r hr => HOk.out r (by rw [HMs.out] at hr; exact (BO.sort_perm _).mem_iff.1 hr))
   clear hv e9
   go_wp2_with fail
   refine ce.mono ?_
   rintro _ w6 ⟨rfl, f6⟩
   have F6 := hideP ((F2.out.trans HF.out).trans f6)
   clear f6 ce
   go_wp2_with fail
   go_ret
   exact ⟨rfl, F6.out⟩
  | succ i =>
   have hik : i < l1.length := by rw [HNk.out]; omega
   have hst := HSt.out (by first | rfl | trivial) i hik
   have hmem : ∀ r ∈ BO.sort (BG.klt (l1.drop (i + 1))) l0, r ∈ l0 := fun r hr => (BO.sort_perm _).mem_iff.1 hr
   have hln : (BO.sort (BG.klt (l1.drop (i + 1))) l0).length = l0.length := BO.sort_len _
   have hln2 : (BO.sort (BG.klt (l1.drop i)) l0).length = l0.length := BO.sort_len _
   obtain ⟨b, o, rfl, hb, hat⟩ : ∃ b o, A1 = some ⟨b, o, none⟩ ∧ b < w.heap.size ∧ At cdY w b o l1 := by
    rcases HCs.out with h | h
    · rw [h] at hik; simp at hik
    · exact h
   have hcut : IsL cdY w (.slice (some ⟨b, o + i * 2, none⟩) 1 (c1 - i)) [l1[i]] := by
    have := isL_cut (E := cdY) (l := l1) (n := l1.length) (c := c1) rfl hb hat i 1 (by omega) (by have := HB0.out; rw [HNk.out]; omega) (some ⟨b, o + i * 2, none⟩) (.inr rfl)
    rw [List.drop_eq_getElem_cons hik, List.take_succ_cons, List.take_zero] at this
    exact this
   have ck := fun W (fw : Fr w W) (v : Value) (hv : IsRR W v (BO.sort (BG.klt (l1.drop (i + 1))) l0)) => HSo.out W v _ _ [l1[i]] fw hv (hcut.fr fw) hmem (by rw [hln]; exact Nat.le_refl _) (by simp; omega)
   rw [hst] at ck
   obtain ⟨S', hS'⟩ : ∃ S, BO.sort (BG.klt (l1.drop (i + 1))) l0 = S := ⟨_, rfl⟩
   obtain ⟨S, hS⟩ : ∃ S, BO.sort (BG.klt (l1.drop i)) l0 = S := ⟨_, rfl⟩
   rw [hS'] at hv hln ⊢
   rw [hS', hS] at ck
   rw [hS] at hln2
   have HCk := hideP ck
   have HS := hideP hS
   have HV := hideP hv
   have HSl := hideP hln2
   rw [hln]
   rw [hln] at HV
   have hlt' : (0 : Int) ≤ (((i + 1 : Nat) : Int) - 1) := by omega
   have hi0 : (((i + 1 : Nat) : Int) - 1) = (i : Int) := by omega
   have hi1 : (i : Int) + 1 ≤ (c1 : Int) := by have := HB0.out; omega
   have hi2 : (i : Int) ≤ (nk : Int) := by omega
   have hw1 : IntKind.i64.wrap ((i : Int) + 1) = (i : Int) + 1 := by rw [IntKind.wrap_i64]; have := HB0.out; omega
   have hIn := hideP hi
   have hci : ¬ (c1 = i) := by have := HB0.out; omega
   have hci2 : (c1 == i) = false := by simpa using hci
   clear hst hmem hln hln2 hcut ck hS' hS hv hb hat hik
   rw [hi0] at hlt' ⊢
   clear hi0
   go_wp2_with fail
   refine (HCk.out wr (F2.out.trans HF.out) _ HV.out).mono ?_
   rintro _ w6 ⟨hA, f6⟩
   obtain ⟨u, he, hO⟩ := hA
   obtain ⟨sa, sc, hsl⟩ := hO.slice
   subst hsl
   subst he
   rw [HSl.out] at hO ⊢
   have HO6 := hideP hO.rows
   have F6 := hideP (HF.out.trans f6)
   clear hO f6
   go_wp2_with fail
   go_roundw
   case rel => exact ⟨i, rfl, by have := hIn.out; omega, by rw [HS.out, HSl.out]; exact ⟨_, _, rfl⟩, by rw [HS.out]; exact HO6.out, F6.out⟩
   case measure => simp [intOf]

set_option maxRecDepth 100000 in
theorem lifted (os : Go.Os) (started : os.Started) (H : Type) (enc : TypeId × Value → H) :
  ReturnsInHanded {} Tryz.checked os 5 .any (fun w args => (Rows.orderKeysSpec.pre enc Tryz.prog Tryz.f5 [] false w args ∧ laidMetH Tryz.prog Rows.orderKeysRow.laid w) ∧ sizedMet enc Tryz.prog Tryz.f5 (OpenSpec.ofChange Rows.orderKeysSpec) false w args)
   (Rows.orderKeysSpec.post enc Tryz.prog Tryz.f5 false true false false) := by
 refine returnsInHanded_of_change_and (C := Tryz.checked) (X := fun w _ => laidMetH Tryz.prog Rows.orderKeysRow.laid w) (fun _ _ _ hh h => h.of_heap hh) own started (by kernel_rfl) Tryz.func5
  (ChangeSpec.witness_shaped (enc := enc) (C := Tryz.checked) (os := os) (X := fun w _ => laidMetH Tryz.prog Rows.orderKeysRow.laid w) false (World.laidAll Tryz.prog os Rows.orderKeysRow.laid) #[.slice none 0 0, .slice none 0 0] 8 (World.laidAll_os _ _ _)
   (World.shaped_of_ZipB (by kernel_rfl) (by kernel_rfl)) (by kernel_rfl) (by kernel_rfl) (by kernel_rfl)
   (by rw [MakeChecks.laidMetH_plain _ _ _ (by kernel_rfl)]; exact laidMet_laidAll _ (by kernel_rfl) (by kernel_rfl))) ?_
 intro W base args ds gs before hval0 hW hcnd hsz0 hL _
 have hT : Tt W := tabs_of_laid hL
 have hval : ∀ (j : Nat) t v, Tryz.f5.params[j]? = some t → args[j]? = some v → Value.okWide Tryz.prog W .any base t v := hval0
 have hsz : (DataW.weightsEach Tryz.prog (Tryz.f5.params.toList ++ Rows.orderKeysSpec.plain.varTypes Tryz.prog) (ds ++ gs)).all (· ≤ reachBytes) = true := hsz0
 have hW' := hW
 obtain ⟨p, q, hA0, hV, rfl, hfz, hnd⟩ := hW
 have hA : DataW.TrodAll enc Tryz.prog W 0 (fun _ => true) true Tryz.f5.params.toList args.toList ds p := hA0
 rw [Tryz.params5] at hA hval hsz
 obtain ⟨v0, vs0, d0, ds0, p0, q0, hargs, rfl, rfl, h0, r0⟩ := trodAll_cons hA
 obtain ⟨v1, vs1, d1, ds1, p1, q1, rfl, rfl, rfl, h1, r1⟩ := trodAll_cons r0
 obtain ⟨rfl, rfl, rfl⟩ := trodAll_nil r1
 obtain rfl : args = #[v0, v1] := by cases args; simp_all
 obtain ⟨rfl, rfl⟩ := trodVars_none hV
 obtain ⟨l0, rw0, ok0, b0⟩ := open_rws (hval 0 22 v0 rfl rfl) h0 (sized_at hsz (j := 0) rfl rfl)
 obtain ⟨l1, rw1, ok1, b1⟩ := open_kys (hval 1 23 v1 rfl rfl) h1 (sized_at hsz (j := 1) rfl rfl)
 clear hA0 hval0 hsz0
 refine (walk v0 l0 v1 l1 W hT rw0 ok0 b0 rw1 ok1 b1).mono fun e W' ⟨he, bel⟩ => ?_
 subst he
 exact ⟨_, rfl, _, _, _, [], _, [], hW', trodAll_mk1 (shut_bool Tryz.underlying4 _), (trodAll_cons_mk (shut_rws h0 bel) (trodAll_cons_mk (shut_kys h1 bel) trodAll_mk0)), rfl, Below.frame bel _, fun h => by cases h⟩
theorem closed : joinedFacts Tryz.prog 5 Tryz.f5 Rows.orderKeysSpec Rows.orderKeysRow = true := by
 unfold joinedFacts
 repeat' (with_reducible refine Bool.and_eq_true_iff.2 ⟨?_, ?_⟩)
 all_goals first
  | with_reducible exact HeadW.mayEnter
  | with_reducible exact laidOut
  | with_reducible exact HeadW.mapsRowed
  | with_reducible exact HeadW.stopsHeard
  | (rw [HeadW.liftsFinal]; as_aux_lemma => kernel_rfl)
  | (rw [HeadW.make]; as_aux_lemma => kernel_rfl)
  | (rw [HeadW.plainKeys]; as_aux_lemma => kernel_rfl)
  | as_aux_lemma => kernel_rfl
theorem over : Rows.orderKeysRow.holds Tryz.pinned (OpenSpec.ofChange Rows.orderKeysSpec) :=
 OpenClaim.holds_of_wide 5 Tryz.f5 rfl rfl rfl rfl rfl rfl rfl ⟨rfl, rfl, rfl, rfl, rfl⟩ rfl rfl rfl rfl rfl (by as_aux_lemma => kernel_rfl) Tryz.func5 closed
  (of_decide_eq_true (by as_aux_lemma => kernel_rfl)) (by unfold Func.isWrapper; first | (rw [if_pos (by decide +kernel)]; kernel_rfl) | (rw [if_neg (by decide +kernel)]; exact ⟨rfl, rfl⟩))
  (fun os started H enc _ => lifted os started H enc)
theorem card : Rows.OrderKeysCardSaid :=
 Claim7.holds_tied_plain_at .later [] [.data, .data, .data, .data, .data, .data, .pinned] true (true, "591cd41afe7b4b4e67348e953bda9d0a59dcbbd26f32dd65a3fcd8801666d624") false
  over (fun _ h => by cases h) (by as_aux_lemma => kernel_rfl) (fun _ h => by cases h) orderKeys_row_tie rfl ⟨rfl, rfl⟩ HeadW.main rfl
  (fun f fn hf hfn => by
   obtain rfl : f = 5 := Option.some.inj ((show Tryz.prog.funcNamed "starling/starlinglaw.OrderKeys" = some 5 by as_aux_lemma => kernel_rfl).symm.trans hf) |>.symm
   obtain rfl : fn = Tryz.f5 := (Option.some.inj (Tryz.func5.symm.trans hfn)).symm
   exact ⟨HeadW.looks.symm, fun j t ht => by
    rw [Tryz.params5] at ht
    have hm : t ∈ [22, 23] := by simpa using Array.mem_of_getElem? ht
    have hall : ([22, 23].all fun u => !Tryz.prog.wantsStandIn u) = true := by as_aux_lemma => kernel_rfl
    exact (show Tryz.prog.wantsStandIn t = false by simpa using List.all_eq_true.1 hall t hm)⟩)
  (by as_aux_lemma => kernel_rfl)
end Go.Proofs.YtbcfdhimngoplaaGreatDoor.orderKeysProof
namespace Go.Proofs.YtbcfdhimngoplaaGreatDoor
theorem orderKeys_holds : Rows.OrderKeysCardSaid := orderKeysProof.card
end Go.Proofs.YtbcfdhimngoplaaGreatDoor
