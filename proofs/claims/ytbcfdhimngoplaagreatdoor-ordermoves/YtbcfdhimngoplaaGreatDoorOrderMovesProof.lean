/-
  Proved: for every list of rows and keys OrderMoves answers true: sorted rows are those that were, none stands behind one that it is ahead of, and sorted again they stay. No condition but the form's own reach.
-/
import Derived.Test.YtbcfdhimngoplaaGreatDoorGqG
import Derived.Test.YtbcfdhimngoplaaGreatDoorGqF
import Derived.Test.YtbcfdhimngoplaaGreatDoorBjB
import Derived.Test.YtbcfdhimngoplaaGreatDoorBpB
import Derived.Test.YtbcfdhimngoplaaGreatDoorGqO
import Derived.Test.YtbcfdhimngoplaaGreatDoorBlC
namespace Go.Proofs.YtbcfdhimngoplaaGreatDoor.orderMovesProof
open Go.ChangeShapes Go.WideShapes Go.ChangeAt Go.RowKit
open Go.ChangeMaps (open_string shut_string)
set_option linter.unusedVariables false
set_option linter.unusedSimpArgs false
set_option maxRecDepth 100000
set_option maxHeartbeats 2000000
theorem walk (v0 : Value) (l0 : List (List VM.Vl)) (v1 : Value) (l1 : List BG.Ky) (w : World) (hTt : Tt w) (rw0 : IsRR w v0 l0) (ok0 : ∀ y ∈ l0, y.length * 32 ≤ 140737488351232 ∧ ∀ z ∈ y, EV.gd z ∧ z.s.size ≤ 140737488351232) (b0 : l0.length * 24 ≤ 140737488351232) (rw1 : IsL cdY w v1 l1) (ok1 : ∀ y ∈ l1, (-9223372036854775808 ≤ y.col ∧ y.col ≤ 9223372036854775807)) (b1 : l1.length * 16 ≤ 140737488351232) :
  Calls Tryz.prog 4 #[v0, v1] w fun e w' => e = .returned (.bool true) ∧ Fr w w' := by
 have HBg := hideP (fun (W : World) (f : Fr w W) => bagBegun_any W (hTt.tn.fr f) (hTt.tb.fr f))
 have HSo := hideP (fun (W : World) (v vk : Value) (ls : List (List VM.Vl)) (f : Fr w W) (h : IsRR W v ls) (hs : ∀ r ∈ ls, r ∈ l0) (hn : ls.length ≤ l0.length) => sort_any v _ ls l1 W h (rw1.fr f) (by omega) (fun r hr => by have := (ok0 r (hs r hr)).1; omega) (by omega))
 have HR := hideP rw0
 have HOk := hideP (fun r (hr : r ∈ l0) => show r.length ≤ 9223372036854775806 by have := (ok0 r hr).1; omega)
 have HSz := hideP (fun r (hr : r ∈ l0) x (hx : x ∈ r) => show x.s.size ≤ maxLen by have := ((ok0 r hr).2 x hx).2; unfold maxLen; omega)
 obtain ⟨A0, c0, rfl⟩ := rw0.slice
 have HK := hideP rw1
 obtain ⟨A1, c1, rfl, hcc, hcs⟩ := rw1
 have HB0 := hideP (show l0.length ≤ 9223372036854775806 by omega)
 have k1 := HSo.out w _ (.slice A1 l1.length c1) l0 (Fr.refl _) HR.out (fun r h => h) (Nat.le_refl _)
 have HE1 := hideP (BG.srt_er' (ls := l0) (ks := l1))
 have HEr := hideP (BG.srt_er (ls := l0) (ks := l1))
 have HAg := hideP (fun h => BG.srt_again (ls := l0) (ks := l1) h)
 clear rw0 ok0 b0 ok1 b1 hcc hcs
 have K1 := hideP k1
 clear k1
 obtain ⟨m, hm⟩ : ∃ y, outR (BG.srt l0 l1) = y := ⟨_, rfl⟩
 obtain ⟨f, hf⟩ : ∃ y, erR (BG.srt l0 l1) = y := ⟨_, rfl⟩
 rw [hm, hf] at HE1
 rw [hf] at HEr
 rw [hf, hm] at HAg
 obtain ⟨mn, hmn⟩ : ∃ y, m.length = y := ⟨_, rfl⟩
 have Hm := hideP hm
 have Hf := hideP hf
 have HMn := hideP hmn
 clear hm hf hmn
 go_enter Tryz.func4, Tryz.ntmps4
 go_wp2_with fail
 refine K1.out.mono ?_
 rintro _ w1 ⟨hA, f1⟩
 obtain ⟨ma, mc, he, hO⟩ := ra_out hA
 clear hA
 subst he
 rw [Hm.out, HMn.out] at hO ⊢
 rw [Hf.out]
 have F1 := hideP f1
 have HO1 := hideP hO.rows
 clear f1 K1 hO
 go_wp2_with fail
 refine (HBg.out _ F1.out).mono ?_
 rintro _ w2 ⟨rfl, f2⟩
 have F2 := hideP (F1.out.trans f2)
 replace HO1 := hideP (HO1.out.fr f2)
 clear f2
 by_cases hf0 : f = 0
 case neg =>
  have e1 : ((f : Int) != 0) = true := by simp; omega
  have e3 : mn = 0 := by rw [← HMn.out, HE1.out hf0]; rfl
  subst e3
  go_wp2_with fail
  go_ret
  exact ⟨rfl, F2.out⟩
 subst hf0
 obtain ⟨y, hy⟩ := HEr.out rfl
 have hmy : m = y := by have := Hm.out; rw [hy] at this; exact this.symm
 subst hmy
 obtain ⟨q1, q2, q3, q4⟩ := BG.srt_iff.1 hy
 have HMem := hideP (show ∀ r ∈ m, r ∈ l0 from fun r hr => (BO.sort_perm _).mem_iff.1 (by rw [← q4]; exact hr))
 have HLen := hideP (show m.length = l0.length by rw [q4, BO.sort_len])
 have HPm := hideP (show m.Perm l0 by rw [q4]; exact BO.sort_perm l0)
 have HSt := hideP (show BO.Sorted (BG.klt l1) m by rw [q4]; exact (BO.sort_of (BG.klt_weak l1) l0).sorted)
 have HCol := hideP (fun (r r' : List VM.Vl) (hr : r ∈ l0) (hr' : r' ∈ l0) => show ∀ k ∈ l1, 0 ≤ k.col ∧ k.col < (r.length : Int) ∧ k.col < (r'.length : Int) from fun k hk => by
  have h1 := List.all_eq_true.1 q3 k hk
  unfold BG.hasC at h1
  have hne : ¬ l0.length = 0 := by intro e; rw [List.length_eq_zero_iff.1 e] at hr; cases hr
  simp only [hne, decide_false, Bool.false_or, Bool.and_eq_true, decide_eq_true_eq] at h1
  have e1 := ((BG.chk_all q1).2 r hr).2.2
  have e2 := ((BG.chk_all q1).2 r' hr').2.2
  rw [e1, e2]
  exact ⟨h1.1, h1.2, h1.2⟩)
 have HK8 := hideP (show l1.length ≤ 1000 by omega)
 have hx40 := (BG.chk_all q1).1
 have HAgn := hideP (HAg.out rfl)
 have hmn40 : mn ≤ 40 := by have := HLen.out; have := HMn.out; omega
 obtain ⟨qs, hq, hnn, hcc, hcell, hrow⟩ := HO1.out.at
 clear hnn
 have HCe := hideP hcell
 have HRo := hideP hrow
 have HQs := hideP hq
 have HMl := hideP (show qs.length = mn by rw [hq]; exact HMn.out)
 clear hy q1 q2 q3 q4 hx40 HAg HEr hcell hrow hq hcc
 go_wp2_with fail
 go_loopw [7] (fun iv wr => ∃ i : Nat, iv = .int .i64 i ∧ 1 ≤ i ∧ Fr w2 wr) (fun iv _ => mn - (intOf iv).toNat)
 case atStart => exact ⟨1, rfl, Nat.le_refl _, Fr.refl _⟩
 case round =>
  obtain ⟨i, rfl, hi, hfr⟩ := hrel
  have HF := hideP hfr
  clear hfr
  by_cases hlt : i < mn
  case neg =>
   have hlt' : ¬ ((i : Int) < (mn : Int)) := by omega
   have k2 := HSo.out wr (.slice ma mn mc) (.slice A1 l1.length c1) m (F2.out.trans HF.out) (HO1.out.fr HF.out) HMem.out (by rw [HLen.out]; exact Nat.le_refl _)
   rw [HAgn.out] at k2
   clear HCe HRo HQs HMl
   go_wp2_with fail
   refine k2.mono ?_
   rintro _ w3 ⟨hA, f3⟩
   obtain ⟨u, he, hO⟩ := hA
   obtain ⟨sa, sc, hsl⟩ := hO.slice
   subst hsl
   subst he
   rw [HMn.out] at hO ⊢
   have HO3 := hideP hO.rows
   have F3 := hideP (HF.out.trans f3)
   clear hO f3 k2
   have ce := sameRows_eq _ _ m w3 HO3.out (HO1.out.fr F3.out) (by rw [HMn.out]; omega) (fun r hr => HOk.out r (HMem.out r hr))
   go_wp2_with fail
   refine ce.mono ?_
   rintro _ w4 ⟨rfl, f4⟩
   have F4 := hideP (F3.out.trans f4)
   clear f4 ce
   have cb := sameBag_perm _ _ l0 m w4 (HR.out.fr (F2.out.trans F4.out)) (HO1.out.fr F4.out) (fun r => (oft_perm HPm.out r).symm) HLen.out.symm (by have := HLen.out; have := HMn.out; omega) HOk.out (fun r hr => HOk.out r (HMem.out r hr))
   go_wp2_with fail
   refine cb.mono ?_
   rintro _ w5 ⟨rfl, f5⟩
   have F5 := hideP ((F2.out.trans F4.out).trans f5)
   clear f5 cb
   go_wp2_with fail
   go_ret
   exact ⟨rfl, F5.out⟩
  obtain ⟨j, rfl⟩ : ∃ j, i = j + 1 := ⟨i - 1, by omega⟩
  have hi1 : j + 1 < qs.length := by rw [HMl.out]; exact hlt
  have hj1 : j < qs.length := by omega
  have hi2 : j + 1 < m.length := by rw [HMn.out]; exact hlt
  have hj2 : j < m.length := by omega
  obtain ⟨b, o, rfl, hb, c0⟩ := HCe.out (j + 1) hi1
  obtain ⟨b', o', he, hb', c9⟩ := HCe.out j hj1
  cases he
  have r0 := HRo.out (j + 1) hi1 hi2
  have r9 := HRo.out j hj1 hj2
  have hm1 := HMem.out _ (List.getElem_mem hi2)
  have hm9 := HMem.out _ (List.getElem_mem hj2)
  have hck := fun W (fw : Fr w2 W) => keyLess_any _ _ _ l1 m[j + 1] m[j] W (HK.out.fr (F2.out.trans fw)) (r0.1.fr fw) (r9.1.fr fw) (HCol.out _ _ hm1 hm9) (HSz.out _ hm1) (HSz.out _ hm9) HK8.out
  have hkl : BG.klt l1 m[j + 1] m[j] = false := List.pairwise_iff_getElem.1 HSt.out j (j + 1) hj2 hi2 (Nat.lt_succ_self j)
  rw [hkl] at hck
  obtain ⟨q, hqq⟩ : ∃ q, qs[j + 1] = q := ⟨_, rfl⟩
  obtain ⟨p, hpp⟩ : ∃ p, qs[j] = p := ⟨_, rfl⟩
  rw [hqq] at c0 hck
  rw [hpp] at c9 hck
  obtain ⟨qa, qn, qc⟩ := q
  obtain ⟨pa, pn, pc⟩ := p
  simp only [Sq.v] at c0 c9 hck
  have HCk := hideP hck
  have HS := hideP (c2_after HF.out ⟨c0, c9⟩)
  have h1 : (j : Int) + 1 < (mn : Int) := by omega
  have h2 : (j : Int) < (mn : Int) := by omega
  have h3 : (0 : Int) ≤ (j : Int) + 1 := by omega
  have h4 : IntKind.i64.wrap ((j : Int) + 1 - 1) = (j : Int) := by rw [IntKind.wrap_i64]; omega
  have h5 : IntKind.i64.wrap (j : Int) = (j : Int) := by rw [IntKind.wrap_i64]; omega
  have h6 : (((j : Int) + 1) < 0) = False := by simp; omega
  have hz := Fr.drew (Fr.refl wr)
  clear r0 r9 hm1 hm9 hkl hqq hpp c0 c9 hck hi1 hj1 hi2 hj2 hb hb'
  go_wp2_with fail
  go_region_held3 (fun W => W.cell? ⟨b, o + (j + 1), none⟩ = some (.slice qa qn qc) ∧ W.cell? ⟨b, o + j, none⟩ = some (.slice pa pn pc)) (first | exact HS.out | exact c2_after hz HS.out | exact c2_after hf9 HS.out) (first
   | (go_at_call 14; refine (HCk.out _ (HF.out.trans hz)).mono ?_; rintro _ w3 ⟨rfl, f3⟩; have hf9 := hz.trans f3; clear f3))
  all_goals (
   have F9 := hideP (HF.out.trans hf9)
   clear hf9 hz HS
   go_wp2_with fail
   go_roundw
   case rel => exact ⟨j + 1 + 1, by go_num, by omega, F9.out⟩
   case measure => simp [intOf]; omega)

set_option maxRecDepth 100000 in
theorem lifted (os : Go.Os) (started : os.Started) (H : Type) (enc : TypeId × Value → H) :
  ReturnsInHanded {} Tryz.checked os 4 .any (fun w args => (Rows.orderMovesSpec.pre enc Tryz.prog Tryz.f4 [] false w args ∧ laidMetH Tryz.prog Rows.orderMovesRow.laid w) ∧ sizedMet enc Tryz.prog Tryz.f4 (OpenSpec.ofChange Rows.orderMovesSpec) false w args)
   (Rows.orderMovesSpec.post enc Tryz.prog Tryz.f4 false true false false) := by
 refine returnsInHanded_of_change_and (C := Tryz.checked) (X := fun w _ => laidMetH Tryz.prog Rows.orderMovesRow.laid w) (fun _ _ _ hh h => h.of_heap hh) own started (by kernel_rfl) Tryz.func4
  (ChangeSpec.witness_shaped (enc := enc) (C := Tryz.checked) (os := os) (X := fun w _ => laidMetH Tryz.prog Rows.orderMovesRow.laid w) false (World.laidAll Tryz.prog os Rows.orderMovesRow.laid) #[.slice none 0 0, .slice none 0 0] 8 (World.laidAll_os _ _ _)
   (World.shaped_of_ZipB (by kernel_rfl) (by kernel_rfl)) (by kernel_rfl) (by kernel_rfl) (by kernel_rfl)
   (by rw [MakeChecks.laidMetH_plain _ _ _ (by kernel_rfl)]; exact laidMet_laidAll _ (by kernel_rfl) (by kernel_rfl))) ?_
 intro W base args ds gs before hval0 hW hcnd hsz0 hL _
 have hT : Tt W := tabs_of_laid hL
 have hval : ∀ (j : Nat) t v, Tryz.f4.params[j]? = some t → args[j]? = some v → Value.okWide Tryz.prog W .any base t v := hval0
 have hsz : (DataW.weightsEach Tryz.prog (Tryz.f4.params.toList ++ Rows.orderMovesSpec.plain.varTypes Tryz.prog) (ds ++ gs)).all (· ≤ reachBytes) = true := hsz0
 have hW' := hW
 obtain ⟨p, q, hA0, hV, rfl, hfz, hnd⟩ := hW
 have hA : DataW.TrodAll enc Tryz.prog W 0 (fun _ => true) true Tryz.f4.params.toList args.toList ds p := hA0
 rw [Tryz.params4] at hA hval hsz
 obtain ⟨v0, vs0, d0, ds0, p0, q0, hargs, rfl, rfl, h0, r0⟩ := trodAll_cons hA
 obtain ⟨v1, vs1, d1, ds1, p1, q1, rfl, rfl, rfl, h1, r1⟩ := trodAll_cons r0
 obtain ⟨rfl, rfl, rfl⟩ := trodAll_nil r1
 obtain rfl : args = #[v0, v1] := by cases args; simp_all
 obtain ⟨rfl, rfl⟩ := trodVars_none hV
 obtain ⟨l0, rw0, ok0, b0⟩ := open_rws (hval 0 22 v0 rfl rfl) h0 (sized_at hsz (j := 0) rfl rfl)
 obtain ⟨l1, rw1, ok1, b1⟩ := open_kys (hval 1 23 v1 rfl rfl) h1 (sized_at hsz (j := 1) rfl rfl)
 clear hA0 hval0 hsz0
 refine (walk v0 l0 v1 l1 W hT rw0 ok0 b0 rw1 ok1 b1).mono fun e W' ⟨he, bel⟩ => ?_
 subst he
 exact ⟨_, rfl, _, _, _, [], _, [], hW', trodAll_mk1 (shut_bool Tryz.underlying4 _), (trodAll_cons_mk (shut_rws h0 bel) (trodAll_cons_mk (shut_kys h1 bel) trodAll_mk0)), rfl, Below.frame bel _, fun h => by cases h⟩
theorem closed : joinedFacts Tryz.prog 4 Tryz.f4 Rows.orderMovesSpec Rows.orderMovesRow = true := by
 unfold joinedFacts
 repeat' (with_reducible refine Bool.and_eq_true_iff.2 ⟨?_, ?_⟩)
 all_goals first
  | with_reducible exact HeadW.mayEnter
  | with_reducible exact laidOut
  | with_reducible exact HeadW.mapsRowed
  | with_reducible exact HeadW.stopsHeard
  | (rw [HeadW.liftsFinal]; as_aux_lemma => kernel_rfl)
  | (rw [HeadW.make]; as_aux_lemma => kernel_rfl)
  | (rw [HeadW.plainKeys]; as_aux_lemma => kernel_rfl)
  | as_aux_lemma => kernel_rfl
theorem over : Rows.orderMovesRow.holds Tryz.pinned (OpenSpec.ofChange Rows.orderMovesSpec) :=
 OpenClaim.holds_of_wide 4 Tryz.f4 rfl rfl rfl rfl rfl rfl rfl ⟨rfl, rfl, rfl, rfl, rfl⟩ rfl rfl rfl rfl rfl (by as_aux_lemma => kernel_rfl) Tryz.func4 closed
  (of_decide_eq_true (by as_aux_lemma => kernel_rfl)) (by unfold Func.isWrapper; first | (rw [if_pos (by decide +kernel)]; kernel_rfl) | (rw [if_neg (by decide +kernel)]; exact ⟨rfl, rfl⟩))
  (fun os started H enc _ => lifted os started H enc)
theorem card : Rows.OrderMovesCardSaid :=
 Claim7.holds_tied_plain_at .later [] [.data, .data, .data, .data, .data, .data, .pinned] true (true, "591cd41afe7b4b4e67348e953bda9d0a59dcbbd26f32dd65a3fcd8801666d624") false
  over (fun _ h => by cases h) (by as_aux_lemma => kernel_rfl) (fun _ h => by cases h) orderMoves_row_tie rfl ⟨rfl, rfl⟩ HeadW.main rfl
  (fun f fn hf hfn => by
   obtain rfl : f = 4 := Option.some.inj ((show Tryz.prog.funcNamed "starling/starlinglaw.OrderMoves" = some 4 by as_aux_lemma => kernel_rfl).symm.trans hf) |>.symm
   obtain rfl : fn = Tryz.f4 := (Option.some.inj (Tryz.func4.symm.trans hfn)).symm
   exact ⟨HeadW.looks.symm, fun j t ht => by
    rw [Tryz.params4] at ht
    have hm : t ∈ [22, 23] := by simpa using Array.mem_of_getElem? ht
    have hall : ([22, 23].all fun u => !Tryz.prog.wantsStandIn u) = true := by as_aux_lemma => kernel_rfl
    exact (show Tryz.prog.wantsStandIn t = false by simpa using List.all_eq_true.1 hall t hm)⟩)
  (by as_aux_lemma => kernel_rfl)
end Go.Proofs.YtbcfdhimngoplaaGreatDoor.orderMovesProof
namespace Go.Proofs.YtbcfdhimngoplaaGreatDoor
theorem orderMoves_holds : Rows.OrderMovesCardSaid := orderMovesProof.card
end Go.Proofs.YtbcfdhimngoplaaGreatDoor
