/-
  Proved: for every expression, names and values FoldSame answers true: a folded expression is worth what it was, errors too, has no more nodes, and folded again is the same. No condition but the form's own reach.
-/
import Derived.Test.YtjboeabddnnlcaaGreatDoorEwG
import Derived.Test.YtjboeabddnnlcaaGreatDoorTabs
namespace Go.Proofs.YtjboeabddnnlcaaGreatDoor.foldSameProof
open Go.ChangeShapes Go.WideShapes Go.ChangeAt Go.RowKit
open Go.ChangeMaps (open_string shut_string)
set_option linter.unusedVariables false
set_option linter.unusedSimpArgs false
set_option maxRecDepth 100000

set_option maxHeartbeats 2000000 in
theorem walk (v0 : Value) (e : List EX.Nd) (v1 : Value) (cs : List ByteArray) (v2 : Value) (l : List VM.Vl) (w : World) (hT : Tt w)
    (h0 : IsL cdN w v0 e) (k0 : ∀ y ∈ e, EV.okN y ∧ (-9223372036854775808 ≤ y.op ∧ y.op ≤ 9223372036854775807) ∧ (-9223372036854775808 ≤ y.kids ∧ y.kids ≤ 9223372036854775807)) (b0 : e.length * 64 ≤ 140737488351232)
    (h1 : IsL cdB w v1 cs) (k1 : ∀ y ∈ cs, y.size ≤ 140737488351232) (b1 : cs.length * 16 ≤ 140737488351232)
    (h2 : IsL cdV w v2 l) (k2 : ∀ y ∈ l, EV.gd y ∧ y.s.size ≤ 140737488351232) (b2 : l.length * 32 ≤ 140737488351232) :
    Calls Tryz.prog 9 #[v0, v1, v2] w fun e w' => e = .returned (.bool true) ∧ Fr w w' := by
  have HF := hideP (fold_any v0 e w h0 (fun n hn => (k0 n hn).1) (by omega) hT.tn hT.tb)
  have HE := hideP (fun W (g : Fr w W) => eval_any v0 v1 v2 e cs l W (h0.fr g) (h1.fr g) (h2.fr g) (fun n hn => (k0 n hn).1.1) (by omega) (fun c hc => by have := k1 c hc; omega) (hT.tn.fr g) (hT.tb.fr g) (fun n hn => (k0 n hn).1.2) (fun x hx => (k2 x hx).1))
  have HBg := hideP (fun W (g : Fr w W) => evalBegun_any W (hT.tn.fr g) (hT.tb.fr g))
  have hfo : ∀ x ∈ EV.fld e, EV.okN x := EV.fld_ok (fun n hn => (k0 n hn).1)
  have HE2 := hideP (fun W u (g : Fr w W) (hle : (EV.fld e).length ≤ e.length) (hu : IsL cdN W u (EV.fld e)) => eval_any u v1 v2 (EV.fld e) cs l W hu (h1.fr g) (h2.fr g) (fun n hn => (hfo n hn).1) (by omega) (fun c hc => by have := k1 c hc; omega) (hT.tn.fr g) (hT.tb.fr g) (fun n hn => (hfo n hn).2) (fun x hx => (k2 x hx).1))
  have HF2 := hideP (fun W u (g : Fr w W) (hle : (EV.fld e).length ≤ e.length) (hu : IsL cdN W u (EV.fld e)) => fold_any u (EV.fld e) W hu hfo (by omega) (hT.tn.fr g) (hT.tb.fr g))
  have HAll := hideP (fun hc => EV.fld_all (e := e) hc)
  have HBad : Hid (EX.ck e ≠ 0 → EV.ev e cs l = .error (EX.ck e)) := fun h => by unfold EV.ev; rw [if_pos h]
  obtain ⟨a0, c0, rfl, _⟩ := h0
  obtain ⟨a1, c1, rfl, _⟩ := h1
  obtain ⟨a2, c2, rfl, _⟩ := h2
  unfold FoAns at HF HF2
  clear k0 k1 k2 hT hfo
  by_cases hc : EX.ck e = 0
  · obtain ⟨q1, q2, q3, q4⟩ := HAll.out hc
    rw [q4 cs l] at HE2
    have hq2 : ((EV.fld e).length : Int) ≤ (e.length : Int) := by omega
    have HE3 := hideP (fun W u g hu => HE2.out W u g q2 hu)
    have HF3 := hideP (fun W u g hu => HF2.out W u g q2 hu)
    rw [hc] at HF
    rw [q1, q3] at HF3
    simp only [ne_eq, not_true, false_and, false_or, true_and] at HF HF3
    have hb60 : (EV.fld e).length ≤ 9223372036854775806 := by omega
    clear HE2 HF2 HAll HBad q1 q2 q3 q4 hc
    obtain ⟨rk, rn, rs, rc, hR⟩ := exV_form (EV.ev e cs l)
    rw [hR] at HE HE3
    generalize EV.fld e = m at *
    generalize e.length = n0 at *
    generalize cs.length = n1 at *
    generalize l.length = n2 at *
    clear hR
    go_enter Tryz.func9, Tryz.ntmps9
    go_wp2_with fail
    refine HF.out.mono ?_
    rintro _ w1 ⟨⟨u, rfl, hown⟩, f1⟩
    have F1 := hideP f1
    have HO := hideP hown
    clear f1 hown
    obtain ⟨ua, uc, rfl⟩ := own_slice HO.out
    have HIs := hideP (show IsL cdN w1 (.slice ua m.length uc) m from isL_own (E := cdN) HO.out)
    go_wp2_with fail
    refine (HE.out _ F1.out).mono ?_
    rintro _ w2 ⟨rfl, f2⟩
    have HV := hideP (Blk.new w2 #[.int .i64 rk, .int .i64 rn, .string rs] 26)
    have g2 : Fr w1 (w2.alloc (.cells #[.int .i64 rk, .int .i64 rn, .string rs] 26)) := f2.alloc _
    have F2 := hideP (F1.out.trans g2)
    replace HIs := hideP (HIs.out.fr g2)
    clear f2 g2
    go_wp2_with fail
    generalize w2.alloc (.cells #[.int .i64 rk, .int .i64 rn, .string rs] 26) = wv at *
    generalize w2.heap.size = bv at *
    refine (HBg.out _ F2.out).mono ?_
    rintro _ w3 ⟨rfl, f3⟩
    have F3 := hideP (F2.out.trans f3)
    replace HIs := hideP (HIs.out.fr f3)
    replace HV := hideP (HV.out.fr f3)
    clear f3
    have HCa := hideP (HE3.out w3 _ F3.out HIs.out)
    go_wp2_with fail
    refine HCa.out.mono ?_
    rintro _ w4 ⟨rfl, f4⟩
    have HV2 := hideP (Blk.new w4 #[.int .i64 rk, .int .i64 rn, .string rs] 26)
    have g4 : Fr w3 (w4.alloc (.cells #[.int .i64 rk, .int .i64 rn, .string rs] 26)) := f4.alloc _
    have F4 := hideP (F3.out.trans g4)
    replace HIs := hideP (HIs.out.fr g4)
    replace HV := hideP (HV.out.fr g4)
    clear f4 g4
    have HCb := hideP (HF3.out _ _ F4.out HIs.out)
    go_wp2_with fail
    generalize w4.alloc (.cells #[.int .i64 rk, .int .i64 rn, .string rs] 26) = ww at *
    generalize w4.heap.size = bw at *
    refine HCb.out.mono ?_
    rintro _ w5 ⟨⟨u5, rfl, hown5⟩, f5⟩
    have HO5 := hideP hown5
    have F5 := hideP (F4.out.trans f5)
    replace HIs := hideP (HIs.out.fr f5)
    have x0 := (HV.out.fr f5).cell 0 rfl
    have x1 := (HV.out.fr f5).cell 1 rfl
    have x2 := (HV.out.fr f5).cell 2 rfl
    have y0 := (HV2.out.fr f5).cell 0 rfl
    have y1 := (HV2.out.fr f5).cell 1 rfl
    have y2 := (HV2.out.fr f5).cell 2 rfl
    obtain ⟨ub, ud, rfl⟩ := own_slice HO5.out
    have HIs5 := hideP (show IsL cdN w5 (.slice ub m.length ud) m from isL_own (E := cdN) HO5.out)
    have HCs := hideP (sameNodes_eq _ _ m w5 HIs5.out HIs.out hb60)
    clear f5 hown5
    go_wp2_with fail
    refine HCs.out.mono ?_
    rintro _ w6 ⟨rfl, f6⟩
    go_wp2_with fail
    go_ret
    exact ⟨rfl, F5.out.trans f6⟩
  · have hR := HBad.out hc
    rw [hR] at HE
    simp only [exV, vlV] at HE
    simp only [hc, ne_eq, not_false_eq_true, true_and, false_and, or_false] at HF
    have e1 : ((EX.ck e : Int) != 0) = true := by simp; omega
    have e2 : ¬ ((EX.ck e : Int) = 0) := by omega
    clear HE2 HF2 HAll HBad hR
    generalize (EX.ck e : Int) = z at *
    generalize e.length = n0 at *
    generalize cs.length = n1 at *
    generalize l.length = n2 at *
    go_enter Tryz.func9, Tryz.ntmps9
    go_wp2_with fail
    refine HF.out.mono ?_
    rintro _ w1 ⟨rfl, f1⟩
    have F1 := hideP f1
    clear f1
    go_wp2_with fail
    refine (HE.out _ F1.out).mono ?_
    rintro _ w2 ⟨rfl, f2⟩
    have F2 := hideP (F1.out.trans (f2.alloc (.cells #[.int .i64 EX.nul.k, .int .i64 EX.nul.n, .string EX.nul.s] 26)))
    clear f2
    go_wp2_with fail
    refine (HBg.out _ F2.out).mono ?_
    rintro _ w3 ⟨rfl, f3⟩
    go_wp2_with fail
    go_ret
    exact ⟨rfl, F2.out.trans f3⟩

set_option maxRecDepth 100000 in
theorem lifted (os : Go.Os) (started : os.Started) (H : Type) (enc : TypeId × Value → H) :
    ReturnsInHanded {} Tryz.checked os 9 .any (fun w args => (Rows.foldSameSpec.pre enc Tryz.prog Tryz.f9 [] false w args ∧ laidMetH Tryz.prog Rows.foldSameRow.laid w) ∧ sizedMet enc Tryz.prog Tryz.f9 (OpenSpec.ofChange Rows.foldSameSpec) false w args)
      (Rows.foldSameSpec.post enc Tryz.prog Tryz.f9 false true false false) := by
  refine returnsInHanded_of_change_and (C := Tryz.checked) (X := fun w _ => laidMetH Tryz.prog Rows.foldSameRow.laid w) (fun _ _ _ hh h => h.of_heap hh) own started (by kernel_rfl) Tryz.func9
    (ChangeSpec.witness_shaped (enc := enc) (C := Tryz.checked) (os := os) (X := fun w _ => laidMetH Tryz.prog Rows.foldSameRow.laid w) false (World.laidAll Tryz.prog os Rows.foldSameRow.laid) #[.slice none 0 0, .slice none 0 0, .slice none 0 0] 8 (World.laidAll_os _ _ _)
      (World.shaped_of_ZipB (by kernel_rfl) (by kernel_rfl)) (by kernel_rfl) (by kernel_rfl) (by kernel_rfl)
      (by rw [MakeChecks.laidMetH_plain _ _ _ (by kernel_rfl)]; exact laidMet_laidAll _ (by kernel_rfl) (by kernel_rfl))) ?_
  intro W base args ds gs before hval0 hW hcnd hsz0 hL _
  have hT : Tt W := tabs_of_laid hL
  have hval : ∀ (j : Nat) t v, Tryz.f9.params[j]? = some t → args[j]? = some v → Value.okWide Tryz.prog W .any base t v := hval0
  have hsz : (DataW.weightsEach Tryz.prog (Tryz.f9.params.toList ++ Rows.foldSameSpec.plain.varTypes Tryz.prog) (ds ++ gs)).all (· ≤ reachBytes) = true := hsz0
  have hW' := hW
  obtain ⟨p, q, hA0, hV, rfl, hfz, hnd⟩ := hW
  have hA : DataW.TrodAll enc Tryz.prog W 0 (fun _ => true) true Tryz.f9.params.toList args.toList ds p := hA0
  rw [Tryz.params9] at hA hval hsz
  obtain ⟨v0, vs0, d0, ds0, p0, q0, hargs, rfl, rfl, h0, r0⟩ := trodAll_cons hA
  obtain ⟨v1, vs1, d1, ds1, p1, q1, rfl, rfl, rfl, h1, r1⟩ := trodAll_cons r0
  obtain ⟨v2, vs2, d2, ds2, p2, q2, rfl, rfl, rfl, h2, r2⟩ := trodAll_cons r1
  obtain ⟨rfl, rfl, rfl⟩ := trodAll_nil r2
  obtain rfl : args = #[v0, v1, v2] := by cases args; simp_all
  obtain ⟨rfl, rfl⟩ := trodVars_none hV
  obtain ⟨l0, rw0, ok0, b0⟩ := open_nds (hval 0 22 v0 rfl rfl) h0 (sized_at hsz (j := 0) rfl rfl)
  obtain ⟨l1, rw1, ok1, b1⟩ := open_cls (hval 1 23 v1 rfl rfl) h1 (sized_at hsz (j := 1) rfl rfl)
  obtain ⟨l2, rw2, ok2, b2⟩ := open_vrw (hval 2 24 v2 rfl rfl) h2 (sized_at hsz (j := 2) rfl rfl)
  clear hA0 hval0 hsz0
  refine (walk v0 l0 v1 l1 v2 l2 W hT rw0 ok0 b0 rw1 ok1 b1 rw2 ok2 b2).mono fun e W' ⟨he, bel⟩ => ?_
  subst he
  exact ⟨_, rfl, _, _, _, [], _, [], hW', trodAll_mk1 (shut_bool Tryz.underlying4 _), (trodAll_cons_mk (shut_nds h0 bel) (trodAll_cons_mk (shut_cls h1 bel) (trodAll_cons_mk (shut_vrw h2 bel) trodAll_mk0))), rfl, Below.frame bel _, fun h => by cases h⟩

theorem over : Rows.foldSameRow.holds Tryz.pinned (OpenSpec.ofChange Rows.foldSameSpec) :=
  OpenClaim.holds_of_wide 9 Tryz.f9 rfl rfl rfl rfl rfl rfl rfl ⟨rfl, rfl, rfl, rfl, rfl⟩ rfl rfl rfl rfl rfl (by kernel_rfl) Tryz.func9 (by kernel_rfl)
    (of_decide_eq_true (by kernel_rfl)) (by unfold Func.isWrapper; first | (rw [if_pos (by decide +kernel)]; kernel_rfl) | (rw [if_neg (by decide +kernel)]; exact ⟨rfl, rfl⟩))
    (fun os started H enc _ => lifted os started H enc)

theorem card : Rows.FoldSameCardSaid :=
  Claim7.holds_tied_plain_at .later [] [.data, .data, .data, .data, .data, .data, .pinned] true (true, "96cea82cc36b5cf1a3380f7b37f60b58bdddc176841e44ac2e27ea7ff724803d") false
    over (fun _ h => by cases h) (by kernel_rfl) (fun _ h => by cases h) foldSame_row_tie rfl ⟨rfl, rfl⟩ (by kernel_rfl) rfl
    (fun f fn hf hfn => by
      obtain rfl : f = 9 := Option.some.inj ((show Tryz.prog.funcNamed "starling/starlinglaw.FoldSame" = some 9 by kernel_rfl).symm.trans hf) |>.symm
      obtain rfl : fn = Tryz.f9 := (Option.some.inj (Tryz.func9.symm.trans hfn)).symm
      exact ⟨by kernel_rfl, fun j t ht => by
        rw [Tryz.params9] at ht
        have hm : t ∈ [22, 23, 24] := by simpa using Array.mem_of_getElem? ht
        have hall : ([22, 23, 24].all fun u => !Tryz.prog.wantsStandIn u) = true := by kernel_rfl
        exact (show Tryz.prog.wantsStandIn t = false by simpa using List.all_eq_true.1 hall t hm)⟩)
    (by kernel_rfl)

end Go.Proofs.YtjboeabddnnlcaaGreatDoor.foldSameProof
namespace Go.Proofs.YtjboeabddnnlcaaGreatDoor
theorem foldSame_holds : Rows.FoldSameCardSaid := foldSameProof.card
#print axioms foldSame_holds
end Go.Proofs.YtjboeabddnnlcaaGreatDoor
