/-
  Proved: for every expression, names and values PushSame answers true: a pushed expression has the truth that it had, and has one just if it had one. No condition but the form's own reach.
-/
import Derived.Test.YtjboeabddnnlcaaGreatDoorEwG
import Derived.Test.YtjboeabddnnlcaaGreatDoorTabs
namespace Go.Proofs.YtjboeabddnnlcaaGreatDoor.pushSameProof
open Go.ChangeShapes Go.WideShapes Go.ChangeAt Go.RowKit
open Go.ChangeMaps (open_string shut_string)
set_option linter.unusedVariables false
set_option linter.unusedSimpArgs false
set_option maxRecDepth 100000

set_option maxHeartbeats 2000000 in
theorem walk (v0 : Value) (e : List EX.Nd) (v1 : Value) (cs : List ByteArray) (v2 : Value) (l : List VM.Vl) (w : World) (hT : Tt w)
    (h0 : IsL cdN w v0 e) (k0 : ∀ y ∈ e, EV.okN y ∧ (-9223372036854775808 ≤ y.op ∧ y.op ≤ 9223372036854775807) ∧ (-9223372036854775808 ≤ y.kids ∧ y.kids ≤ 9223372036854775807)) (b0 : e.length * 64 ≤ 140737488351232)
    (h1 : IsL cdB w v1 cs) (k1 : ∀ y ∈ cs, y.size ≤ 140737488351232) (b1 : cs.length * 16 ≤ 140737488351232)
    (h2 : IsL cdV w v2 l) (k2 : ∀ y ∈ l, EV.gd y ∧ y.s.size ≤ 140737488351232) (b2 : l.length * 32 ≤ 140737488351232) :
    Calls Tryz.prog 11 #[v0, v1, v2] w fun e w' => e = .returned (.bool true) ∧ Fr w w' := by
  have HP := hideP (psh_any v0 e w h0 (fun n hn => (k0 n hn).1.1) (by omega) hT.tn)
  have HT1 := hideP (fun W (g : Fr w W) => truth_any v0 v1 v2 e cs l W (h0.fr g) (h1.fr g) (h2.fr g) (fun n hn => (k0 n hn).1.1) (by omega) (fun c hc => by have := k1 c hc; omega) (hT.tn.fr g) (hT.tb.fr g) (fun n hn => (k0 n hn).1.2) (fun x hx => (k2 x hx).1))
  have HBg := hideP (fun W (g : Fr w W) => evalBegun_any W (hT.tn.fr g) (hT.tb.fr g))
  have HT2 := hideP (fun W u (g : Fr w W) (hc : EX.ck e = 0) (hc2 : EX.ck (EV.psh e) = 0) (hu : IsL cdN W u (EV.psh e)) => truth_any u v1 v2 (EV.psh e) cs l W hu (h1.fr g) (h2.fr g) (fun n hn => (EV.psh_ok hc (fun x hx => (k0 x hx).1) n hn).1) (by have := (EX.ck_ok hc2).1; omega) (fun c hc => by have := k1 c hc; omega) (hT.tn.fr g) (hT.tb.fr g) (fun n hn => (EV.psh_ok hc (fun x hx => (k0 x hx).1) n hn).2) (fun x hx => (k2 x hx).1))
  have HSame := hideP (fun hc hc2 => EV.psh_same (e := e) (cs := cs) (l := l) hc hc2)
  have HN1 := hideP (fun c (h : EV.tru e cs l = .error c) => EV.tru_ne h)
  have HN2 := hideP (fun c (h : EV.tru (EV.psh e) cs l = .error c) => EV.tru_ne h)
  obtain ⟨a0, c0, rfl, _⟩ := h0
  obtain ⟨a1, c1, rfl, _⟩ := h1
  obtain ⟨a2, c2, rfl, _⟩ := h2
  generalize EV.tru e cs l = A at *
  generalize EV.tru (EV.psh e) cs l = B at *
  unfold PsAns at HP
  clear k0 k1 k2 hT
  generalize e.length = n0 at *
  generalize cs.length = n1 at *
  generalize l.length = n2 at *
  have hA : (∃ t, A = .ok t ∧ exT A = .tuple #[.int .i64 t, .int .i64 0]) ∨ ∃ c : Nat, A = .error c ∧ c ≠ 0 ∧ exT A = .tuple #[.int .i64 0, .int .i64 (c : Int)] := by
    cases hA : A with
    | ok t => exact .inl ⟨t, rfl, rfl⟩
    | error c => exact .inr ⟨c, rfl, HN1.out c hA, rfl⟩
  obtain ⟨p, q, hpq⟩ : ∃ p q : Int, exT A = .tuple #[.int .i64 p, .int .i64 q] := by
    rcases hA with ⟨t, _, h⟩ | ⟨c, _, _, h⟩
    · exact ⟨_, _, h⟩
    · exact ⟨_, _, h⟩
  have HA := hideP hA
  have HPq := hideP hpq
  rw [hpq] at HT1
  clear hA hpq
  go_enter Tryz.func11, Tryz.ntmps11
  go_wp2_with fail
  refine HP.out.mono ?_
  rintro _ w1 ⟨hp, f1⟩
  have F1 := hideP f1
  clear f1
  rcases hp with ⟨hc, rfl⟩ | ⟨hc, hc2, rfl⟩ | ⟨hc, hc2, u, rfl, hown⟩
  · have e1 : ((EX.ck e : Int) != 0) = true := by simp; omega
    have e2 : ¬ ((EX.ck e : Int) = 0) := by omega
    generalize (EX.ck e : Int) = z at *
    go_wp2_with fail
    refine (HT1.out _ F1.out).mono ?_
    rintro _ w2 ⟨rfl, f2⟩
    have F2 := hideP (F1.out.trans f2)
    clear f2
    go_wp2_with fail
    refine (HBg.out _ F2.out).mono ?_
    rintro _ w3 ⟨rfl, f3⟩
    go_wp2_with fail
    go_ret
    exact ⟨rfl, F2.out.trans f3⟩
  · have e1 : ((EX.ck (EV.psh e) : Int) != 0) = true := by simp; omega
    have e2 : ¬ ((EX.ck (EV.psh e) : Int) = 0) := by omega
    generalize (EX.ck (EV.psh e) : Int) = z at *
    go_wp2_with fail
    refine (HT1.out _ F1.out).mono ?_
    rintro _ w2 ⟨rfl, f2⟩
    have F2 := hideP (F1.out.trans f2)
    clear f2
    go_wp2_with fail
    refine (HBg.out _ F2.out).mono ?_
    rintro _ w3 ⟨rfl, f3⟩
    go_wp2_with fail
    go_ret
    exact ⟨rfl, F2.out.trans f3⟩
  · have HSm := hideP (HSame.out hc hc2)
    have HT3 := hideP (fun W u g hu => HT2.out W u g hc hc2 hu)
    have HO := hideP hown
    clear hc hc2 HSame hown HT2
    generalize EV.psh e = m at *
    obtain ⟨ua, uc, rfl⟩ := own_slice HO.out
    have HIs := hideP (show IsL cdN w1 (.slice ua m.length uc) m from isL_own (E := cdN) HO.out)
    go_wp2_with fail
    refine (HT1.out _ F1.out).mono ?_
    rintro _ w2 ⟨rfl, f2⟩
    have F2 := hideP (F1.out.trans f2)
    replace HIs := hideP (HIs.out.fr f2)
    clear f2
    go_wp2_with fail
    refine (HBg.out _ F2.out).mono ?_
    rintro _ w3 ⟨rfl, f3⟩
    have F3 := hideP (F2.out.trans f3)
    replace HIs := hideP (HIs.out.fr f3)
    clear f3
    have HCa := hideP (HT3.out w3 _ F3.out HIs.out)
    rcases HA.out with ⟨t, hA, hE⟩ | ⟨c, hA, hc0, hE⟩
    · have hB : B = .ok t := by
        have := HSm.out
        rw [hA] at this
        cases hb : B with
        | ok t' => rw [hb] at this; injection this with this; rw [this]
        | error c => rw [hb] at this; cases this
      obtain ⟨rfl, rfl⟩ : p = t ∧ q = 0 := by
        have := HPq.out.symm.trans hE
        simp at this
        exact this
      subst hB
      simp only [exT] at HCa
      clear hA hE
      go_wp2_with fail
      refine HCa.out.mono ?_
      rintro _ w4 ⟨rfl, f4⟩
      go_wp2_with fail
      go_ret
      exact ⟨rfl, F3.out.trans f4⟩
    · obtain ⟨d, hB, hd0⟩ : ∃ d, B = .error d ∧ d ≠ 0 := by
        have := HSm.out
        rw [hA] at this
        cases hb : B with
        | ok t' => rw [hb] at this; cases this
        | error d => exact ⟨d, rfl, HN2.out d hb⟩
      obtain ⟨rfl, rfl⟩ : p = 0 ∧ q = (c : Int) := by
        have := HPq.out.symm.trans hE
        simp at this
        exact this
      subst hB
      simp only [exT] at HCa
      have e3 : ((c : Int) == 0) = false := by simp; omega
      have e4 : ¬ ((c : Int) = 0) := by omega
      have e5 : ((d : Int) == 0) = false := by simp; omega
      have e6 : ¬ ((d : Int) = 0) := by omega
      clear hA hE
      go_wp2_with fail
      refine HCa.out.mono ?_
      rintro _ w4 ⟨rfl, f4⟩
      go_wp2_with fail
      go_ret
      exact ⟨rfl, F3.out.trans f4⟩

set_option maxRecDepth 100000 in
theorem lifted (os : Go.Os) (started : os.Started) (H : Type) (enc : TypeId × Value → H) :
    ReturnsInHanded {} Tryz.checked os 11 .any (fun w args => (Rows.pushSameSpec.pre enc Tryz.prog Tryz.f11 [] false w args ∧ laidMetH Tryz.prog Rows.pushSameRow.laid w) ∧ sizedMet enc Tryz.prog Tryz.f11 (OpenSpec.ofChange Rows.pushSameSpec) false w args)
      (Rows.pushSameSpec.post enc Tryz.prog Tryz.f11 false true false false) := by
  refine returnsInHanded_of_change_and (C := Tryz.checked) (X := fun w _ => laidMetH Tryz.prog Rows.pushSameRow.laid w) (fun _ _ _ hh h => h.of_heap hh) own started (by kernel_rfl) Tryz.func11
    (ChangeSpec.witness_shaped (enc := enc) (C := Tryz.checked) (os := os) (X := fun w _ => laidMetH Tryz.prog Rows.pushSameRow.laid w) false (World.laidAll Tryz.prog os Rows.pushSameRow.laid) #[.slice none 0 0, .slice none 0 0, .slice none 0 0] 8 (World.laidAll_os _ _ _)
      (World.shaped_of_ZipB (by kernel_rfl) (by kernel_rfl)) (by kernel_rfl) (by kernel_rfl) (by kernel_rfl)
      (by rw [MakeChecks.laidMetH_plain _ _ _ (by kernel_rfl)]; exact laidMet_laidAll _ (by kernel_rfl) (by kernel_rfl))) ?_
  intro W base args ds gs before hval0 hW hcnd hsz0 hL _
  have hT : Tt W := tabs_of_laid hL
  have hval : ∀ (j : Nat) t v, Tryz.f11.params[j]? = some t → args[j]? = some v → Value.okWide Tryz.prog W .any base t v := hval0
  have hsz : (DataW.weightsEach Tryz.prog (Tryz.f11.params.toList ++ Rows.pushSameSpec.plain.varTypes Tryz.prog) (ds ++ gs)).all (· ≤ reachBytes) = true := hsz0
  have hW' := hW
  obtain ⟨p, q, hA0, hV, rfl, hfz, hnd⟩ := hW
  have hA : DataW.TrodAll enc Tryz.prog W 0 (fun _ => true) true Tryz.f11.params.toList args.toList ds p := hA0
  rw [Tryz.params11] at hA hval hsz
  obtain ⟨v0, vs0, d0, ds0, p0, q0, hargs, rfl, rfl, h0, r0⟩ := trodAll_cons hA
  obtain ⟨v1, vs1, d1, ds1, p1, q1, rfl, rfl, rfl, h1, r1⟩ := trodAll_cons r0
  obtain ⟨v2, vs2, d2, ds2, p2, q2, rfl, rfl, rfl, h2, r2⟩ := trodAll_cons r1
  obtain ⟨rfl, rfl, rfl⟩ := trodAll_nil r2
  obtain rfl : args = #[v0, v1, v2] := by cases args; simp_all
  obtain ⟨rfl, rfl⟩ := trodVars_none hV
  obtain ⟨l0, rw0, ok0, b0⟩ := open_nds (hval 0 22 v0 rfl rfl) h0 (sized_at hsz (j := 0) rfl rfl)
  obtain ⟨l1, rw1, ok1, b1⟩ := open_cls (hval 1 23 v1 rfl rfl) h1 (sized_at hsz (j := 1) rfl rfl)
  obtain ⟨l2, rw2, ok2, b2⟩ := open_vrw (hval 2 24 v2 rfl rfl) h2 (sized_at hsz (j := 2) rfl rfl)
  clear hA0 hval0 hsz0
  refine (walk v0 l0 v1 l1 v2 l2 W hT rw0 ok0 b0 rw1 ok1 b1 rw2 ok2 b2).mono fun e W' ⟨he, bel⟩ => ?_
  subst he
  exact ⟨_, rfl, _, _, _, [], _, [], hW', trodAll_mk1 (shut_bool Tryz.underlying4 _), (trodAll_cons_mk (shut_nds h0 bel) (trodAll_cons_mk (shut_cls h1 bel) (trodAll_cons_mk (shut_vrw h2 bel) trodAll_mk0))), rfl, Below.frame bel _, fun h => by cases h⟩

theorem over : Rows.pushSameRow.holds Tryz.pinned (OpenSpec.ofChange Rows.pushSameSpec) :=
  OpenClaim.holds_of_wide 11 Tryz.f11 rfl rfl rfl rfl rfl rfl rfl ⟨rfl, rfl, rfl, rfl, rfl⟩ rfl rfl rfl rfl rfl (by kernel_rfl) Tryz.func11 (by kernel_rfl)
    (of_decide_eq_true (by kernel_rfl)) (by unfold Func.isWrapper; first | (rw [if_pos (by decide +kernel)]; kernel_rfl) | (rw [if_neg (by decide +kernel)]; exact ⟨rfl, rfl⟩))
    (fun os started H enc _ => lifted os started H enc)

theorem card : Rows.PushSameCardSaid :=
  Claim7.holds_tied_plain_at .later [] [.data, .data, .data, .data, .data, .data, .pinned] true (true, "96cea82cc36b5cf1a3380f7b37f60b58bdddc176841e44ac2e27ea7ff724803d") false
    over (fun _ h => by cases h) (by kernel_rfl) (fun _ h => by cases h) pushSame_row_tie rfl ⟨rfl, rfl⟩ (by kernel_rfl) rfl
    (fun f fn hf hfn => by
      obtain rfl : f = 11 := Option.some.inj ((show Tryz.prog.funcNamed "starling/starlinglaw.PushSame" = some 11 by kernel_rfl).symm.trans hf) |>.symm
      obtain rfl : fn = Tryz.f11 := (Option.some.inj (Tryz.func11.symm.trans hfn)).symm
      exact ⟨by kernel_rfl, fun j t ht => by
        rw [Tryz.params11] at ht
        have hm : t ∈ [22, 23, 24] := by simpa using Array.mem_of_getElem? ht
        have hall : ([22, 23, 24].all fun u => !Tryz.prog.wantsStandIn u) = true := by kernel_rfl
        exact (show Tryz.prog.wantsStandIn t = false by simpa using List.all_eq_true.1 hall t hm)⟩)
    (by kernel_rfl)

end Go.Proofs.YtjboeabddnnlcaaGreatDoor.pushSameProof
namespace Go.Proofs.YtjboeabddnnlcaaGreatDoor
theorem pushSame_holds : Rows.PushSameCardSaid := pushSameProof.card
#print axioms pushSame_holds
end Go.Proofs.YtjboeabddnnlcaaGreatDoor
