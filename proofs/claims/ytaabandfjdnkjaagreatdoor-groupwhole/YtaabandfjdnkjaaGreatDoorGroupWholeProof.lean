/-
  Proved: for every list of rows and two columns GroupWhole answers true: what is told of all is told of what is told of the groups. No condition but the form's own reach.
-/
import Derived.Test.YtaabandfjdnkjaaGreatDoorGqG
import Derived.Test.YtaabandfjdnkjaaGreatDoorGqF
import Derived.Test.YtaabandfjdnkjaaGreatDoorBjB
import Derived.Test.YtaabandfjdnkjaaGreatDoorBnC
namespace Go.Proofs.YtaabandfjdnkjaaGreatDoor.groupWholeProof
open Go.ChangeShapes Go.WideShapes Go.ChangeAt Go.RowKit
open Go.ChangeMaps (open_string shut_string)
set_option linter.unusedVariables false
set_option linter.unusedSimpArgs false
set_option maxRecDepth 100000
set_option maxHeartbeats 2000000
set_option maxHeartbeats 4000000
theorem orr_len {B : Nat} {w : World} {v : Value} {ls : List (List VM.Vl)} (h : ORR B w v ls) : ls.length ≤ 9223372036854775807 := by
  obtain ⟨qs, h1, h2, _⟩ := h
  rcases h1.2 with ⟨_, h0⟩ | ⟨g, cap, cur, _, _, _, h3, h4, _⟩
  · have := h1.1
    rw [h0] at this
    simp at this
    omega
  · unfold maxLen at h4
    omega
theorem nilZ (W : World) : IsL cdZ W (.slice none 0 0) [] := ⟨none, 0, rfl, by simp, .inl rfl⟩
theorem litA (W : World) (c : Int) : IsL cdG (W.alloc (.cells #[.int .i64 1, .int .i64 c, .int .i64 2, .int .i64 c, .int .i64 3, .int .i64 c, .int .i64 4, .int .i64 c] 50)) (.slice (some ⟨W.heap.size, 0, none⟩) 4 4) (BG.A4 c) := lit_many cdG W (BG.A4 c) 50
theorem litA' (W : World) (o : Obj) (c : Int) : IsL cdG ((W.alloc o).alloc (.cells #[.int .i64 1, .int .i64 c, .int .i64 2, .int .i64 c, .int .i64 3, .int .i64 c, .int .i64 4, .int .i64 c] 50)) (.slice (some ⟨W.heap.size + 1, 0, none⟩) 4 4) (BG.A4 c) := by
  have h := litA (W.alloc o) c
  rw [World.size_alloc] at h
  exact h
theorem lit1 (W : World) (c : Int) (o : Obj) : IsL cdZ ((W.alloc (.cells #[.int .i64 c] 3)).alloc o) (.slice (some ⟨W.heap.size, 0, none⟩) 1 1) [c] := (lit_one cdZ W c 3).fr ((Fr.refl _).alloc _)
theorem litB (W : World) : IsL cdG (W.alloc (.cells #[.int .i64 2, .int .i64 1, .int .i64 2, .int .i64 2, .int .i64 3, .int .i64 3, .int .i64 4, .int .i64 4] 50)) (.slice (some ⟨W.heap.size, 0, none⟩) 4 4) BG.B4 := lit_many cdG W BG.B4 50
theorem walk (v0 : Value) (l0 : List (List VM.Vl)) (a1 : Int) (a2 : Int) (w : World) (hTt : Tt w) (rw0 : IsRR w v0 l0) (ok0 : ∀ y ∈ l0, y.length * 32 ≤ 140737488351232 ∧ ∀ z ∈ y, EV.gd z ∧ z.s.size ≤ 140737488351232) (b0 : l0.length * 24 ≤ 140737488351232) (w1 : -9223372036854775808 ≤ a1 ∧ a1 ≤ 9223372036854775807) (w2 : -9223372036854775808 ≤ a2 ∧ a2 ≤ 9223372036854775807) :
    Calls Tryz.prog 10 #[v0, .int .i64 a1, .int .i64 a2] w fun e w' => e = .returned (.bool true) ∧ Fr w w' := by
  have HBg := hideP (fun (W : World) (f : Fr w W) => bagBegun_any W (hTt.tn.fr f) (hTt.tb.fr f))
  have HR := hideP rw0
  have HLm := hideP (show l0.length ≤ 9223372036854775806 by omega)
  have HOk := hideP (fun r (hr : r ∈ l0) => show r.length ≤ 9223372036854775806 by have := (ok0 r hr).1; omega)
  have HWd := hideP (fun r (hr : r ∈ l0) (x : VM.Vl) (hx : x ∈ r) => show LM.wide x from ⟨((ok0 r hr).2 x hx).1.1.1, ((ok0 r hr).2 x hx).1.1.2⟩)
  obtain ⟨A0, c0, rfl⟩ := rw0.slice
  have hlen0 : l0.length ≤ 5864062014635 := by omega
  have HG1 := hideP (fun (W : World) (gv : Value) (f : Fr w W) (hg : IsL cdG W gv (BG.A4 a1)) => group_any (.slice A0 l0.length c0) (.slice none 0 0) gv l0 [] (BG.A4 a1) W (HR.out.fr f) (nilZ W) hg HWd.out HLm.out HOk.out (by decide) (by simp [BG.A4]))
  have HG2 := hideP (fun (W : World) (cv gv : Value) (f : Fr w W) (hc : IsL cdZ W cv [a2]) (hg : IsL cdG W gv (BG.A4 a1)) => group_any (.slice A0 l0.length c0) cv gv l0 [a2] (BG.A4 a1) W (HR.out.fr f) hc hg HWd.out HLm.out HOk.out (by simp) (by simp [BG.A4]))
  obtain ⟨nL, hnL⟩ : ∃ n, l0.length = n := ⟨_, rfl⟩
  rw [hnL] at HG1 HG2 hlen0 ⊢
  have HNL := hideP hnL
  clear hnL rw0 ok0 b0
  cases hx : BG.gpO l0 [] (BG.A4 a1) with
  | error c =>
    have hne := BG.gpO_ne hx
    rw [hx] at HG1
    have hc1 : ((c : Int) != 0) = true := by simp; omega
    have hc2 : ((c : Int) == 0) = false := by simp; omega
    clear hne hx
    cases hy : BG.gpO l0 [a2] (BG.A4 a1) with
    | error d =>
      have hne := BG.gpO_ne hy
      rw [hy] at HG2
      have hd2 : ((d : Int) == 0) = false := by simp; omega
      clear hne hy
      go_enter Tryz.func10, Tryz.ntmps10
      go_wp2_with fail
      refine (HG1.out _ _ ((Fr.refl _).alloc _) (litA _ _)).mono ?_
      rintro _ w1 ⟨rfl, f1⟩
      have F1 := hideP (((Fr.refl w).alloc _).trans f1)
      clear f1
      go_wp2_with fail
      refine (HG2.out _ _ _ ((F1.out.alloc _).alloc _) (lit1 _ _ _) (litA' _ _ _)).mono ?_
      rintro _ w2 ⟨rfl, f2⟩
      have f2a := (((Fr.refl w1).alloc _).alloc _).trans f2
      have F2 := hideP (F1.out.trans f2a)
      clear f2 f2a
      go_wp2_with fail
      refine (HBg.out _ F2.out).mono ?_
      rintro _ w3 ⟨rfl, f3⟩
      have F3 := hideP (F2.out.trans f3)
      clear f3
      go_wp2_with fail
      go_ret
      exact ⟨rfl, F3.out⟩
    | ok g =>
      rw [hy] at HG2
      clear hy
      go_enter Tryz.func10, Tryz.ntmps10
      go_wp2_with fail
      refine (HG1.out _ _ ((Fr.refl _).alloc _) (litA _ _)).mono ?_
      rintro _ w1 ⟨rfl, f1⟩
      have F1 := hideP (((Fr.refl w).alloc _).trans f1)
      clear f1
      go_wp2_with fail
      refine (HG2.out _ _ _ ((F1.out.alloc _).alloc _) (lit1 _ _ _) (litA' _ _ _)).mono ?_
      rintro _ w2 ⟨⟨u, rfl, hP⟩, f2⟩
      have f2a := (((Fr.refl w1).alloc _).alloc _).trans f2
      have F2 := hideP (F1.out.trans f2a)
      clear f2 f2a
      obtain ⟨ga, gc, rfl⟩ := hP.slice
      have hP2 := hP.rows
      have HP := hideP hP2
      clear hP hP2
      go_wp2_with fail
      refine (HBg.out _ F2.out).mono ?_
      rintro _ w3 ⟨rfl, f3⟩
      have F3 := hideP (F2.out.trans f3)
      replace HP := hideP (HP.out.fr f3)
      clear f3
      go_wp2_with fail
      go_ret
      exact ⟨rfl, F3.out⟩
  | ok m =>
    rw [hx] at HG1
    have HX := hideP hx
    clear hx
    cases hy : BG.gpO l0 [a2] (BG.A4 a1) with
    | error d =>
      have hne := BG.gpO_ne hy
      rw [hy] at HG2
      have hd1 : ((d : Int) != 0) = true := by simp; omega
      have hd2 : ((d : Int) == 0) = false := by simp; omega
      clear hne hy
      go_enter Tryz.func10, Tryz.ntmps10
      go_wp2_with fail
      refine (HG1.out _ _ ((Fr.refl _).alloc _) (litA _ _)).mono ?_
      rintro _ w1 ⟨⟨u, rfl, hO⟩, f1⟩
      have F1 := hideP (((Fr.refl w).alloc _).trans f1)
      clear f1
      obtain ⟨ma, mc, rfl⟩ := hO.slice
      have hO2 := hO.rows
      have HO := hideP hO2
      clear hO hO2
      go_wp2_with fail
      refine (HG2.out _ _ _ ((F1.out.alloc _).alloc _) (lit1 _ _ _) (litA' _ _ _)).mono ?_
      rintro _ w2 ⟨rfl, f2⟩
      have f2a := (((Fr.refl w1).alloc _).alloc _).trans f2
      have F2 := hideP (F1.out.trans f2a)
      replace HO := hideP (HO.out.fr f2a)
      clear f2 f2a
      go_wp2_with fail
      refine (HBg.out _ F2.out).mono ?_
      rintro _ w3 ⟨rfl, f3⟩
      have F3 := hideP (F2.out.trans f3)
      replace HO := hideP (HO.out.fr f3)
      clear f3
      go_wp2_with fail
      go_ret
      exact ⟨rfl, F3.out⟩
    | ok g =>
      rw [hy] at HG2
      have HY := hideP hy
      clear hy
      by_cases h0 : nL = 0
      case pos =>
        subst h0
        go_enter Tryz.func10, Tryz.ntmps10
        go_wp2_with fail
        refine (HG1.out _ _ ((Fr.refl _).alloc _) (litA _ _)).mono ?_
        rintro _ w1 ⟨⟨u, rfl, hO⟩, f1⟩
        have F1 := hideP (((Fr.refl w).alloc _).trans f1)
        clear f1
        obtain ⟨ma, mc, rfl⟩ := hO.slice
        have hO2 := hO.rows
        have HO := hideP hO2
        clear hO hO2
        go_wp2_with fail
        refine (HG2.out _ _ _ ((F1.out.alloc _).alloc _) (lit1 _ _ _) (litA' _ _ _)).mono ?_
        rintro _ w2 ⟨⟨u, rfl, hP⟩, f2⟩
        have f2a := (((Fr.refl w1).alloc _).alloc _).trans f2
        have F2 := hideP (F1.out.trans f2a)
        replace HO := hideP (HO.out.fr f2a)
        clear f2 f2a
        obtain ⟨ga, gc, rfl⟩ := hP.slice
        have hP2 := hP.rows
        have HP := hideP hP2
        clear hP hP2
        go_wp2_with fail
        refine (HBg.out _ F2.out).mono ?_
        rintro _ w3 ⟨rfl, f3⟩
        have F3 := hideP (F2.out.trans f3)
        replace HO := hideP (HO.out.fr f3)
        replace HP := hideP (HP.out.fr f3)
        clear f3
        go_wp2_with fail
        go_ret
        exact ⟨rfl, F3.out⟩
      have hn0 : ((nL : Int) == 0) = false := by simp; omega
      by_cases hc : a1 < 0
      case pos =>
        go_enter Tryz.func10, Tryz.ntmps10
        go_wp2_with fail
        refine (HG1.out _ _ ((Fr.refl _).alloc _) (litA _ _)).mono ?_
        rintro _ w1 ⟨⟨u, rfl, hO⟩, f1⟩
        have F1 := hideP (((Fr.refl w).alloc _).trans f1)
        clear f1
        obtain ⟨ma, mc, rfl⟩ := hO.slice
        have hO2 := hO.rows
        have HO := hideP hO2
        clear hO hO2
        go_wp2_with fail
        refine (HG2.out _ _ _ ((F1.out.alloc _).alloc _) (lit1 _ _ _) (litA' _ _ _)).mono ?_
        rintro _ w2 ⟨⟨u, rfl, hP⟩, f2⟩
        have f2a := (((Fr.refl w1).alloc _).alloc _).trans f2
        have F2 := hideP (F1.out.trans f2a)
        replace HO := hideP (HO.out.fr f2a)
        clear f2 f2a
        obtain ⟨ga, gc, rfl⟩ := hP.slice
        have hP2 := hP.rows
        have HP := hideP hP2
        clear hP hP2
        go_wp2_with fail
        refine (HBg.out _ F2.out).mono ?_
        rintro _ w3 ⟨rfl, f3⟩
        have F3 := hideP (F2.out.trans f3)
        replace HO := hideP (HO.out.fr f3)
        replace HP := hideP (HP.out.fr f3)
        clear f3
        go_wp2_with fail
        go_ret
        exact ⟨rfl, F3.out⟩
      have hc0 : decide (a1 < 0) = false := by simp; omega
      obtain ⟨e1, e2, e3, e4⟩ := BG.whole4 (by intro e; have := HNL.out; rw [e] at this; exact h0 this.symm) (by omega) HWd.out HX.out HY.out
      have HE1 := hideP e1
      have HE2 := hideP e2
      have HE3 := hideP e3
      have HE4 := hideP e4
      have HM := hideP (show m.length ≤ 40 ∧ ∀ r ∈ m, r.length ≤ 9223372036854775806 from BG.whole_m HX.out)
      clear e1 e2 e3 e4 h0
      go_enter Tryz.func10, Tryz.ntmps10
      go_wp2_with fail
      refine (HG1.out _ _ ((Fr.refl _).alloc _) (litA _ _)).mono ?_
      rintro _ w1 ⟨⟨u, rfl, hO⟩, f1⟩
      have F1 := hideP (((Fr.refl w).alloc _).trans f1)
      clear f1
      obtain ⟨ma, mc, rfl⟩ := hO.slice
      have hO2 := hO.rows
      have HO := hideP hO2
      clear hO hO2
      go_wp2_with fail
      refine (HG2.out _ _ _ ((F1.out.alloc _).alloc _) (lit1 _ _ _) (litA' _ _ _)).mono ?_
      rintro _ w2 ⟨⟨u, rfl, hP⟩, f2⟩
      have f2a := (((Fr.refl w1).alloc _).alloc _).trans f2
      have F2 := hideP (F1.out.trans f2a)
      replace HO := hideP (HO.out.fr f2a)
      clear f2 f2a
      obtain ⟨ga, gc, rfl⟩ := hP.slice
      have hP2 := hP.rows
      have HP := hideP hP2
      clear hP hP2
      go_wp2_with fail
      refine (HBg.out _ F2.out).mono ?_
      rintro _ w3 ⟨rfl, f3⟩
      have F3 := hideP (F2.out.trans f3)
      replace HO := hideP (HO.out.fr f3)
      replace HP := hideP (HP.out.fr f3)
      clear f3
      go_wp2_with fail
      refine (group_any _ _ _ g [] BG.B4 _ (HP.out.fr ((Fr.refl _).alloc _)) (nilZ _) (litB _) HE4.out (by have := HE2.out; omega) (fun r hr => by rw [HE3.out r hr]; decide) (by decide) (by decide)).mono ?_
      rw [HE1.out]
      rintro _ w4 ⟨⟨u, rfl, hQ⟩, f4⟩
      have f4a := ((Fr.refl w3).alloc _).trans f4
      have F4 := hideP (F3.out.trans f4a)
      replace HO := hideP (HO.out.fr f4a)
      obtain ⟨na, nc, rfl⟩ := hQ.slice
      have hQ2 := hQ.rows
      have HQ := hideP hQ2
      clear hQ hQ2 f4 f4a
      go_wp2_with fail
      refine (sameRows_eq _ _ m _ HO.out HQ.out (by have := HM.out.1; omega) HM.out.2).mono ?_
      rintro _ w5 ⟨rfl, f5⟩
      have F5 := hideP (F4.out.trans f5)
      clear f5
      go_wp2_with fail
      go_ret
      exact ⟨rfl, F5.out⟩


set_option maxRecDepth 100000 in
theorem lifted (os : Go.Os) (started : os.Started) (H : Type) (enc : TypeId × Value → H) :
    ReturnsInHanded {} Tryz.checked os 10 .any (fun w args => (Rows.groupWholeSpec.pre enc Tryz.prog Tryz.f10 [] false w args ∧ laidMetH Tryz.prog Rows.groupWholeRow.laid w) ∧ sizedMet enc Tryz.prog Tryz.f10 (OpenSpec.ofChange Rows.groupWholeSpec) false w args)
      (Rows.groupWholeSpec.post enc Tryz.prog Tryz.f10 false true false false) := by
  refine returnsInHanded_of_change_and (C := Tryz.checked) (X := fun w _ => laidMetH Tryz.prog Rows.groupWholeRow.laid w) (fun _ _ _ hh h => h.of_heap hh) own started (by kernel_rfl) Tryz.func10
    (ChangeSpec.witness_shaped (enc := enc) (C := Tryz.checked) (os := os) (X := fun w _ => laidMetH Tryz.prog Rows.groupWholeRow.laid w) false (World.laidAll Tryz.prog os Rows.groupWholeRow.laid) #[.slice none 0 0, .int .i64 0, .int .i64 0] 8 (World.laidAll_os _ _ _)
      (World.shaped_of_ZipB (by kernel_rfl) (by kernel_rfl)) (by kernel_rfl) (by kernel_rfl) (by kernel_rfl)
      (by rw [MakeChecks.laidMetH_plain _ _ _ (by kernel_rfl)]; exact laidMet_laidAll _ (by kernel_rfl) (by kernel_rfl))) ?_
  intro W base args ds gs before hval0 hW hcnd hsz0 hL _
  have hT : Tt W := tabs_of_laid hL
  have hval : ∀ (j : Nat) t v, Tryz.f10.params[j]? = some t → args[j]? = some v → Value.okWide Tryz.prog W .any base t v := hval0
  have hsz : (DataW.weightsEach Tryz.prog (Tryz.f10.params.toList ++ Rows.groupWholeSpec.plain.varTypes Tryz.prog) (ds ++ gs)).all (· ≤ reachBytes) = true := hsz0
  have hW' := hW
  obtain ⟨p, q, hA0, hV, rfl, hfz, hnd⟩ := hW
  have hA : DataW.TrodAll enc Tryz.prog W 0 (fun _ => true) true Tryz.f10.params.toList args.toList ds p := hA0
  rw [Tryz.params10] at hA hval hsz
  obtain ⟨v0, vs0, d0, ds0, p0, q0, hargs, rfl, rfl, h0, r0⟩ := trodAll_cons hA
  obtain ⟨v1, vs1, d1, ds1, p1, q1, rfl, rfl, rfl, h1, r1⟩ := trodAll_cons r0
  obtain ⟨v2, vs2, d2, ds2, p2, q2, rfl, rfl, rfl, h2, r2⟩ := trodAll_cons r1
  obtain ⟨rfl, rfl, rfl⟩ := trodAll_nil r2
  obtain rfl : args = #[v0, v1, v2] := by cases args; simp_all
  obtain ⟨rfl, rfl⟩ := trodVars_none hV
  obtain ⟨l0, rw0, ok0, b0⟩ := open_rws (hval 0 22 v0 rfl rfl) h0 (sized_at hsz (j := 0) rfl rfl)
  obtain ⟨a1, rfl, rfl, rfl, w1⟩ := open_int Tryz.underlying3 (hval 1 3 v1 rfl rfl) h1
  obtain ⟨a2, rfl, rfl, rfl, w2⟩ := open_int Tryz.underlying3 (hval 2 3 v2 rfl rfl) h2
  clear hA0 hval0 hsz0
  refine (walk v0 l0 a1 a2 W hT rw0 ok0 b0 (wf_i64 w1) (wf_i64 w2)).mono fun e W' ⟨he, bel⟩ => ?_
  subst he
  exact ⟨_, rfl, _, _, _, [], _, [], hW', trodAll_mk1 (shut_bool Tryz.underlying4 _), (trodAll_cons_mk (shut_rws h0 bel) (trodAll_cons_mk (shut_int Tryz.underlying3 w1) (trodAll_cons_mk (shut_int Tryz.underlying3 w2) trodAll_mk0))), rfl, Below.frame bel _, fun h => by cases h⟩

theorem closed : joinedFacts Tryz.prog 10 Tryz.f10 Rows.groupWholeSpec Rows.groupWholeRow = true := by
  unfold joinedFacts
  repeat' (with_reducible refine Bool.and_eq_true_iff.2 ⟨?_, ?_⟩)
  all_goals first
    | with_reducible exact HeadW.mayEnter
    | with_reducible exact laidOut
    | with_reducible exact HeadW.mapsRowed
    | with_reducible exact HeadW.stopsHeard
    | (rw [HeadW.liftsFinal]; as_aux_lemma => kernel_rfl)
    | (rw [HeadW.make]; as_aux_lemma => kernel_rfl)
    | (rw [HeadW.plainKeys]; as_aux_lemma => kernel_rfl)
    | as_aux_lemma => kernel_rfl
theorem over : Rows.groupWholeRow.holds Tryz.pinned (OpenSpec.ofChange Rows.groupWholeSpec) :=
  OpenClaim.holds_of_wide 10 Tryz.f10 rfl rfl rfl rfl rfl rfl rfl ⟨rfl, rfl, rfl, rfl, rfl⟩ rfl rfl rfl rfl rfl (by as_aux_lemma => kernel_rfl) Tryz.func10 closed
    (of_decide_eq_true (by as_aux_lemma => kernel_rfl)) (by unfold Func.isWrapper; first | (rw [if_pos (by decide +kernel)]; kernel_rfl) | (rw [if_neg (by decide +kernel)]; exact ⟨rfl, rfl⟩))
    (fun os started H enc _ => lifted os started H enc)

theorem card : Rows.GroupWholeCardSaid :=
  Claim7.holds_tied_plain_at .later [] [.data, .data, .data, .data, .data, .data, .pinned] true (true, "3d9200482c1a8c9d4c0c2901940aba6e6f6453fca408f5f0e6919f8376bce52c") false
    over (fun _ h => by cases h) (by as_aux_lemma => kernel_rfl) (fun _ h => by cases h) groupWhole_row_tie rfl ⟨rfl, rfl⟩ HeadW.main rfl
    (fun f fn hf hfn => by
      obtain rfl : f = 10 := Option.some.inj ((show Tryz.prog.funcNamed "starling/starlinglaw.GroupWhole" = some 10 by as_aux_lemma => kernel_rfl).symm.trans hf) |>.symm
      obtain rfl : fn = Tryz.f10 := (Option.some.inj (Tryz.func10.symm.trans hfn)).symm
      exact ⟨HeadW.looks.symm, fun j t ht => by
        rw [Tryz.params10] at ht
        have hm : t ∈ [22, 3, 3] := by simpa using Array.mem_of_getElem? ht
        have hall : ([22, 3, 3].all fun u => !Tryz.prog.wantsStandIn u) = true := by as_aux_lemma => kernel_rfl
        exact (show Tryz.prog.wantsStandIn t = false by simpa using List.all_eq_true.1 hall t hm)⟩)
    (by as_aux_lemma => kernel_rfl)

end Go.Proofs.YtaabandfjdnkjaaGreatDoor.groupWholeProof
namespace Go.Proofs.YtaabandfjdnkjaaGreatDoor
theorem groupWhole_holds : Rows.GroupWholeCardSaid := groupWholeProof.card
#print axioms groupWhole_holds
end Go.Proofs.YtaabandfjdnkjaaGreatDoor
