/-
  Proved: for every store and all writes CommitDone answers true: all steps done, the pages are as they were to be, nothing waits, and the journal is not hot. No condition but the form's own reach.
-/
import Derived.Test.YtklldfkaihpkiaaJdL
import Derived.Test.YtklldfkaihpkiaaJdM
import Derived.Test.YtklldfkaihpkiaaOpenD
namespace Go.Proofs.Ytklldfkaihpkiaa.CommitDone
open Go.ChangeShapes Go.WideShapes Go.ChangeAt Go.RowKit
set_option linter.unusedVariables false
set_option linter.unusedSimpArgs false
set_option maxRecDepth 100000

theorem playO_ok : ∀ (l : List JN.O) (s : JN.S), JN.OkS s → (JN.playO s l).2 = 0 → JN.OkS (JN.playO s l).1
  | [], s, h, _ => h
  | o :: l, s, h, h2 => by
    unfold JN.playO at h2 ⊢
    by_cases e : (JN.opS s o).2 = 0
    · rw [if_pos e] at h2 ⊢; exact playO_ok l _ (JN.op_ok h e).1 h2
    · rw [if_neg e] at h2; exact absurd h2 e
theorem play_ok {s : JN.S} {l : List JN.O} (h : (JN.playS s l).2 = 0) : JN.OkS (JN.playS s l).1 := by
  obtain ⟨hs, _, e⟩ := JN.playS_err h
  rw [e] at h ⊢
  exact playO_ok l s hs h
theorem sett_new {s : JN.S} {l : List JN.W} (h : JN.CanStep s l) : JN.trim (JN.sett s.da.pg l 18446744073709551615) = JN.newP s l := by
  have hm := h.many
  rw [JN.newP, JN.pagesOf]
  congr 1
  unfold JN.sett
  refine List.map_congr_left ?_
  intro i hi
  have e : JN.pageAt s.da.pg (i : Int) = JN.fn s.da.pg (i : Int).toNat := by rw [JN.pageAt, if_neg (by omega)]
  rw [e, JN.last_land (by omega) l (JN.fn s.da.pg) 18446744073709551615 (fun x hx => (h.each x hx).1.1)]
  have e2 : JN.land (JN.fn s.da.pg) (l.map JN.wn) (JN.bits 18446744073709551615) = JN.land (JN.fn s.da.pg) (l.map JN.wn) JN.all := JN.land_bits_all _ _ (by rw [List.length_map]; omega)
  rw [e2, Int.toNat_natCast]
theorem s5_after {w w' : World} {a b c d e : Addr} {u v x y z : Value} (f : Fr w w') (h : w.cell? a = some u ∧ w.cell? b = some v ∧ w.cell? c = some x ∧ w.cell? d = some y ∧ w.cell? e = some z) : w'.cell? a = some u ∧ w'.cell? b = some v ∧ w'.cell? c = some x ∧ w'.cell? d = some y ∧ w'.cell? e = some z :=
  ⟨(Below.cell f (World.block_lt_of_cell? _ _ h.1)).trans h.1, (Below.cell f (World.block_lt_of_cell? _ _ h.2.1)).trans h.2.1, (Below.cell f (World.block_lt_of_cell? _ _ h.2.2.1)).trans h.2.2.1, (Below.cell f (World.block_lt_of_cell? _ _ h.2.2.2.1)).trans h.2.2.2.1, (Below.cell f (World.block_lt_of_cell? _ _ h.2.2.2.2)).trans h.2.2.2.2⟩
set_option maxHeartbeats 8000000 in
theorem walk (p q P Q : Value) (s : JN.S) (v : Value) (l : List JN.W) (w : World) (hr : IsS w p q P Q s) (hb : BD s.da ∧ BD s.jo) (hl : IsL cdW w v l) (ho : ∀ y ∈ l, -9223372036854775808 ≤ y.no ∧ y.no ≤ 9223372036854775807) (hlen : l.length * 24 ≤ 140737488351232) :
    Calls Try.prog 11 #[.agg #[p, q, P, Q], v] w fun e w' => e = .returned (.bool true) ∧ Fr w w' := by
  obtain ⟨aS, nS, dS, rfl⟩ := hr.1.1.slice
  obtain ⟨eS, mS, hS, rfl⟩ := hr.1.2.slice
  obtain ⟨AS, NS, CS, rfl⟩ := hr.2.1.slice
  obtain ⟨ES, MS, GS, rfl⟩ := hr.2.2.slice
  obtain ⟨av, nv, cv, rfl⟩ := hl.slice
  have hb1 := hb.1.pl
  have hb2 := hb.2.pl
  have VS := hideP (SV.new hr)
  have HF : Hid (Fr w (w.alloc (.cells #[.slice aS nS dS, .slice eS mS hS, .slice AS NS CS, .slice ES MS GS] 46))) := (Fr.refl w).alloc _
  have LL := hideP (hl.fr ((Fr.refl w).alloc (.cells #[.slice aS nS dS, .slice eS mS hS, .slice AS NS CS, .slice ES MS GS] 46)))
  clear hr hl ho hb
  by_cases h0 : JN.stepsChk s l = 0
  · have e1 : JN.stepsS s l = (JN.stepsO s l, 0) := by rw [JN.stepsS, if_pos h0]
    obtain ⟨d1, hrest, hpg⟩ := JN.commit_done (s := s) (l := l) (by rw [e1])
    have hset := sett_new (JN.steps_can (s := s) (l := l) (by rw [e1])).2
    have hok := play_ok d1
    rw [e1] at d1 hrest hpg hok
    simp only at d1 hrest hpg hok
    rw [← hset] at hpg
    generalize JN.stepsO s l = o at e1 d1 hrest hpg hok
    obtain ⟨⟨x, z⟩, hx⟩ : ∃ r, JN.playS s o = r := ⟨_, rfl⟩
    rw [hx] at d1 hrest hpg hok
    simp only at d1 hrest hpg hok
    subst d1
    have hxl := hok.da.len
    have HS := hideP e1
    have HX := hideP hx
    have HG := hideP hpg
    have HRs := hideP hrest
    clear e1 hx hpg hrest hok hset h0
    go_enter Try.func11, Try.ntmps11
    obtain ⟨kS0, kS1, kS2, kS3, _, _, _, _⟩ := VS.out.b.four
    have c21 := steps_any _ _ _ _ _ s l (w.alloc (.cells #[.slice aS nS dS, .slice eS mS hS, .slice AS NS CS, .slice ES MS GS] 46)) VS.out.s LL.out hb1 hb2
    rw [HS.out] at c21
    go_wp2_with fail
    refine c21.mono ?_
    rintro _ w21 ⟨vP, rfl, oP, f21⟩
    clear c21
    clear kS0 kS1 kS2 kS3
    obtain ⟨aP, dP, rfl⟩ := own_slice oP
    replace VS := hideP (VS.out.fr f21)
    replace LL := hideP (LL.out.fr f21)
    replace HF := hideP (HF.out.trans f21)
    have LP := hideP (isL_own oP)
    clear oP f21
    have c22 := journalBegun_any w21
    go_wp2_with fail
    refine c22.mono ?_
    rintro _ w22 ⟨rfl, f22⟩
    clear c22
    replace VS := hideP (VS.out.fr f22)
    replace LL := hideP (LL.out.fr f22)
    replace LP := hideP (LP.out.fr f22)
    replace HF := hideP (HF.out.trans f22)
    clear f22
    obtain ⟨kS0, kS1, kS2, kS3, _, _, _, _⟩ := VS.out.b.four
    have c23 := play_any _ _ _ _ _ s o w22 VS.out.s LP.out hb1 hb2
    rw [HX.out] at c23
    go_wp2_with fail
    refine c23.mono ?_
    rintro _ w23 ⟨pT, qT, PT, QT, rfl, sT, xT, yT, f23⟩
    clear c23
    clear kS0 kS1 kS2 kS3
    obtain ⟨aT, nT, dT, rfl⟩ := sT.1.1.slice
    obtain ⟨eT, mT, hT, rfl⟩ := sT.1.2.slice
    obtain ⟨AT, NT, CT, rfl⟩ := sT.2.1.slice
    obtain ⟨ET, MT, GT, rfl⟩ := sT.2.2.slice
    have NV := SV.new sT
    have g23 : Fr w22 (w23.alloc (.cells #[.slice aT nT dT, .slice eT mT hT, .slice AT NT CT, .slice ET MT GT] 46)) := f23.alloc _
    replace VS := hideP (VS.out.fr g23)
    replace LL := hideP (LL.out.fr g23)
    replace LP := hideP (LP.out.fr g23)
    replace HF := hideP (HF.out.trans g23)
    have VT := hideP NV
    have XT := hideP xT
    have YT := hideP yT
    clear NV g23 f23 sT xT yT
    obtain ⟨W0, hW0⟩ : ∃ W0, (w23.alloc (.cells #[.slice aT nT dT, .slice eT mT hT, .slice AT NT CT, .slice ET MT GT] 46)) = W0 := ⟨_, rfl⟩
    have HW := hideP hW0
    rw [hW0] at VS VT LL HF
    have HS3 := hideP (show W0.cell? ⟨w23.heap.size, 0, none⟩ = some (.slice aT nT dT) ∧ W0.cell? ⟨w23.heap.size, 1, none⟩ = some (.slice eT mT hT) ∧ W0.cell? ⟨w23.heap.size, 2, none⟩ = some (.slice AT NT CT) ∧ W0.cell? ⟨w23.heap.size, 3, none⟩ = some (.slice ET MT GT) ∧ W0.cell? ⟨w.heap.size, 0, none⟩ = some (.slice aS nS dS) from by
      obtain ⟨k0, k1, k2, k3, _, _, _, _⟩ := VT.out.b.four
      obtain ⟨j0, _⟩ := VS.out.b.four
      exact ⟨k0, k1, k2, k3, j0⟩)
    have CE := hideP (fun W (f : Fr W0 W) => plainEnd_true _ _ _ _ x W (VT.out.s.fr f) HRs.out)
    have CQ := hideP (fun W (f : Fr W0 W) => settled_any _ _ s.da.pg l 18446744073709551615 W (VS.out.s.1.1.fr f) (LL.out.fr f) (by decide) (by omega))
    have hz := Fr.drew (Fr.refl W0)
    clear hW0
    go_upto_region 7 with fail
    rw [HW.out]
    go_region_held3 (fun W => W.cell? ⟨w23.heap.size, 0, none⟩ = some (.slice aT nT dT) ∧ W.cell? ⟨w23.heap.size, 1, none⟩ = some (.slice eT mT hT) ∧ W.cell? ⟨w23.heap.size, 2, none⟩ = some (.slice AT NT CT) ∧ W.cell? ⟨w23.heap.size, 3, none⟩ = some (.slice ET MT GT) ∧ W.cell? ⟨w.heap.size, 0, none⟩ = some (.slice aS nS dS)) (first | exact HS3.out | assumption | exact s5_after hz HS3.out | exact s5_after (Fr.after f6 hz) HS3.out | exact s5_after (Fr.after f7 (Fr.after f6 hz)) HS3.out | exact s5_after (Fr.after f8 (Fr.after f7 (Fr.after f6 hz))) HS3.out) (first
      | (go_at_call 41; refine (CE.out _ hz).mono ?_; rintro _ w6 ⟨rfl, f6⟩)
      | (go_at_call 42; refine (CQ.out _ (Fr.after f6 hz)).mono ?_; rintro _ w7 ⟨v7, rfl, h7, f7⟩; obtain ⟨a7, n7, d7, rfl⟩ := h7.slice; have H7 := hideP h7; clear h7)
      | (go_at_call 27; refine (sameTexts_any _ _ x.da.pg _ _ (VT.out.s.1.1.fr (Fr.after f7 (Fr.after f6 hz))) H7.out (by omega)).mono ?_; rintro _ w8 ⟨⟨r8, rfl, hr8⟩, f8⟩; obtain rfl := hr8 HG.out; clear hr8))
    all_goals go_wp2_with fail
    all_goals go_ret
    all_goals exact ⟨rfl, HF.out.trans (Fr.after f8 (Fr.after f7 (Fr.after f6 hz)))⟩
  · have e1 : JN.stepsS s l = ([], JN.stepsChk s l) := by rw [JN.stepsS, if_neg h0]
    generalize JN.stepsChk s l = y at e1 h0
    have hne : ((y : Int) != 0) = true := by simp; omega
    have hne2 : ¬ ((y : Int) = 0) := by omega
    have HS := hideP e1
    clear e1
    go_enter Try.func11, Try.ntmps11
    obtain ⟨kS0, kS1, kS2, kS3, _, _, _, _⟩ := VS.out.b.four
    have c21 := steps_any _ _ _ _ _ s l (w.alloc (.cells #[.slice aS nS dS, .slice eS mS hS, .slice AS NS CS, .slice ES MS GS] 46)) VS.out.s LL.out hb1 hb2
    rw [HS.out] at c21
    go_wp2_with fail
    refine c21.mono ?_
    rintro _ w21 ⟨vP, rfl, oP, f21⟩
    clear c21
    clear kS0 kS1 kS2 kS3
    obtain ⟨aP, dP, rfl⟩ := own_slice oP
    replace VS := hideP (VS.out.fr f21)
    replace LL := hideP (LL.out.fr f21)
    replace HF := hideP (HF.out.trans f21)
    clear oP f21
    have c22 := journalBegun_any w21
    go_wp2_with fail
    refine c22.mono ?_
    rintro _ w22 ⟨rfl, f22⟩
    clear c22
    replace VS := hideP (VS.out.fr f22)
    replace LL := hideP (LL.out.fr f22)
    replace HF := hideP (HF.out.trans f22)
    clear f22
    go_wp2_with fail
    go_ret
    exact ⟨rfl, HF.out⟩

set_option maxRecDepth 100000 in
theorem lifted (os : Go.Os) (started : os.Started) (H : Type) (enc : TypeId × Value → H) :
    ReturnsInHanded {} Try.checked os 11 .any (Rows.commitDoneSpec.pre6 enc Try.prog Try.f11 Rows.commitDoneRow.domain false) (Rows.commitDoneSpec.post enc Try.prog Try.f11 false true false false) := by
  refine returnsInHanded_of_change_sized (C := Try.checked) own started (by kernel_rfl) Try.func11
    (ChangeSpec.witness6 (enc := enc) (C := Try.checked) false ⟨#[], #[.agg #[.slice none 0 0, .slice none 0 0, .slice none 0 0, .slice none 0 0], .slice none 0 0], []⟩ 8 (by kernel_rfl) (by kernel_rfl) (by kernel_rfl) (by kernel_rfl)) ?_
  intro W base args ds gs before hval0 hW hcnd hsz0 _
  have hval : ∀ (j : Nat) t v, Try.f11.params[j]? = some t → args[j]? = some v → Value.okWide Try.prog W .any base t v := hval0
  have hsz : (DataW.weightsEach Try.prog (Try.f11.params.toList ++ Rows.commitDoneSpec.plain.varTypes Try.prog) (ds ++ gs)).all (· ≤ reachBytes) = true := hsz0
  have hW' := hW
  obtain ⟨p, q, hA0, hV, rfl, hfz, hnd⟩ := hW
  have hA : DataW.TrodAll enc Try.prog W 0 (fun _ => true) true Try.f11.params.toList args.toList ds p := hA0
  rw [Try.params11] at hA hval hsz
  obtain ⟨v0, vs0, d0, ds0, p0, q0, hargs, rfl, rfl, h0, r0⟩ := trodAll_cons hA
  obtain ⟨v1, vs1, d1, ds1, p1, q1, rfl, rfl, rfl, h1, r1⟩ := trodAll_cons r0
  obtain ⟨rfl, rfl, rfl⟩ := trodAll_nil r1
  obtain rfl : args = #[v0, v1] := by cases args; simp_all
  obtain ⟨rfl, rfl⟩ := trodVars_none hV
  obtain ⟨x0, y0, X0, Y0, l0, rfl, rw0, bd0⟩ := open_store (hval 0 46 v0 rfl rfl) h0 (sized_at hsz (j := 0) rfl rfl)
  obtain ⟨l1, rw1, wd1, b1⟩ := open_writes (hval 1 23 v1 rfl rfl) h1 (sized_at hsz (j := 1) rfl rfl)
  clear hA0 hval0 hsz0
  refine (walk x0 y0 X0 Y0 l0 v1 l1 W rw0 bd0 rw1 wd1 b1).mono fun e W' ⟨he, bel⟩ => ?_
  subst he
  exact ⟨_, rfl, _, _, _, [], _, [], hW', trodAll_mk1 (shut_bool Try.underlying4 _), (trodAll_cons_mk (shut_store h0 bel) (trodAll_cons_mk (shut_writes h1 bel) trodAll_mk0)), rfl, Below.frame bel _, fun h => by cases h⟩

theorem over : Rows.commitDoneRow.holds Try.pinned (OpenSpec.ofChange Rows.commitDoneSpec) :=
  OpenClaim.holds_of_wide 11 Try.f11 rfl rfl rfl rfl rfl rfl rfl ⟨rfl, rfl, rfl, rfl, rfl⟩ rfl rfl rfl rfl rfl (by kernel_rfl) Try.func11 (by kernel_rfl)
    (of_decide_eq_true (by kernel_rfl)) (by unfold Func.isWrapper; first | (rw [if_pos (by decide +kernel)]; kernel_rfl) | (rw [if_neg (by decide +kernel)]; exact ⟨rfl, rfl⟩))
    (fun os started H enc _ => lifted os started H enc)

end Go.Proofs.Ytklldfkaihpkiaa.CommitDone
namespace Go.Proofs.Ytklldfkaihpkiaa
theorem commitDone_holds : Rows.CommitDoneSaid := CommitDone.over
#print axioms commitDone_holds
end Go.Proofs.Ytklldfkaihpkiaa
