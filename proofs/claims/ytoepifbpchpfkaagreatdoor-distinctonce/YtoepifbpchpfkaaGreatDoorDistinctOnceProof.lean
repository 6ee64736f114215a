/-
  Proved: for every list of rows and place DistinctOnce answers true: each row stands once, and all are there. No condition but the form's own reach.
-/
import Derived.Test.YtoepifbpchpfkaaGreatDoorGqG
import Derived.Test.YtoepifbpchpfkaaGreatDoorGqF
import Derived.Test.YtoepifbpchpfkaaGreatDoorBjB
namespace Go.Proofs.YtoepifbpchpfkaaGreatDoor.distinctOnceProof
open Go.ChangeShapes Go.WideShapes Go.ChangeAt Go.RowKit
open Go.ChangeMaps (open_string shut_string)
set_option linter.unusedVariables false
set_option linter.unusedSimpArgs false
set_option maxRecDepth 100000
set_option maxHeartbeats 2000000
theorem dst_len : ∀ (l b : List (List VM.Vl)), (BM.dst b l).length ≤ l.length
 | [], b => by simp [BM.dst]
 | x :: l, b => by
  unfold BM.dst
  have := dst_len l (b ++ [x])
  split <;> simp <;> omega
theorem walk (v0 : Value) (l0 : List (List VM.Vl)) (a1 : Int) (w : World) (hTt : Tt w) (rw0 : IsRR w v0 l0) (ok0 : ∀ y ∈ l0, y.length * 32 ≤ 140737488351232 ∧ ∀ z ∈ y, EV.gd z ∧ z.s.size ≤ 140737488351232) (b0 : l0.length * 24 ≤ 140737488351232) (w1 : -9223372036854775808 ≤ a1 ∧ a1 ≤ 9223372036854775807) :
  Calls Tryz.prog 14 #[v0, .int .i64 a1] w fun e w' => e = .returned (.bool true) ∧ Fr w w' := by
 have HBg := hideP (fun (W : World) (f : Fr w W) => bagBegun_any W (hTt.tn.fr f) (hTt.tb.fr f))
 have HR := hideP rw0
 have HOk := hideP (fun r (hr : r ∈ l0) => show r.length ≤ 9223372036854775806 by have := (ok0 r hr).1; omega)
 have HF := hideP (fun (W : World) (v : Value) (ls : List (List VM.Vl)) (h : IsRR W v ls) (hs : ∀ r ∈ ls, r ∈ l0) (hn : ls.length ≤ 9223372036854775806) => distinct_any v ls W h (fun r hr x hx => ⟨((ok0 r (hs r hr)).2 x hx).1.1.1, ((ok0 r (hs r hr)).2 x hx).1.1.2⟩) hn (fun r hr => by have := (ok0 r (hs r hr)).1; omega))
 obtain ⟨A0, c0, rfl⟩ := rw0.slice
 have hcc : l0.length ≤ c0 := by obtain ⟨_, _, _, hc, _⟩ := rw0.at; exact hc
 have hb0 : l0.length ≤ 5864062014805 := by omega
 clear rw0 ok0 b0
 cases hx : BG.dst l0 with
 | error c =>
  have hne : c ≠ 0 := by
   rw [BG.dst_dist] at hx
   split at hx
   · cases hx; assumption
   · cases hx
  have k1 := HF.out w _ l0 HR.out (fun r h => h) (by omega)
  rw [hx] at k1
  have K1 := hideP k1
  have hc1 : ((c : Int) != 0) = true := by simp; omega
  have hc2 : ((c : Int) == 0) = false := by simp; omega
  clear k1 hx
  go_enter Tryz.func14, Tryz.ntmps14
  go_wp2_with fail
  refine K1.out.mono ?_
  rintro _ w1 ⟨rfl, f1⟩
  have F1 := hideP f1
  clear f1 K1
  go_wp2_with fail
  refine (HBg.out _ F1.out).mono ?_
  rintro _ w2 ⟨rfl, f2⟩
  have F2 := hideP (F1.out.trans f2)
  clear f2
  go_wp2_with fail
  go_ret
  exact ⟨rfl, F2.out⟩
 | ok m =>
  have k1 := HF.out w _ l0 HR.out (fun r h => h) (by omega)
  rw [hx] at k1
  have K1 := hideP k1
  have HX := hideP hx
  clear k1 hx
  by_cases hk : a1 < 0 ∨ (l0.length : Int) < a1
  ·
   by_cases hk0 : a1 < 0
   ·
    go_enter Tryz.func14, Tryz.ntmps14
    go_wp2_with fail
    refine K1.out.mono ?_
    rintro _ w1 ⟨⟨u, rfl, hO⟩, f1⟩
    obtain ⟨ua, uc, rfl⟩ := hO.slice
    have F1 := hideP f1
    have HO := hideP hO.rows
    clear f1 K1 hO
    go_wp2_with fail
    refine (HBg.out _ F1.out).mono ?_
    rintro _ w2 ⟨rfl, f2⟩
    have F2 := hideP (F1.out.trans f2)
    clear f2
    go_wp2_with fail
    go_ret
    exact ⟨rfl, F2.out⟩
   ·
    have hk1 : (l0.length : Int) < a1 := by omega
    clear hk
    go_enter Tryz.func14, Tryz.ntmps14
    go_wp2_with fail
    refine K1.out.mono ?_
    rintro _ w1 ⟨⟨u, rfl, hO⟩, f1⟩
    obtain ⟨ua, uc, rfl⟩ := hO.slice
    have F1 := hideP f1
    have HO := hideP hO.rows
    clear f1 K1 hO
    go_wp2_with fail
    refine (HBg.out _ F1.out).mono ?_
    rintro _ w2 ⟨rfl, f2⟩
    have F2 := hideP (F1.out.trans f2)
    clear f2
    go_wp2_with fail
    go_ret
    exact ⟨rfl, F2.out⟩
  ·
   obtain ⟨K, rfl⟩ : ∃ K : Nat, a1 = (K : Int) := ⟨a1.toNat, by omega⟩
   have hK : K ≤ l0.length := by omega
   have hk1 : ¬ ((K : Int) < 0) := by omega
   have hk2 : ¬ ((l0.length : Int) < (K : Int)) := by omega
   have hk3 : (K : Int) ≤ (c0 : Int) := by omega
   have hk4 : (K : Int) ≤ (l0.length : Int) := by omega
   have hchk : BG.chk l0 = 0 := by
    have h := HX.out
    rw [BG.dst_dist] at h
    split at h
    · cases h
    · rename_i h1; simpa using h1
   have hdm : m = BM.dist l0 := by
    have h := HX.out
    rw [(BG.dst_once hchk K).1] at h
    cases h
    rfl
   subst hdm
   obtain ⟨_, p2, p3, p4, p5, p6⟩ := BG.dst_once hchk K
   have h40 := (BG.chk_all hchk).1
   have hml : (BM.dist l0).length ≤ l0.length := dst_len l0 []
   have hmm : ∀ r ∈ BM.dist l0, r ∈ l0 := fun r hr => (BM.mem_dist l0).1 hr
   have hxm : ∀ r ∈ BM.dist (l0.take K), r ∈ l0 := fun r hr => List.mem_of_mem_take ((BM.mem_dist _).1 hr)
   have hJm : ∀ r ∈ BM.dist (l0.take K) ++ l0.drop K, r ∈ l0 := fun r hr => by
    rcases List.mem_append.1 hr with h | h
    · exact hxm r h
    · exact List.mem_of_mem_drop h
   have hxl : (BM.dist (l0.take K)).length ≤ 40 := by omega
   obtain ⟨m, hm⟩ : ∃ m, BM.dist l0 = m := ⟨_, rfl⟩
   obtain ⟨x, hxx⟩ : ∃ x, BM.dist (l0.take K) = x := ⟨_, rfl⟩
   obtain ⟨D, hD⟩ : ∃ D, l0.drop K = D := ⟨_, rfl⟩
   obtain ⟨J, hJ⟩ : ∃ J, x ++ D = J := ⟨_, rfl⟩
   rw [hm] at p2 p4 p5 p6 hml hmm K1
   rw [hxx] at p3 p4 p5 p6 hxm hJm hxl
   rw [hD] at p4 hJm
   rw [hJ] at p4 hJm
   have HOne := hideP (show ∀ r ∈ l0, BG.oft m r = 1 from p2)
   have HP3 := hideP p3
   have HP4 := hideP p4
   have HP6 := hideP p6
   have HMm := hideP hmm
   have HJm := hideP hJm
   have HJe := hideP hJ
   have HDe := hideP hD
   have HDl := hideP (show D.length ≤ 40 by rw [← hD, List.length_drop]; omega)
   have HJl := hideP (show J.length ≤ 80 by rw [← hJ, List.length_append]; have := HDl.out; omega)
   have H40 := hideP h40
   have HKn := hideP hK
   have HCc := hideP hcc
   have HXl := hideP hxl
   have HMl := hideP (show m.length ≤ 40 by omega)
   have hq1 : (m.length : Int) ≤ (l0.length : Int) := by omega
   have hq2 : (x.length : Int) ≤ (m.length : Int) := by omega
   have hq3 : ¬ ((l0.length : Int) < (m.length : Int)) := by omega
   have hq4 : ¬ ((m.length : Int) < (x.length : Int)) := by omega
   clear p2 p3 p4 p6 hmm hxm hJm hm hxx hD hJ hk w1 hK hcc hb0 h40 hml hxl hchk HX p5
   obtain ⟨qs, hq, _, _, hcell, hrow⟩ := HR.out.at
   have HCe := hideP hcell
   have HRo := hideP hrow
   clear hcell hrow
   go_enter Tryz.func14, Tryz.ntmps14
   go_wp2_with fail
   refine K1.out.mono ?_
   rintro _ w1 ⟨⟨u, rfl, hO⟩, f1⟩
   obtain ⟨ua, uc, rfl⟩ := hO.slice
   have F1 := hideP f1
   have HO := hideP hO.rows
   clear f1 K1 hO
   go_wp2_with fail
   refine (HBg.out _ F1.out).mono ?_
   rintro _ w2 ⟨rfl, f2⟩
   have F2 := hideP (F1.out.trans f2)
   replace HO := hideP (HO.out.fr f2)
   clear f2
   go_wp2_with fail
   have hucx : m.length ≤ uc := by obtain ⟨_, _, _, hc, _⟩ := HO.out.at; exact hc
   have hq5 : (x.length : Int) ≤ (uc : Int) := by omega
   have HUc := hideP hucx
   clear hucx
   go_loopw [4, 7] (fun _ iv wr => ∃ i : Nat, iv = .int .i64 i ∧ i ≤ l0.length ∧ Fr w2 wr) (fun _ iv _ => l0.length - (intOf iv).toNat)
   case atStart => exact ⟨0, rfl, Nat.zero_le _, Fr.refl _⟩
   case round =>
    obtain ⟨i, rfl, hi, hfr⟩ := hrel
    by_cases hlt : i < l0.length
    ·
     have hlt' : (i : Int) < (l0.length : Int) := by omega
     have h40v := H40.out
     obtain ⟨b, o, rfl, hb, d00⟩ := HCe.out i (by omega)
     have h1 := (HRo.out i (by omega) hlt).1
     have d0 := (Below.cell (F2.out.trans hfr) (World.block_lt_of_cell? _ _ d00)).trans d00
     have hck := howOften_any _ _ m l0[i] wr (HO.out.fr hfr) (h1.fr (F2.out.trans hfr)) (by have := HMl.out; omega) (fun r hr => HOk.out r (HMm.out r hr))
     rw [HOne.out _ (List.getElem_mem hlt)] at hck
     obtain ⟨q, hqq⟩ : ∃ q, (qs[i]'(by omega)) = q := ⟨_, rfl⟩
     rw [hqq] at d0 hck
     obtain ⟨qa, qn, qc⟩ := q
     simp only [Sq.v] at d0 hck
     have HCk := hideP hck
     have HFr := hideP hfr
     clear hck hfr h1 d00 hqq
     go_wp2_with fail
     refine HCk.out.mono ?_
     rintro _ w5 ⟨rfl, f5⟩
     have F5 := hideP (HFr.out.trans f5)
     clear f5
     go_wp2_with fail
     go_roundw
     case rel =>
      have hkd : decide ((K : Int) < 0) = false := decide_eq_false (by omega)
      have hke : decide (l0.length < K) = false := decide_eq_false (by omega)
      refine ⟨?_, ?_, ?_, ?_, ?_, ?_, ?_, ?_, ?_, ?_, ?_, ?_, ?_, ?_, ?_, ⟨i + 1, ?_, by omega, F5.out⟩, ?_⟩
      rotate_right 1
      ·
       simp only [hkd, hke, Bool.false_or]
       rfl
      all_goals go_num
     case measure => simp [intOf]; omega
    ·
     obtain rfl : i = l0.length := by omega
     have F3 := hideP (F2.out.trans hfr)
     replace HO := hideP (HO.out.fr hfr)
     clear hfr HCe HRo
     go_wp2_with fail
     have k4 := HF.out wr _ (l0.take K) (isRR_head (HR.out.fr F3.out) K HKn.out) (fun r h => List.mem_of_mem_take h) (by rw [List.length_take]; have := H40.out; omega)
     rw [HP3.out] at k4
     refine k4.mono ?_
     clear k4
     rintro _ w4 ⟨⟨u, rfl, hP⟩, f4⟩
     obtain ⟨xa, xc, rfl⟩ := hP.slice
     have F4 := hideP (F3.out.trans f4)
     have HP := hideP hP.rows
     replace HO := hideP (HO.out.fr f4)
     clear f4 hP
     go_wp2_with fail
     ·
      have hck : c0 = K := by assumption
      have hD := isRR_back (HR.out.fr F4.out) K HKn.out A0 (fun b o e => .inl (by have := HCc.out; have := HKn.out; omega))
      rw [HDe.out] at hD
      rw [show c0 - K = 0 by omega] at hD
      refine (together_any _ _ x D w4 HP.out hD (by have := HXl.out; have := HDl.out; omega)).mono ?_
      clear hD
      rintro _ w5 ⟨⟨u, rfl, hT⟩, f5⟩
      rw [HJe.out] at hT
      obtain ⟨ta, tc, rfl⟩ := hT.slice
      have F5 := hideP (F4.out.trans f5)
      have HT := hideP hT
      replace HO := hideP (HO.out.fr f5)
      replace HP := hideP (HP.out.fr f5)
      clear f5 hT
      go_wp2_with fail
      have k6 := HF.out w5 _ J HT.out HJm.out (by have := HJl.out; omega)
      rw [HP4.out] at k6
      refine k6.mono ?_
      clear k6
      rintro _ w6 ⟨⟨u, rfl, hQ⟩, f6⟩
      obtain ⟨za, zc, rfl⟩ := hQ.slice
      have F6 := hideP (F5.out.trans f6)
      have HQ := hideP hQ.rows
      replace HO := hideP (HO.out.fr f6)
      replace HP := hideP (HP.out.fr f6)
      clear f6 hQ
      go_wp2_with fail
      refine (sameRows_eq _ _ m w6 HQ.out HO.out (by have := HMl.out; omega) (fun r hr => HOk.out r (HMm.out r hr))).mono ?_
      rintro _ w7 ⟨rfl, f7⟩
      have F7 := hideP (F6.out.trans f7)
      replace HO := hideP (HO.out.fr f7)
      replace HP := hideP (HP.out.fr f7)
      clear f7
      go_wp2_with fail
      have hcut := isRR_head HO.out x.length (by omega)
      rw [← HP6.out] at hcut
      refine (sameRows_eq _ _ x w7 HP.out hcut (by have := HXl.out; omega) (fun r hr => HOk.out r (HMm.out r (by rw [HP6.out] at hr; exact List.mem_of_mem_take hr)))).mono ?_
      clear hcut
      rintro _ w8 ⟨rfl, f8⟩
      have F8 := hideP (F7.out.trans f8)
      clear f8
      go_wp2_with fail
      go_ret
      exact ⟨rfl, F8.out⟩
     ·
      have hD := isRR_back (HR.out.fr F4.out) K HKn.out (Option.map (fun x => x.add K) A0) (fun b o e => .inr (by rw [e]; simp [Addr.add_lit]))
      rw [HDe.out] at hD
      refine (together_any _ _ x D w4 HP.out hD (by have := HXl.out; have := HDl.out; omega)).mono ?_
      clear hD
      rintro _ w5 ⟨⟨u, rfl, hT⟩, f5⟩
      rw [HJe.out] at hT
      obtain ⟨ta, tc, rfl⟩ := hT.slice
      have F5 := hideP (F4.out.trans f5)
      have HT := hideP hT
      replace HO := hideP (HO.out.fr f5)
      replace HP := hideP (HP.out.fr f5)
      clear f5 hT
      go_wp2_with fail
      have k6 := HF.out w5 _ J HT.out HJm.out (by have := HJl.out; omega)
      rw [HP4.out] at k6
      refine k6.mono ?_
      clear k6
      rintro _ w6 ⟨⟨u, rfl, hQ⟩, f6⟩
      obtain ⟨za, zc, rfl⟩ := hQ.slice
      have F6 := hideP (F5.out.trans f6)
      have HQ := hideP hQ.rows
      replace HO := hideP (HO.out.fr f6)
      replace HP := hideP (HP.out.fr f6)
      clear f6 hQ
      go_wp2_with fail
      refine (sameRows_eq _ _ m w6 HQ.out HO.out (by have := HMl.out; omega) (fun r hr => HOk.out r (HMm.out r hr))).mono ?_
      rintro _ w7 ⟨rfl, f7⟩
      have F7 := hideP (F6.out.trans f7)
      replace HO := hideP (HO.out.fr f7)
      replace HP := hideP (HP.out.fr f7)
      clear f7
      go_wp2_with fail
      have hcut := isRR_head HO.out x.length (by omega)
      rw [← HP6.out] at hcut
      refine (sameRows_eq _ _ x w7 HP.out hcut (by have := HXl.out; omega) (fun r hr => HOk.out r (HMm.out r (by rw [HP6.out] at hr; exact List.mem_of_mem_take hr)))).mono ?_
      clear hcut
      rintro _ w8 ⟨rfl, f8⟩
      have F8 := hideP (F7.out.trans f8)
      clear f8
      go_wp2_with fail
      go_ret
      exact ⟨rfl, F8.out⟩

set_option maxRecDepth 100000 in
theorem lifted (os : Go.Os) (started : os.Started) (H : Type) (enc : TypeId × Value → H) :
  ReturnsInHanded {} Tryz.checked os 14 .any (fun w args => (Rows.distinctOnceSpec.pre enc Tryz.prog Tryz.f14 [] false w args ∧ laidMetH Tryz.prog Rows.distinctOnceRow.laid w) ∧ sizedMet enc Tryz.prog Tryz.f14 (OpenSpec.ofChange Rows.distinctOnceSpec) false w args)
   (Rows.distinctOnceSpec.post enc Tryz.prog Tryz.f14 false true false false) := by
 refine returnsInHanded_of_change_and (C := Tryz.checked) (X := fun w _ => laidMetH Tryz.prog Rows.distinctOnceRow.laid w) (fun _ _ _ hh h => h.of_heap hh) own started (by kernel_rfl) Tryz.func14
  (ChangeSpec.witness_shaped (enc := enc) (C := Tryz.checked) (os := os) (X := fun w _ => laidMetH Tryz.prog Rows.distinctOnceRow.laid w) false (World.laidAll Tryz.prog os Rows.distinctOnceRow.laid) #[.slice none 0 0, .int .i64 0] 8 (World.laidAll_os _ _ _)
   (World.shaped_of_ZipB (by kernel_rfl) (by kernel_rfl)) (by kernel_rfl) (by kernel_rfl) (by kernel_rfl)
   (by rw [MakeChecks.laidMetH_plain _ _ _ (by kernel_rfl)]; exact laidMet_laidAll _ (by kernel_rfl) (by kernel_rfl))) ?_
 intro W base args ds gs before hval0 hW hcnd hsz0 hL _
 have hT : Tt W := tabs_of_laid hL
 have hval : ∀ (j : Nat) t v, Tryz.f14.params[j]? = some t → args[j]? = some v → Value.okWide Tryz.prog W .any base t v := hval0
 have hsz : (DataW.weightsEach Tryz.prog (Tryz.f14.params.toList ++ Rows.distinctOnceSpec.plain.varTypes Tryz.prog) (ds ++ gs)).all (· ≤ reachBytes) = true := hsz0
 have hW' := hW
 obtain ⟨p, q, hA0, hV, rfl, hfz, hnd⟩ := hW
 have hA : DataW.TrodAll enc Tryz.prog W 0 (fun _ => true) true Tryz.f14.params.toList args.toList ds p := hA0
 rw [Tryz.params14] at hA hval hsz
 obtain ⟨v0, vs0, d0, ds0, p0, q0, hargs, rfl, rfl, h0, r0⟩ := trodAll_cons hA
 obtain ⟨v1, vs1, d1, ds1, p1, q1, rfl, rfl, rfl, h1, r1⟩ := trodAll_cons r0
 obtain ⟨rfl, rfl, rfl⟩ := trodAll_nil r1
 obtain rfl : args = #[v0, v1] := by cases args; simp_all
 obtain ⟨rfl, rfl⟩ := trodVars_none hV
 obtain ⟨l0, rw0, ok0, b0⟩ := open_rws (hval 0 22 v0 rfl rfl) h0 (sized_at hsz (j := 0) rfl rfl)
 obtain ⟨a1, rfl, rfl, rfl, w1⟩ := open_int Tryz.underlying3 (hval 1 3 v1 rfl rfl) h1
 clear hA0 hval0 hsz0
 refine (walk v0 l0 a1 W hT rw0 ok0 b0 (wf_i64 w1)).mono fun e W' ⟨he, bel⟩ => ?_
 subst he
 exact ⟨_, rfl, _, _, _, [], _, [], hW', trodAll_mk1 (shut_bool Tryz.underlying4 _), (trodAll_cons_mk (shut_rws h0 bel) (trodAll_cons_mk (shut_int Tryz.underlying3 w1) trodAll_mk0)), rfl, Below.frame bel _, fun h => by cases h⟩
theorem closed : joinedFacts Tryz.prog 14 Tryz.f14 Rows.distinctOnceSpec Rows.distinctOnceRow = true := by
 unfold joinedFacts
 repeat' (with_reducible refine Bool.and_eq_true_iff.2 ⟨?_, ?_⟩)
 all_goals first
  | with_reducible exact HeadW.mayEnter
  | with_reducible exact laidOut
  | with_reducible exact HeadW.mapsRowed
  | with_reducible exact HeadW.stopsHeard
  | (rw [HeadW.liftsFinal]; as_aux_lemma => kernel_rfl)
  | (rw [HeadW.make]; as_aux_lemma => kernel_rfl)
  | (rw [HeadW.plainKeys]; as_aux_lemma => kernel_rfl)
  | as_aux_lemma => kernel_rfl
theorem over : Rows.distinctOnceRow.holds Tryz.pinned (OpenSpec.ofChange Rows.distinctOnceSpec) :=
 OpenClaim.holds_of_wide 14 Tryz.f14 rfl rfl rfl rfl rfl rfl rfl ⟨rfl, rfl, rfl, rfl, rfl⟩ rfl rfl rfl rfl rfl (by as_aux_lemma => kernel_rfl) Tryz.func14 closed
  (of_decide_eq_true (by as_aux_lemma => kernel_rfl)) (by unfold Func.isWrapper; first | (rw [if_pos (by decide +kernel)]; kernel_rfl) | (rw [if_neg (by decide +kernel)]; exact ⟨rfl, rfl⟩))
  (fun os started H enc _ => lifted os started H enc)
theorem card : Rows.DistinctOnceCardSaid :=
 Claim7.holds_tied_plain_at .later [] [.data, .data, .data, .data, .data, .data, .pinned] true (true, "1ac927b6c31f7e9902634f50ce5f21d6511048fe18fc2768fe9f77e9756654d9") false
  over (fun _ h => by cases h) (by as_aux_lemma => kernel_rfl) (fun _ h => by cases h) distinctOnce_row_tie rfl ⟨rfl, rfl⟩ HeadW.main rfl
  (fun f fn hf hfn => by
   obtain rfl : f = 14 := Option.some.inj ((show Tryz.prog.funcNamed "starling/starlinglaw.DistinctOnce" = some 14 by as_aux_lemma => kernel_rfl).symm.trans hf) |>.symm
   obtain rfl : fn = Tryz.f14 := (Option.some.inj (Tryz.func14.symm.trans hfn)).symm
   exact ⟨HeadW.looks.symm, fun j t ht => by
    rw [Tryz.params14] at ht
    have hm : t ∈ [22, 3] := by simpa using Array.mem_of_getElem? ht
    have hall : ([22, 3].all fun u => !Tryz.prog.wantsStandIn u) = true := by as_aux_lemma => kernel_rfl
    exact (show Tryz.prog.wantsStandIn t = false by simpa using List.all_eq_true.1 hall t hm)⟩)
  (by as_aux_lemma => kernel_rfl)
end Go.Proofs.YtoepifbpchpfkaaGreatDoor.distinctOnceProof
namespace Go.Proofs.YtoepifbpchpfkaaGreatDoor
theorem distinctOnce_holds : Rows.DistinctOnceCardSaid := distinctOnceProof.card
end Go.Proofs.YtoepifbpchpfkaaGreatDoor
