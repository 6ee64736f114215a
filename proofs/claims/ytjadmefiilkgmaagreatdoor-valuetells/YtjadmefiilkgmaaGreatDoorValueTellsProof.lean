/-
  Proved: for every two values ValueTells answers true: Check and Compare answer just what the document says. No condition but the form's own reach.
-/
import Derived.Test.YtjadmefiilkgmaaGreatDoorRefOrd
namespace Go.Proofs.YtjadmefiilkgmaaGreatDoor.valueTellsProof
open Go.ChangeShapes Go.WideShapes Go.ChangeAt Go.RowKit
set_option linter.unusedVariables false
set_option linter.unusedSimpArgs false
set_option maxRecDepth 100000

theorem lit2 (W : World) (a b : VM.Vl) : IsRow (W.alloc (.cells #[.int .i64 a.k, .int .i64 a.n, .string a.s, .int .i64 b.k, .int .i64 b.n, .string b.s] 23)) (.slice (some ⟨W.heap.size, 0, none⟩) 2 2) [a, b] := by
  refine ⟨_, 2, rfl, Or.inr ⟨W.heap.size, 0, rfl, by simp, ?_⟩⟩
  intro i hi
  match i, hi with
  | 0, _ => simp [go_sem]
  | 1, _ => simp [go_sem]

set_option maxHeartbeats 8000000 in
theorem core (ak an bk bn : Int) (sa sb : ByteArray) (x : Int) (e c : Nat) (w : World) (hT : Tb w) (hx : e ≠ 0 → x = 0)
    (c1 : ∀ W, Calls Tryz.prog 12 #[.agg #[.int .i64 ak, .int .i64 an, .string sa], .agg #[.int .i64 bk, .int .i64 bn, .string sb]] W fun r w' => r = .returned (.tuple #[.int .i64 x, .int .i64 e]) ∧ Fr W w')
    (c2 : ∀ W, Calls Tryz.prog 13 #[.slice (some ⟨W.heap.size, 0, none⟩) 2 2] (W.alloc (.cells #[.int .i64 ak, .int .i64 an, .string sa, .int .i64 bk, .int .i64 bn, .string sb] 23)) fun r w' => r = .returned (.int .i64 e) ∧ Fr W w')
    (c3 : e = 0 → ∀ W, Calls Tryz.prog 14 #[.agg #[.int .i64 ak, .int .i64 an, .string sa], .agg #[.int .i64 bk, .int .i64 bn, .string sb]] W fun r w' => r = .returned (.int .i64 x) ∧ Fr W w')
    (c4 : ∀ W, Calls Tryz.prog 16 #[.agg #[.int .i64 ak, .int .i64 an, .string sa]] W fun r w' => r = .returned (.int .i64 c) ∧ Fr W w')
    (c5 : ∀ W, Calls Tryz.prog 17 #[.agg #[.int .i64 ak, .int .i64 an, .string sa]] W fun r w' => r = .returned (.int .i64 c) ∧ Fr W w') :
    Calls Tryz.prog 3 #[.agg #[.int .i64 ak, .int .i64 an, .string sa], .agg #[.int .i64 bk, .int .i64 bn, .string sb]] w fun r w' => r = .returned (.bool true) ∧ Fr w w' := by
  obtain ⟨W0, hW0, f0, A0, B0⟩ := box2 w ⟨ak, an, sa⟩ ⟨bk, bn, sb⟩
  simp only at hW0 A0 B0
  have HW : Hid _ := hW0
  clear hW0
  go_enter Tryz.func3, Tryz.ntmps3
  go_wp2_with fail
  rw [HW.out]
  refine (c1 _).mono ?_
  rintro _ w1 ⟨rfl, f1⟩
  have F1 := f0.trans f1
  have A1 := A0.fr f1
  have B1 := B0.fr f1
  clear f1 f0 A0 B0 c1 HW
  have a0 := A1.c0
  have a1 := A1.c1
  have a2 := A1.c2
  have b0 := B1.c0
  have b1 := B1.c1
  have b2 := B1.c2
  go_wp2_with fail
  refine (c2 _).mono ?_
  rintro _ w2 ⟨rfl, f2⟩
  have F2 := F1.trans f2
  have A2 := A1.fr f2
  have B2 := B1.fr f2
  clear f2 F1 A1 B1 c2 a0 a1 a2 b0 b1 b2
  have a0 := A2.c0
  have a1 := A2.c1
  have a2 := A2.c2
  have b0 := B2.c0
  have b1 := B2.c1
  have b2 := B2.c2
  have bg := fun W hW => begun_any W hW
  by_cases he : e = 0
  · subst he
    have c6 := fun W => c3 rfl W
    clear c3 hx
    go_wp2_with fail
    refine (c6 _).mono ?_
    rintro _ w3 ⟨rfl, f3⟩
    have F3 := F2.trans f3
    have A3 := A2.fr f3
    clear f3 F2 A2 B2 c6 a0 a1 a2 b0 b1 b2
    have c7 := begun_any w3.drew (hT.fr F3.drew)
    have k0 := A3.c0
    have k1 := A3.c1
    have k2 := A3.c2
    have HF : Hid _ := F3
    clear F3 A3 bg
    go_wp2_with fail
    go_region_held3 (fun W' => W'.cell? ⟨w.heap.size, 0, none⟩ = some (.int .i64 ak) ∧ W'.cell? ⟨w.heap.size, 1, none⟩ = some (.int .i64 an) ∧ W'.cell? ⟨w.heap.size, 2, none⟩ = some (.string sa)) (first | exact ⟨k0, k1, k2⟩ | assumption | exact s3_after (by assumption) (by assumption)) (first
      | (go_at_call 15; refine c7.mono ?_; rintro e w1 ⟨rfl, hfx⟩)
      | (go_at_call 16; refine (c4 _).mono ?_; rintro e w2 ⟨rfl, hfx⟩)
      | (go_at_call 17; refine (c5 _).mono ?_; rintro e w3 ⟨rfl, hfx⟩))
    all_goals
      go_wp2_with fail
      go_ret
      exact ⟨rfl, Fr.trans HF.out (Fr.after (by assumption) (Fr.after (by assumption) (Fr.after (by assumption) (Fr.drew (Fr.refl _)))))⟩
  · have q1 : ((e : Int) == 0) = false := by simp; omega
    have q2 : ¬ ((e : Int) = 0) := by omega
    obtain rfl := hx he
    have c7 := begun_any w2.drew (hT.fr F2.drew)
    have HF : Hid _ := F2
    clear c3 hx F2 A2 B2 b0 b1 b2 bg
    go_wp2_with fail
    go_region_held3 (fun W' => W'.cell? ⟨w.heap.size, 0, none⟩ = some (.int .i64 ak) ∧ W'.cell? ⟨w.heap.size, 1, none⟩ = some (.int .i64 an) ∧ W'.cell? ⟨w.heap.size, 2, none⟩ = some (.string sa)) (first | exact ⟨a0, a1, a2⟩ | assumption | exact s3_after (by assumption) (by assumption)) (first
      | (go_at_call 15; refine c7.mono ?_; rintro e w1 ⟨rfl, hfx⟩)
      | (go_at_call 16; refine (c4 _).mono ?_; rintro e w2 ⟨rfl, hfx⟩)
      | (go_at_call 17; refine (c5 _).mono ?_; rintro e w3 ⟨rfl, hfx⟩))
    all_goals
      go_wp2_with fail
      go_ret
      exact ⟨rfl, Fr.trans HF.out (Fr.after (by assumption) (Fr.after (by assumption) (Fr.after (by assumption) (Fr.drew (Fr.refl _)))))⟩

theorem walk (a b : VM.Vl) (w : World) (hT : Tb w) (ha : a.s.size ≤ maxLen) (hb : b.s.size ≤ maxLen) :
    Calls Tryz.prog 3 #[a.val, b.val] w fun e w' => e = .returned (.bool true) ∧ Fr w w' := by
  refine core a.k a.n b.k b.n a.s b.s (CM.cmp a b) (VM.chkAll [a, b]) (VM.chk a) w hT (fun h => if_neg h) (fun W => valCompare_any a b W) (fun W => ?_) (fun h W => ?_) (fun W => check_any a.k a.n a.s W) (fun W => rcheck_any a.k a.n a.s W)
  · refine (rcheckAll_any _ [a, b] _ (lit2 W a b) (by simp)).mono ?_
    rintro _ w' ⟨rfl, hf⟩
    exact ⟨rfl, ((Fr.refl W).alloc _).trans hf⟩
  · rw [SM.cmp_ok h]
    exact orderOf_any a b W ha hb

set_option maxRecDepth 100000 in
theorem lifted (os : Os) (started : os.Started) (H : Type) (enc : TypeId × Value → H) :
    ReturnsInHanded {} Tryz.checked os 3 .any (fun w args => (Rows.valueTellsSpec.pre enc Tryz.prog Tryz.f3 [] false w args ∧ laidMetH Tryz.prog Rows.valueTellsRow.laid w) ∧ sizedMet enc Tryz.prog Tryz.f3 (OpenSpec.ofChange Rows.valueTellsSpec) false w args)
      (Rows.valueTellsSpec.post enc Tryz.prog Tryz.f3 false true false false) := by
  refine returnsInHanded_of_change_and (C := Tryz.checked) (X := fun w _ => laidMetH Tryz.prog Rows.valueTellsRow.laid w) (fun _ _ _ hh h => h.of_heap hh) own started (by kernel_rfl) Tryz.func3
    (ChangeSpec.witness_shaped (enc := enc) (C := Tryz.checked) (os := os) (X := fun w _ => laidMetH Tryz.prog Rows.valueTellsRow.laid w) false (World.laidAll Tryz.prog os Rows.valueTellsRow.laid) #[.agg #[.int .i64 0, .int .i64 0, .string ByteArray.empty], .agg #[.int .i64 0, .int .i64 0, .string ByteArray.empty]] 8 (World.laidAll_os _ _ _)
      (World.shaped_of_ZipB (by kernel_rfl) (by kernel_rfl)) (by kernel_rfl) (by kernel_rfl) (by kernel_rfl)
      (by rw [MakeChecks.laidMetH_plain _ _ _ (by kernel_rfl)]; exact laidMet_laidAll _ (by kernel_rfl) (by kernel_rfl))) ?_
  intro W base args ds gs before hval0 hW hcnd hsz0 hL _
  have hT : Tb W := tabs_of_laid hL
  have hval : ∀ (j : Nat) t v, Tryz.f3.params[j]? = some t → args[j]? = some v → Value.okWide Tryz.prog W .any base t v := hval0
  have hsz : (DataW.weightsEach Tryz.prog (Tryz.f3.params.toList ++ Rows.valueTellsSpec.plain.varTypes Tryz.prog) (ds ++ gs)).all (· ≤ reachBytes) = true := hsz0
  have hW' := hW
  obtain ⟨p, q, hA0, hV, rfl, hfz, hnd⟩ := hW
  have hA : DataW.TrodAll enc Tryz.prog W 0 (fun _ => true) true Tryz.f3.params.toList args.toList ds p := hA0
  rw [Tryz.params3] at hA hval hsz
  obtain ⟨v0, vs0, d0, ds0, p0, q0, hargs, rfl, rfl, h0, r0⟩ := trodAll_cons hA
  obtain ⟨v1, vs1, d1, ds1, p1, q1, rfl, rfl, rfl, h1, r1⟩ := trodAll_cons r0
  obtain ⟨rfl, rfl, rfl⟩ := trodAll_nil r1
  obtain rfl : args = #[v0, v1] := by cases args; simp_all
  obtain ⟨rfl, rfl⟩ := trodVars_none hV
  obtain ⟨a0, rfl, wd0⟩ := open_val (hval 0 23 v0 rfl rfl) h0
  obtain ⟨a1, rfl, wd1⟩ := open_val (hval 1 23 v1 rfl rfl) h1
  clear hA0 hval0 hsz0
  refine (walk a0 a1 W hT wd0 wd1).mono fun e W' ⟨he, bel⟩ => ?_
  subst he
  exact ⟨_, rfl, _, _, _, [], _, [], hW', trodAll_mk1 (shut_bool Tryz.underlying4 _), (trodAll_cons_mk (shut_val h0 bel) (trodAll_cons_mk (shut_val h1 bel) trodAll_mk0)), rfl, Below.frame bel _, fun h => by cases h⟩

theorem over : Rows.valueTellsRow.holds Tryz.pinned (OpenSpec.ofChange Rows.valueTellsSpec) :=
  OpenClaim.holds_of_wide 3 Tryz.f3 rfl rfl rfl rfl rfl rfl rfl ⟨rfl, rfl, rfl, rfl, rfl⟩ rfl rfl rfl rfl rfl (by kernel_rfl) Tryz.func3 (by kernel_rfl)
    (of_decide_eq_true (by kernel_rfl)) (by unfold Func.isWrapper; first | (rw [if_pos (by decide +kernel)]; kernel_rfl) | (rw [if_neg (by decide +kernel)]; exact ⟨rfl, rfl⟩))
    (fun os started H enc _ => lifted os started H enc)

theorem card : Rows.ValueTellsCardSaid :=
  Claim7.holds_tied_plain_at .later [] [.data, .data, .data, .sentinel, .sentinel] true (true, "096a2825e3b49c34390402dbfe12fba8205c45b11441fe7016cc1e7c1d5b3e22") true
    over (fun _ h => by cases h) (by kernel_rfl) (fun _ h => by cases h) valueTells_row_tie rfl ⟨rfl, rfl⟩ (by kernel_rfl) rfl
    (fun f fn hf hfn => by
      obtain rfl : f = 3 := Option.some.inj ((show Tryz.prog.funcNamed "starling/starlinglaw.ValueTells" = some 3 by kernel_rfl).symm.trans hf) |>.symm
      obtain rfl : fn = Tryz.f3 := (Option.some.inj (Tryz.func3.symm.trans hfn)).symm
      exact ⟨by kernel_rfl, fun j t ht => by
        rw [Tryz.params3] at ht
        have hm : t ∈ [23, 23] := by simpa using Array.mem_of_getElem? ht
        have hall : ([23, 23].all fun u => !Tryz.prog.wantsStandIn u) = true := by kernel_rfl
        exact (show Tryz.prog.wantsStandIn t = false by simpa using List.all_eq_true.1 hall t hm)⟩)
    (by kernel_rfl)

end Go.Proofs.YtjadmefiilkgmaaGreatDoor.valueTellsProof
namespace Go.Proofs.YtjadmefiilkgmaaGreatDoor
theorem valueTells_holds : Rows.ValueTellsCardSaid := valueTellsProof.card
#print axioms valueTells_holds
end Go.Proofs.YtjadmefiilkgmaaGreatDoor
