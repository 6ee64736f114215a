/-
  Proved: for every value ShowBack answers true: what is shown is read as it was. No condition but the form's own reach.
-/
import Derived.Test.YtjadmefiilkgmaaGreatDoorOpenW
namespace Go.Proofs.YtjadmefiilkgmaaGreatDoor.showBackProof
open Go.ChangeShapes Go.WideShapes Go.ChangeAt Go.RowKit
set_option linter.unusedVariables false
set_option linter.unusedSimpArgs false
set_option maxRecDepth 100000

set_option maxHeartbeats 4000000 in
theorem core (k n : Int) (s S : ByteArray) (c : Nat) (w : World) (hT : Tb w) (hS : c ≠ 0 → S = ⟨#[]⟩)
    (c1 : ∀ W, Tb W → Calls Tryz.prog 18 #[.agg #[.int .i64 k, .int .i64 n, .string s]] W fun r w' => r = .returned (.tuple #[.string S, .int .i64 c]) ∧ Fr W w')
    (c2 : ∀ W, Calls Tryz.prog 16 #[.agg #[.int .i64 k, .int .i64 n, .string s]] W fun r w' => r = .returned (.int .i64 c) ∧ Fr W w')
    (c3 : c = 0 → ∀ W, Tb W → Calls Tryz.prog 19 #[.string S] W fun r w' => r = .returned (.tuple #[.agg #[.int .i64 k, .int .i64 n, .string s], .int .i64 0]) ∧ Fr W w') :
    Calls Tryz.prog 6 #[.agg #[.int .i64 k, .int .i64 n, .string s]] w fun r w' => r = .returned (.bool true) ∧ Fr w w' := by
  obtain ⟨W0, hW0⟩ : ∃ W0, w.alloc (.cells #[.int .i64 k, .int .i64 n, .string s] 23) = W0 := ⟨_, rfl⟩
  have f0 : Fr w W0 := by rw [← hW0]; exact (Fr.refl w).alloc _
  have b0 : Bx W0 w.heap.size k n s := by rw [← hW0]; exact Bx.new _ _ _ _
  have HW : Hid _ := hW0
  clear hW0
  go_enter Tryz.func6, Tryz.ntmps6
  go_wp2_with fail
  rw [HW.out]
  refine (c1 _ (hT.fr f0)).mono ?_
  rintro _ w1 ⟨rfl, f1⟩
  have F1 := f0.trans f1
  have B1 := b0.fr f1
  clear f1 b0 c1 f0 HW
  go_wp2_with fail
  refine (begun_any _ (hT.fr F1)).mono ?_
  rintro _ w2 ⟨rfl, f2⟩
  have F2 := F1.trans f2
  have B2 := B1.fr f2
  clear f2 F1 B1
  have d0 := B2.c0
  have d1 := B2.c1
  have d2 := B2.c2
  by_cases hc : c = 0
  · subst hc
    have c4 := c3 rfl w2 (hT.fr F2)
    clear c3 c2 hS
    go_wp2_with fail
    refine c4.mono ?_
    rintro _ w3 ⟨rfl, f3⟩
    have F3 : Hid (Fr w w3) := F2.trans f3
    have B3 := B2.fr f3
    have e0 := k_alloc B3.c0 (.cells #[.int .i64 k, .int .i64 n, .string s] 23)
    have e1 := k_alloc B3.c1 (.cells #[.int .i64 k, .int .i64 n, .string s] 23)
    have e2 := k_alloc B3.c2 (.cells #[.int .i64 k, .int .i64 n, .string s] 23)
    clear f3 F2 B2 c4 d0 d1 d2 B3
    go_wp2_with fail
    go_ret
    exact ⟨rfl, F3.out.alloc _⟩
  · have q1 : ((c : Int) != 0) = true := by simp; omega
    have q2 : ¬ ((c : Int) = 0) := by omega
    obtain rfl := hS hc
    clear c3 hS
    go_wp2_with fail
    refine (c2 _).mono ?_
    rintro _ w3 ⟨rfl, f3⟩
    have F3 : Hid (Fr w w3) := F2.trans f3
    clear f3 F2 c2 d0 d1 d2 B2
    go_wp2_with fail
    go_ret
    exact ⟨rfl, F3.out⟩

theorem walk (a : VM.Vl) (w : World) (hT : Tb w) (ha : -9223372036854775808 ≤ a.n ∧ a.n ≤ 9223372036854775807) :
    Calls Tryz.prog 6 #[a.val] w fun e w' => e = .returned (.bool true) ∧ Fr w w' := by
  refine core a.k a.n a.s ⟨(shn a).toArray⟩ (VM.chk a) w hT (fun hc => ?_) (fun W hW => show_any a ha.1 ha.2 W hW) (fun W => check_any a.k a.n a.s W) (fun hc W hW => ?_)
  · unfold shn; rw [if_neg hc]
  · have h := of_any ⟨(shn a).toArray⟩ W (by rw [mk_size]; have := shn_len a ha; omega) hW
    rw [dl_mk, rd_shn a ha hc] at h
    unfold rdV at h
    simp only [dl_eq] at h
    exact h

set_option maxRecDepth 100000 in
theorem lifted (os : Os) (started : os.Started) (H : Type) (enc : TypeId × Value → H) :
    ReturnsInHanded {} Tryz.checked os 6 .any (fun w args => (Rows.showBackSpec.pre enc Tryz.prog Tryz.f6 [] false w args ∧ laidMetH Tryz.prog Rows.showBackRow.laid w) ∧ sizedMet enc Tryz.prog Tryz.f6 (OpenSpec.ofChange Rows.showBackSpec) false w args)
      (Rows.showBackSpec.post enc Tryz.prog Tryz.f6 false true false false) := by
  refine returnsInHanded_of_change_and (C := Tryz.checked) (X := fun w _ => laidMetH Tryz.prog Rows.showBackRow.laid w) (fun _ _ _ hh h => h.of_heap hh) own started (by kernel_rfl) Tryz.func6
    (ChangeSpec.witness_shaped (enc := enc) (C := Tryz.checked) (os := os) (X := fun w _ => laidMetH Tryz.prog Rows.showBackRow.laid w) false (World.laidAll Tryz.prog os Rows.showBackRow.laid) #[.agg #[.int .i64 0, .int .i64 0, .string ByteArray.empty]] 8 (World.laidAll_os _ _ _)
      (World.shaped_of_ZipB (by kernel_rfl) (by kernel_rfl)) (by kernel_rfl) (by kernel_rfl) (by kernel_rfl)
      (by rw [MakeChecks.laidMetH_plain _ _ _ (by kernel_rfl)]; exact laidMet_laidAll _ (by kernel_rfl) (by kernel_rfl))) ?_
  intro W base args ds gs before hval0 hW hcnd hsz0 hL _
  have hT : Tb W := tabs_of_laid hL
  have hval : ∀ (j : Nat) t v, Tryz.f6.params[j]? = some t → args[j]? = some v → Value.okWide Tryz.prog W .any base t v := hval0
  have hsz : (DataW.weightsEach Tryz.prog (Tryz.f6.params.toList ++ Rows.showBackSpec.plain.varTypes Tryz.prog) (ds ++ gs)).all (· ≤ reachBytes) = true := hsz0
  have hW' := hW
  obtain ⟨p, q, hA0, hV, rfl, hfz, hnd⟩ := hW
  have hA : DataW.TrodAll enc Tryz.prog W 0 (fun _ => true) true Tryz.f6.params.toList args.toList ds p := hA0
  rw [Tryz.params6] at hA hval hsz
  obtain ⟨v0, vs0, d0, ds0, p0, q0, hargs, rfl, rfl, h0, r0⟩ := trodAll_cons hA
  obtain ⟨rfl, rfl, rfl⟩ := trodAll_nil r0
  obtain rfl : args = #[v0] := by cases args; simp_all
  obtain ⟨rfl, rfl⟩ := trodVars_none hV
  obtain ⟨a0, rfl, wd0⟩ := open_valw (hval 0 23 v0 rfl rfl) h0
  clear hA0 hval0 hsz0
  refine (walk a0 W hT wd0).mono fun e W' ⟨he, bel⟩ => ?_
  subst he
  exact ⟨_, rfl, _, _, _, [], _, [], hW', trodAll_mk1 (shut_bool Tryz.underlying4 _), (trodAll_cons_mk (shut_val h0 bel) trodAll_mk0), rfl, Below.frame bel _, fun h => by cases h⟩

theorem over : Rows.showBackRow.holds Tryz.pinned (OpenSpec.ofChange Rows.showBackSpec) :=
  OpenClaim.holds_of_wide 6 Tryz.f6 rfl rfl rfl rfl rfl rfl rfl ⟨rfl, rfl, rfl, rfl, rfl⟩ rfl rfl rfl rfl rfl (by kernel_rfl) Tryz.func6 (by kernel_rfl)
    (of_decide_eq_true (by kernel_rfl)) (by unfold Func.isWrapper; first | (rw [if_pos (by decide +kernel)]; kernel_rfl) | (rw [if_neg (by decide +kernel)]; exact ⟨rfl, rfl⟩))
    (fun os started H enc _ => lifted os started H enc)

theorem card : Rows.ShowBackCardSaid :=
  Claim7.holds_tied_plain_at .later [] [.data, .data, .data, .sentinel, .sentinel] true (true, "096a2825e3b49c34390402dbfe12fba8205c45b11441fe7016cc1e7c1d5b3e22") true
    over (fun _ h => by cases h) (by kernel_rfl) (fun _ h => by cases h) showBack_row_tie rfl ⟨rfl, rfl⟩ (by kernel_rfl) rfl
    (fun f fn hf hfn => by
      obtain rfl : f = 6 := Option.some.inj ((show Tryz.prog.funcNamed "starling/starlinglaw.ShowBack" = some 6 by kernel_rfl).symm.trans hf) |>.symm
      obtain rfl : fn = Tryz.f6 := (Option.some.inj (Tryz.func6.symm.trans hfn)).symm
      exact ⟨by kernel_rfl, fun j t ht => by
        rw [Tryz.params6] at ht
        have hm : t ∈ [23] := by simpa using Array.mem_of_getElem? ht
        have hall : ([23].all fun u => !Tryz.prog.wantsStandIn u) = true := by kernel_rfl
        exact (show Tryz.prog.wantsStandIn t = false by simpa using List.all_eq_true.1 hall t hm)⟩)
    (by kernel_rfl)

end Go.Proofs.YtjadmefiilkgmaaGreatDoor.showBackProof
namespace Go.Proofs.YtjadmefiilkgmaaGreatDoor
theorem showBack_holds : Rows.ShowBackCardSaid := showBackProof.card
#print axioms showBack_holds
end Go.Proofs.YtjadmefiilkgmaaGreatDoor
