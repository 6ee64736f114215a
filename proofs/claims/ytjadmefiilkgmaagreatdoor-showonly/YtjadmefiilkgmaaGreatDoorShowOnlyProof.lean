/-
  Proved: for every text ShowOnly answers true: what is read is shown as it stood: no value has two literals. No condition but the form's own reach.
-/
import Derived.Test.YtjadmefiilkgmaaGreatDoorOpenW
import Derived.Test.YtjadmefiilkgmaaGreatDoorVsOnly
namespace Go.Proofs.YtjadmefiilkgmaaGreatDoor.showOnlyProof
open Go.ChangeShapes Go.WideShapes Go.ChangeAt Go.RowKit
open Go.ChangeMaps (open_string shut_string)
set_option linter.unusedVariables false
set_option linter.unusedSimpArgs false
set_option maxRecDepth 100000

set_option maxHeartbeats 4000000 in
theorem core (s : ByteArray) (k n : Int) (t : ByteArray) (e : Nat) (w : World) (hT : Tb w) (h0 : e ≠ 0 → k = 0 ∧ n = 0 ∧ t = ⟨#[]⟩)
    (c1 : ∀ W, Tb W → Calls Tryz.prog 19 #[.string s] W fun r w' => r = .returned (.tuple #[.agg #[.int .i64 k, .int .i64 n, .string t], .int .i64 e]) ∧ Fr W w')
    (c2 : e = 0 → ∀ W, Tb W → Calls Tryz.prog 18 #[.agg #[.int .i64 k, .int .i64 n, .string t]] W fun r w' => r = .returned (.tuple #[.string s, .int .i64 0]) ∧ Fr W w')
    (c3 : e = 0 → ∀ W, Calls Tryz.prog 16 #[.agg #[.int .i64 k, .int .i64 n, .string t]] W fun r w' => r = .returned (.int .i64 0) ∧ Fr W w') :
    Calls Tryz.prog 7 #[.string s] w fun r w' => r = .returned (.bool true) ∧ Fr w w' := by
  go_enter Tryz.func7, Tryz.ntmps7
  go_wp2_with fail
  refine (c1 _ hT).mono ?_
  rintro _ w1 ⟨rfl, f1⟩
  have B1 := Bx.new w1 k n t
  have F1 := f1.alloc (.cells #[.int .i64 k, .int .i64 n, .string t] 23)
  clear c1 f1
  go_wp2_with fail
  refine (begun_any _ (hT.fr F1)).mono ?_
  rintro _ w2 ⟨rfl, f2⟩
  have F2 := F1.trans f2
  have B2 := B1.fr f2
  clear f2 F1 B1
  have d0 := B2.c0
  have d1 := B2.c1
  have d2 := B2.c2
  by_cases hc : e = 0
  · subst hc
    have c4 := c2 rfl w2 (hT.fr F2)
    have c5 := fun W => c3 rfl W
    clear c3 c2 h0
    go_wp2_with fail
    refine c4.mono ?_
    rintro _ w3 ⟨rfl, f3⟩
    have F3 := F2.trans f3
    have B3 := B2.fr f3
    have e0 := B3.c0
    have e1 := B3.c1
    have e2 := B3.c2
    clear f3 F2 B2 c4 d0 d1 d2 B3
    go_wp2_with fail
    refine (c5 _).mono ?_
    rintro _ w4 ⟨rfl, f4⟩
    have F4 : Hid (Fr w w4) := F3.trans f4
    clear f4 F3 c5
    go_wp2_with fail
    go_ret
    exact ⟨rfl, F4.out⟩
  · have q1 : ((e : Int) != 0) = true := by simp; omega
    have q2 : ¬ ((e : Int) = 0) := by omega
    obtain ⟨rfl, rfl, rfl⟩ := h0 hc
    have F3 : Hid (Fr w w2) := F2
    clear c3 c2 h0 F2
    go_wp2_with fail
    go_ret
    exact ⟨rfl, F3.out⟩

theorem walk (a : ByteArray) (w : World) (hT : Tb w) (ha : a.size ≤ 140737488351232) :
    Calls Tryz.prog 7 #[.string a] w fun e w' => e = .returned (.bool true) ∧ Fr w w' := by
  have key : (VS.rd a.data.toList).e = 0 → VM.chk ⟨(VS.rd a.data.toList).k, (VS.rd a.data.toList).n, ⟨(VS.rd a.data.toList).s.toArray⟩⟩ = 0 := by
    intro h
    obtain ⟨_, h2, h3, h4, h5, _, _⟩ := VS.shw_rd a.data.toList h
    unfold VM.chk
    simp only [mk_size]
    rw [if_neg (by omega), if_neg ?_, if_neg (by omega)]
    rintro (⟨q1, q2⟩ | ⟨q1, q2⟩)
    · exact q1 (h3 q2)
    · exact q1 (by rw [h4 q2]; rfl)
  refine core a (VS.rd a.data.toList).k (VS.rd a.data.toList).n ⟨(VS.rd a.data.toList).s.toArray⟩ (VS.rd a.data.toList).e w hT (fun he => ?_) (fun W hW => of_any a W (by omega) hW) (fun he W hW => ?_) (fun he W => ?_)
  · rw [VS.rd_zero _ he]
    exact ⟨rfl, rfl, rfl⟩
  · obtain ⟨h1, _, _, _, _, h6, h7⟩ := VS.shw_rd a.data.toList he
    have h := show_any ⟨(VS.rd a.data.toList).k, (VS.rd a.data.toList).n, ⟨(VS.rd a.data.toList).s.toArray⟩⟩ h6 h7 W hW
    have e2 : shn ⟨(VS.rd a.data.toList).k, (VS.rd a.data.toList).n, ⟨(VS.rd a.data.toList).s.toArray⟩⟩ = a.data.toList := by
      unfold shn
      rw [if_pos (key he)]
      exact h1
    rw [e2, key he, dl_eq] at h
    exact h
  · have h := check_any (VS.rd a.data.toList).k (VS.rd a.data.toList).n ⟨(VS.rd a.data.toList).s.toArray⟩ W
    rw [key he] at h
    exact h

set_option maxRecDepth 100000 in
theorem lifted (os : Os) (started : os.Started) (H : Type) (enc : TypeId × Value → H) :
    ReturnsInHanded {} Tryz.checked os 7 .any (fun w args => (Rows.showOnlySpec.pre enc Tryz.prog Tryz.f7 [] false w args ∧ laidMetH Tryz.prog Rows.showOnlyRow.laid w) ∧ sizedMet enc Tryz.prog Tryz.f7 (OpenSpec.ofChange Rows.showOnlySpec) false w args)
      (Rows.showOnlySpec.post enc Tryz.prog Tryz.f7 false true false false) := by
  refine returnsInHanded_of_change_and (C := Tryz.checked) (X := fun w _ => laidMetH Tryz.prog Rows.showOnlyRow.laid w) (fun _ _ _ hh h => h.of_heap hh) own started (by kernel_rfl) Tryz.func7
    (ChangeSpec.witness_shaped (enc := enc) (C := Tryz.checked) (os := os) (X := fun w _ => laidMetH Tryz.prog Rows.showOnlyRow.laid w) false (World.laidAll Tryz.prog os Rows.showOnlyRow.laid) #[.string ByteArray.empty] 8 (World.laidAll_os _ _ _)
      (World.shaped_of_ZipB (by kernel_rfl) (by kernel_rfl)) (by kernel_rfl) (by kernel_rfl) (by kernel_rfl)
      (by rw [MakeChecks.laidMetH_plain _ _ _ (by kernel_rfl)]; exact laidMet_laidAll _ (by kernel_rfl) (by kernel_rfl))) ?_
  intro W base args ds gs before hval0 hW hcnd hsz0 hL _
  have hT : Tb W := tabs_of_laid hL
  have hval : ∀ (j : Nat) t v, Tryz.f7.params[j]? = some t → args[j]? = some v → Value.okWide Tryz.prog W .any base t v := hval0
  have hsz : (DataW.weightsEach Tryz.prog (Tryz.f7.params.toList ++ Rows.showOnlySpec.plain.varTypes Tryz.prog) (ds ++ gs)).all (· ≤ reachBytes) = true := hsz0
  have hW' := hW
  obtain ⟨p, q, hA0, hV, rfl, hfz, hnd⟩ := hW
  have hA : DataW.TrodAll enc Tryz.prog W 0 (fun _ => true) true Tryz.f7.params.toList args.toList ds p := hA0
  rw [Tryz.params7] at hA hval hsz
  obtain ⟨v0, vs0, d0, ds0, p0, q0, hargs, rfl, rfl, h0, r0⟩ := trodAll_cons hA
  obtain ⟨rfl, rfl, rfl⟩ := trodAll_nil r0
  obtain rfl : args = #[v0] := by cases args; simp_all
  obtain ⟨rfl, rfl⟩ := trodVars_none hV
  obtain ⟨a0, rfl, rfl, rfl, w0⟩ := open_string Tryz.underlying9 (hval 0 9 v0 rfl rfl) h0
  have b0 : a0.size ≤ 140737488351232 := by
    have h := sized_string hsz (j := 0) (t := 9) rfl rfl
    simpa [reachBytes] using h
  clear hA0 hval0 hsz0
  refine (walk a0 W hT b0).mono fun e W' ⟨he, bel⟩ => ?_
  subst he
  exact ⟨_, rfl, _, _, _, [], _, [], hW', trodAll_mk1 (shut_bool Tryz.underlying4 _), (trodAll_cons_mk (shut_string Tryz.underlying9 w0) trodAll_mk0), rfl, Below.frame bel _, fun h => by cases h⟩

theorem over : Rows.showOnlyRow.holds Tryz.pinned (OpenSpec.ofChange Rows.showOnlySpec) :=
  OpenClaim.holds_of_wide 7 Tryz.f7 rfl rfl rfl rfl rfl rfl rfl ⟨rfl, rfl, rfl, rfl, rfl⟩ rfl rfl rfl rfl rfl (by kernel_rfl) Tryz.func7 (by kernel_rfl)
    (of_decide_eq_true (by kernel_rfl)) (by unfold Func.isWrapper; first | (rw [if_pos (by decide +kernel)]; kernel_rfl) | (rw [if_neg (by decide +kernel)]; exact ⟨rfl, rfl⟩))
    (fun os started H enc _ => lifted os started H enc)

theorem card : Rows.ShowOnlyCardSaid :=
  Claim7.holds_tied_plain_at .later [] [.data, .data, .data, .sentinel, .sentinel] true (true, "096a2825e3b49c34390402dbfe12fba8205c45b11441fe7016cc1e7c1d5b3e22") true
    over (fun _ h => by cases h) (by kernel_rfl) (fun _ h => by cases h) showOnly_row_tie rfl ⟨rfl, rfl⟩ (by kernel_rfl) rfl
    (fun f fn hf hfn => by
      obtain rfl : f = 7 := Option.some.inj ((show Tryz.prog.funcNamed "starling/starlinglaw.ShowOnly" = some 7 by kernel_rfl).symm.trans hf) |>.symm
      obtain rfl : fn = Tryz.f7 := (Option.some.inj (Tryz.func7.symm.trans hfn)).symm
      exact ⟨by kernel_rfl, fun j t ht => by
        rw [Tryz.params7] at ht
        have hm : t ∈ [9] := by simpa using Array.mem_of_getElem? ht
        have hall : ([9].all fun u => !Tryz.prog.wantsStandIn u) = true := by kernel_rfl
        exact (show Tryz.prog.wantsStandIn t = false by simpa using List.all_eq_true.1 hall t hm)⟩)
    (by kernel_rfl)

end Go.Proofs.YtjadmefiilkgmaaGreatDoor.showOnlyProof
namespace Go.Proofs.YtjadmefiilkgmaaGreatDoor
theorem showOnly_holds : Rows.ShowOnlyCardSaid := showOnlyProof.card
#print axioms showOnly_holds
end Go.Proofs.YtjadmefiilkgmaaGreatDoor
