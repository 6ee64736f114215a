/-
  Proved: for every page and place PageMoved answers true: a page that was moved is not opened. No condition but the form's own reach.
-/
import Derived.Test.YtfjdialbjbomdaaDoorTabs
namespace Go.Proofs.YtfjdialbjbomdaaDoor.pageMovedProof
open Go.ChangeShapes Go.WideShapes Go.ChangeAt Go.RowKit
open Go.ChangeMaps (open_string shut_string)
set_option linter.unusedVariables false
set_option linter.unusedSimpArgs false
set_option maxRecDepth 100000

set_option maxHeartbeats 4000000 in
theorem core (no kind owner n : Int) (s S : ByteArray) (c : Nat) (w : World)
    (c1 : ∀ W, Calls Tryd.prog 9 #[.agg #[.int .i64 no, .int .i64 kind, .int .i64 owner, .string s]] W fun e w' => e = .returned (.tuple #[.string S, .int .i64 (c : Int)]) ∧ Fr W w')
    (c3 : c = 0 → 0 ≤ n → n ≤ 31 → n ≠ no → ∀ W, Calls Tryd.prog 10 #[.int .i64 n, .string S] W fun e w' => e = .returned (.tuple #[.agg #[.int .i64 0, .int .i64 0, .int .i64 0, .string ⟨#[]⟩], .int .i64 11]) ∧ Fr W w') :
    Calls Tryd.prog 6 #[.agg #[.int .i64 no, .int .i64 kind, .int .i64 owner, .string s], .int .i64 n] w fun e w' => e = .returned (.bool true) ∧ Fr w w' := by
  obtain ⟨W0, hW0⟩ : ∃ W0, w.alloc (.cells #[.int .i64 no, .int .i64 kind, .int .i64 owner, .string s] 23) = W0 := ⟨_, rfl⟩
  have f0 : Fr w W0 := by rw [← hW0]; exact (Fr.refl w).alloc _
  have b0 : Bp W0 w.heap.size no kind owner s := by rw [← hW0]; exact Bp.new _ _ _ _ _
  obtain ⟨g, hg⟩ : ∃ g, w.heap.size = g := ⟨_, rfl⟩
  rw [hg] at b0
  have q0 := b0.c0
  have q1 := b0.c1
  have q2 := b0.c2
  have q3 := b0.c3
  go_enter Tryd.func6, Tryd.ntmps6
  go_wp2_with fail
  refine (c1 _).mono ?_
  rintro _ w1 ⟨rfl, f1⟩
  have F1 : Fr w w1 := f0.trans f1
  have b1 := b0.fr f1
  clear f0 f1 b0 hW0 c1 q0 q1 q2 q3
  go_wp2_with fail
  refine (begun_any _).mono ?_
  rintro _ w2 ⟨rfl, f2⟩
  have F2 : Fr w w2 := F1.trans f2
  have b2 := b1.fr f2
  clear f2 b1 F1
  have q0 := b2.c0
  by_cases hc : c = 0
  · subst hc
    by_cases h1 : n < 0
    · clear c3
      go_wp2_with fail
      go_ret
      exact ⟨rfl, F2⟩
    · have h1' : 0 ≤ n := by omega
      by_cases h2 : 32 ≤ n
      · clear c3 h1
        go_wp2_with fail
        go_ret
        exact ⟨rfl, F2⟩
      · have h2' : n < 32 := by omega
        by_cases h3 : n = no
        · subst h3
          clear c3 h1 h2
          go_wp2_with fail
          go_ret
          exact ⟨rfl, F2⟩
        · have c4 := c3 rfl h1' (by omega) h3
          have h4 : (n == no) = false := by simpa using h3
          clear c3 h1 h2
          go_wp2_with fail
          refine (c4 _).mono ?_
          rintro _ w4 ⟨rfl, f4⟩
          have F4 : Hid (Fr w w4) := F2.trans f4
          clear f4 b2 F2 q0 c4
          go_wp2_with fail
          go_ret
          exact ⟨rfl, F4.out.alloc _⟩
  · have n1 : ((c : Int) != 0) = true := by simp; omega
    have n2 : ¬ ((c : Int) = 0) := by omega
    clear c3 hc
    go_wp2_with fail
    go_ret
    exact ⟨rfl, F2⟩

theorem walk (p : PG.Pg) (n : Int) (w : World) (hT : Tb w) (hp : p.body.length ≤ maxLen) (hn : -9223372036854775808 ≤ n ∧ n ≤ 9223372036854775807) : Calls Tryd.prog 6 #[pgV p, .int .i64 n] w fun e w' => e = .returned (.bool true) ∧ Fr w w' := by
  by_cases h : PG.chk p = 0
  · refine core p.no p.kind p.owner n ⟨p.body.toArray⟩ ⟨(PG.sld p).toArray⟩ 0 w (fun W => ?_) (fun _ h1 h2 h3 W => ?_)
    · have := seal_any p W
      rw [slV_ok h] at this
      exact this
    · have := open_any n ⟨(PG.sld p).toArray⟩ W
      rw [dl_mk, PG.moved h h1 h2 h3] at this
      exact this
  · refine core p.no p.kind p.owner n ⟨p.body.toArray⟩ ⟨#[]⟩ (PG.chk p) w (fun W => ?_) (fun c => absurd c h)
    have := seal_any p W
    rw [slV_bad h] at this
    exact this

set_option maxRecDepth 100000 in
theorem lifted (os : Os) (started : os.Started) (H : Type) (enc : TypeId × Value → H) :
    ReturnsInHanded {} Tryd.checked os 6 .any (fun w args => (Rows.pageMovedSpec.pre enc Tryd.prog Tryd.f6 [] false w args ∧ laidMetH Tryd.prog Rows.pageMovedRow.laid w) ∧ sizedMet enc Tryd.prog Tryd.f6 (OpenSpec.ofChange Rows.pageMovedSpec) false w args)
      (Rows.pageMovedSpec.post enc Tryd.prog Tryd.f6 false true false false) := by
  refine returnsInHanded_of_change_and (C := Tryd.checked) (X := fun w _ => laidMetH Tryd.prog Rows.pageMovedRow.laid w) (fun _ _ _ hh h => h.of_heap hh) own started (by kernel_rfl) Tryd.func6
    (ChangeSpec.witness_shaped (enc := enc) (C := Tryd.checked) (os := os) (X := fun w _ => laidMetH Tryd.prog Rows.pageMovedRow.laid w) false (World.laidAll Tryd.prog os Rows.pageMovedRow.laid) #[.agg #[.int .i64 0, .int .i64 0, .int .i64 0, .string ByteArray.empty], .int .i64 0] 8 (World.laidAll_os _ _ _)
      (World.shaped_of_ZipB (by kernel_rfl) (by kernel_rfl)) (by kernel_rfl) (by kernel_rfl) (by kernel_rfl)
      (by rw [MakeChecks.laidMetH_plain _ _ _ (by kernel_rfl)]; exact laidMet_laidAll _ (by kernel_rfl) (by kernel_rfl))) ?_
  intro W base args ds gs before hval0 hW hcnd hsz0 hL _
  have hT : Tb W := tabs_of_laid hL
  have hval : ∀ (j : Nat) t v, Tryd.f6.params[j]? = some t → args[j]? = some v → Value.okWide Tryd.prog W .any base t v := hval0
  have hsz : (DataW.weightsEach Tryd.prog (Tryd.f6.params.toList ++ Rows.pageMovedSpec.plain.varTypes Tryd.prog) (ds ++ gs)).all (· ≤ reachBytes) = true := hsz0
  have hW' := hW
  obtain ⟨p, q, hA0, hV, rfl, hfz, hnd⟩ := hW
  have hA : DataW.TrodAll enc Tryd.prog W 0 (fun _ => true) true Tryd.f6.params.toList args.toList ds p := hA0
  rw [Tryd.params6] at hA hval hsz
  obtain ⟨v0, vs0, d0, ds0, p0, q0, hargs, rfl, rfl, h0, r0⟩ := trodAll_cons hA
  obtain ⟨v1, vs1, d1, ds1, p1, q1, rfl, rfl, rfl, h1, r1⟩ := trodAll_cons r0
  obtain ⟨rfl, rfl, rfl⟩ := trodAll_nil r1
  obtain rfl : args = #[v0, v1] := by cases args; simp_all
  obtain ⟨rfl, rfl⟩ := trodVars_none hV
  obtain ⟨a0, rfl, wd0⟩ := open_page (hval 0 23 v0 rfl rfl) h0
  obtain ⟨a1, rfl, rfl, rfl, w1⟩ := open_int Tryd.underlying3 (hval 1 3 v1 rfl rfl) h1
  clear hA0 hval0 hsz0
  refine (walk a0 a1 W hT wd0 (wf_i64 w1)).mono fun e W' ⟨he, bel⟩ => ?_
  subst he
  exact ⟨_, rfl, _, _, _, [], _, [], hW', trodAll_mk1 (shut_bool Tryd.underlying4 _), (trodAll_cons_mk (shut_page h0 bel) (trodAll_cons_mk (shut_int Tryd.underlying3 w1) trodAll_mk0)), rfl, Below.frame bel _, fun h => by cases h⟩

theorem over : Rows.pageMovedRow.holds Tryd.pinned (OpenSpec.ofChange Rows.pageMovedSpec) :=
  OpenClaim.holds_of_wide 6 Tryd.f6 rfl rfl rfl rfl rfl rfl rfl ⟨rfl, rfl, rfl, rfl, rfl⟩ rfl rfl rfl rfl rfl (by kernel_rfl) Tryd.func6 (by kernel_rfl)
    (of_decide_eq_true (by kernel_rfl)) (by unfold Func.isWrapper; first | (rw [if_pos (by decide +kernel)]; kernel_rfl) | (rw [if_neg (by decide +kernel)]; exact ⟨rfl, rfl⟩))
    (fun os started H enc _ => lifted os started H enc)

theorem card : Rows.PageMovedCardSaid :=
  Claim7.holds_tied_plain_at .later [] [.data, .pinned] true (true, "59045a2a302e576d36634984a5a2261e4b9b5f3ca25b2db331640d2961848aad") false
    over (fun _ h => by cases h) (by kernel_rfl) (fun _ h => by cases h) pageMoved_row_tie rfl ⟨rfl, rfl⟩ (by kernel_rfl) rfl
    (fun f fn hf hfn => by
      obtain rfl : f = 6 := Option.some.inj ((show Tryd.prog.funcNamed "starling/starlinglaw.PageMoved" = some 6 by kernel_rfl).symm.trans hf) |>.symm
      obtain rfl : fn = Tryd.f6 := (Option.some.inj (Tryd.func6.symm.trans hfn)).symm
      exact ⟨by kernel_rfl, fun j t ht => by
        rw [Tryd.params6] at ht
        have hm : t ∈ [23, 3] := by simpa using Array.mem_of_getElem? ht
        have hall : ([23, 3].all fun u => !Tryd.prog.wantsStandIn u) = true := by kernel_rfl
        exact (show Tryd.prog.wantsStandIn t = false by simpa using List.all_eq_true.1 hall t hm)⟩)
    (by kernel_rfl)

end Go.Proofs.YtfjdialbjbomdaaDoor.pageMovedProof
namespace Go.Proofs.YtfjdialbjbomdaaDoor
theorem pageMoved_holds : Rows.PageMovedCardSaid := pageMovedProof.card
#print axioms pageMoved_holds
end Go.Proofs.YtfjdialbjbomdaaDoor
