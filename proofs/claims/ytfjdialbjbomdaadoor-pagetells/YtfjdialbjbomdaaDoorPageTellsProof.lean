/-
  Proved: for every page, place and text PageTells answers true: Check, Seal and Open answer just what the document says, errors too. No condition but the form's own reach.
-/
import Derived.Test.YtfjdialbjbomdaaDoorPgO
namespace Go.Proofs.YtfjdialbjbomdaaDoor.pageTellsProof
open Go.ChangeShapes Go.WideShapes Go.ChangeAt Go.RowKit
open Go.ChangeMaps (open_string shut_string)
set_option linter.unusedVariables false
set_option linter.unusedSimpArgs false
set_option maxRecDepth 100000

set_option maxHeartbeats 4000000 in
theorem core (no kind owner n : Int) (s t S : ByteArray) (c d : Nat) (a1 a2 a3 : Int) (a4 : ByteArray) (w : World) (h0 : c ≠ 0 → S = ⟨#[]⟩)
    (c1 : ∀ W, Calls Tryd.prog 9 #[.agg #[.int .i64 no, .int .i64 kind, .int .i64 owner, .string s]] W fun e w' => e = .returned (.tuple #[.string S, .int .i64 (c : Int)]) ∧ Fr W w')
    (c2 : ∀ W, Calls Tryd.prog 10 #[.int .i64 n, .string t] W fun e w' => e = .returned (.tuple #[.agg #[.int .i64 a1, .int .i64 a2, .int .i64 a3, .string a4], .int .i64 (d : Int)]) ∧ Fr W w')
    (c3 : ∀ W, Calls Tryd.prog 11 #[.agg #[.int .i64 no, .int .i64 kind, .int .i64 owner, .string s]] W fun e w' => e = .returned (.int .i64 (c : Int)) ∧ Fr W w')
    (c4 : c = 0 → ∀ W, Calls Tryd.prog 12 #[.agg #[.int .i64 no, .int .i64 kind, .int .i64 owner, .string s]] W fun e w' => e = .returned (.string S) ∧ Fr W w')
    (c5 : ∀ W, Calls Tryd.prog 13 #[.int .i64 n, .string t] W fun e w' => e = .returned (.tuple #[.agg #[.int .i64 a1, .int .i64 a2, .int .i64 a3, .string a4], .int .i64 (d : Int)]) ∧ Fr W w')
    (c6 : ∀ W, Calls Tryd.prog 15 #[.agg #[.int .i64 no, .int .i64 kind, .int .i64 owner, .string s]] W fun e w' => e = .returned (.int .i64 (c : Int)) ∧ Fr W w') :
    Calls Tryd.prog 3 #[.agg #[.int .i64 no, .int .i64 kind, .int .i64 owner, .string s], .int .i64 n, .string t] w fun e w' => e = .returned (.bool true) ∧ Fr w w' := by
  obtain ⟨W0, hW0⟩ : ∃ W0, w.alloc (.cells #[.int .i64 no, .int .i64 kind, .int .i64 owner, .string s] 23) = W0 := ⟨_, rfl⟩
  have f0 : Fr w W0 := by rw [← hW0]; exact (Fr.refl w).alloc _
  have b0 : Bp W0 w.heap.size no kind owner s := by rw [← hW0]; exact Bp.new _ _ _ _ _
  obtain ⟨g, hg⟩ : ∃ g, w.heap.size = g := ⟨_, rfl⟩
  rw [hg] at b0
  have q0 := b0.c0
  have q1 := b0.c1
  have q2 := b0.c2
  have q3 := b0.c3
  go_enter Tryd.func3, Tryd.ntmps3
  go_wp2_with fail
  refine (c1 _).mono ?_
  rintro _ w1 ⟨rfl, f1⟩
  have F1 : Fr w w1 := f0.trans f1
  have b1 := b0.fr f1
  clear f0 f1 b0 hW0 c1 q0 q1 q2 q3
  go_wp2_with fail
  refine (c2 _).mono ?_
  rintro _ w2 ⟨rfl, f2⟩
  obtain ⟨W3, hW3⟩ : ∃ W3, w2.alloc (.cells #[.int .i64 a1, .int .i64 a2, .int .i64 a3, .string a4] 23) = W3 := ⟨_, rfl⟩
  have f3 : Fr w2 W3 := by rw [← hW3]; exact (Fr.refl w2).alloc _
  have k3 : Bp W3 w2.heap.size a1 a2 a3 a4 := by rw [← hW3]; exact Bp.new _ _ _ _ _
  obtain ⟨h, hh⟩ : ∃ h, w2.heap.size = h := ⟨_, rfl⟩
  rw [hh] at k3
  have F3 : Fr w W3 := F1.trans (f2.trans f3)
  have b3 := (b1.fr f2).fr f3
  clear f2 f3 b1 F1 c2
  have q0 := b3.c0
  have q1 := b3.c1
  have q2 := b3.c2
  have q3 := b3.c3
  go_wp2_with fail
  refine (c3 _).mono ?_
  rintro _ w4 ⟨rfl, f4⟩
  have F4 : Fr w w4 := F3.trans f4
  have b4 := b3.fr f4
  have k4 := k3.fr f4
  clear f4 b3 k3 F3 c3 q0 q1 q2 q3 hW3
  have q0 := b4.c0
  have q1 := b4.c1
  have q2 := b4.c2
  have q3 := b4.c3
  by_cases hc : c = 0
  · subst hc
    have c4' := c4 rfl
    clear c4 h0
    go_wp2_with fail
    refine (c4' _).mono ?_
    rintro _ w5 ⟨rfl, f5⟩
    have F5 : Fr w w5 := F4.trans f5
    have b5 := b4.fr f5
    have k5 := k4.fr f5
    clear f5 b4 k4 F4 c4' q0 q1 q2 q3
    go_wp2_with fail
    refine (c5 _).mono ?_
    rintro _ w6 ⟨rfl, f6⟩
    obtain ⟨W7, hW7⟩ : ∃ W7, w6.alloc (.cells #[.int .i64 a1, .int .i64 a2, .int .i64 a3, .string a4] 23) = W7 := ⟨_, rfl⟩
    have f7 : Fr w6 W7 := by rw [← hW7]; exact (Fr.refl w6).alloc _
    have j7 : Bp W7 w6.heap.size a1 a2 a3 a4 := by rw [← hW7]; exact Bp.new _ _ _ _ _
    obtain ⟨m, hm⟩ : ∃ m, w6.heap.size = m := ⟨_, rfl⟩
    rw [hm] at j7
    have F7 : Fr w W7 := F5.trans (f6.trans f7)
    have b7 := (b5.fr f6).fr f7
    have k7 := (k5.fr f6).fr f7
    clear f6 f7 b5 k5 F5 c5
    go_wp2_with fail
    refine (begun_any _).mono ?_
    rintro _ w8 ⟨rfl, f8⟩
    have F8 : Fr w w8 := F7.trans f8
    have b8 := b7.fr f8
    have k8 := k7.fr f8
    have j8 := j7.fr f8
    clear f8 b7 k7 j7 F7 hW7
    have q0 := b8.c0
    have q1 := b8.c1
    have q2 := b8.c2
    have q3 := b8.c3
    go_wp2_with fail
    refine (c6 _).mono ?_
    rintro _ w9 ⟨rfl, f9⟩
    have F9 : Hid (Fr w w9) := F8.trans f9
    have k9 := k8.fr f9
    have j9 := j8.fr f9
    clear f9 b8 k8 j8 F8 c6 q0 q1 q2 q3
    have q0 := k9.c0
    have q1 := k9.c1
    have q2 := k9.c2
    have q3 := k9.c3
    have r0 := j9.c0
    have r1 := j9.c1
    have r2 := j9.c2
    have r3 := j9.c3
    clear k9 j9
    go_wp2_with fail
    go_ret
    exact ⟨rfl, F9.out⟩
  · have n1 : ((c : Int) == 0) = false := by simp; omega
    have n2 : ¬ ((c : Int) = 0) := by omega
    obtain rfl := h0 hc
    obtain ⟨w5, hw5⟩ : ∃ w5, w5 = w4 := ⟨_, rfl⟩
    rw [← hw5] at F4 b4 k4 q0 q1 q2 q3 ⊢
    have F5 := F4
    have b5 := b4
    have k5 := k4
    clear c4 h0 hc q0 q1 q2 q3 F4 b4 k4 hw5
    go_wp2_with fail
    refine (c5 _).mono ?_
    rintro _ w6 ⟨rfl, f6⟩
    obtain ⟨W7, hW7⟩ : ∃ W7, w6.alloc (.cells #[.int .i64 a1, .int .i64 a2, .int .i64 a3, .string a4] 23) = W7 := ⟨_, rfl⟩
    have f7 : Fr w6 W7 := by rw [← hW7]; exact (Fr.refl w6).alloc _
    have j7 : Bp W7 w6.heap.size a1 a2 a3 a4 := by rw [← hW7]; exact Bp.new _ _ _ _ _
    obtain ⟨m, hm⟩ : ∃ m, w6.heap.size = m := ⟨_, rfl⟩
    rw [hm] at j7
    have F7 : Fr w W7 := F5.trans (f6.trans f7)
    have b7 := (b5.fr f6).fr f7
    have k7 := (k5.fr f6).fr f7
    clear f6 f7 b5 k5 F5 c5
    go_wp2_with fail
    refine (begun_any _).mono ?_
    rintro _ w8 ⟨rfl, f8⟩
    have F8 : Fr w w8 := F7.trans f8
    have b8 := b7.fr f8
    have k8 := k7.fr f8
    have j8 := j7.fr f8
    clear f8 b7 k7 j7 F7 hW7
    have q0 := b8.c0
    have q1 := b8.c1
    have q2 := b8.c2
    have q3 := b8.c3
    go_wp2_with fail
    refine (c6 _).mono ?_
    rintro _ w9 ⟨rfl, f9⟩
    have F9 : Hid (Fr w w9) := F8.trans f9
    have k9 := k8.fr f9
    have j9 := j8.fr f9
    clear f9 b8 k8 j8 F8 c6 q0 q1 q2 q3
    have q0 := k9.c0
    have q1 := k9.c1
    have q2 := k9.c2
    have q3 := k9.c3
    have r0 := j9.c0
    have r1 := j9.c1
    have r2 := j9.c2
    have r3 := j9.c3
    clear k9 j9
    go_wp2_with fail
    go_ret
    exact ⟨rfl, F9.out⟩

theorem walk (p : PG.Pg) (n : Int) (t : ByteArray) (w : World) (hT : Tb w) (hp : p.body.length ≤ maxLen) (hn : -9223372036854775808 ≤ n ∧ n ≤ 9223372036854775807) (ht : t.size ≤ 140737488351232) : Calls Tryd.prog 3 #[pgV p, .int .i64 n, .string t] w fun e w' => e = .returned (.bool true) ∧ Fr w w' := by
  have c2 := fun W => open_any n t W
  have c5 := fun W => pageOf_any n t W
  unfold opV pgV at c2 c5
  generalize PG.opn n t.data.toList = r at *
  by_cases h : PG.chk p = 0
  · refine core p.no p.kind p.owner n ⟨p.body.toArray⟩ t ⟨(PG.sld p).toArray⟩ 0 r.2 r.1.no r.1.kind r.1.owner ⟨r.1.body.toArray⟩ w (fun c => absurd rfl c) (fun W => ?_) c2 (fun W => ?_) (fun _ W => pageBytes_any p W h) c5 (fun W => ?_)
    · have := seal_any p W
      rw [slV_ok h] at this
      exact this
    · have := rcheck_any p W
      rw [h] at this
      exact this
    · have := check_any p W
      rw [h] at this
      exact this
  · refine core p.no p.kind p.owner n ⟨p.body.toArray⟩ t ⟨#[]⟩ (PG.chk p) r.2 r.1.no r.1.kind r.1.owner ⟨r.1.body.toArray⟩ w (fun _ => rfl) (fun W => ?_) c2 (fun W => rcheck_any p W) (fun c => absurd c h) c5 (fun W => check_any p W)
    have := seal_any p W
    rw [slV_bad h] at this
    exact this

set_option maxRecDepth 100000 in
theorem lifted (os : Os) (started : os.Started) (H : Type) (enc : TypeId × Value → H) :
    ReturnsInHanded {} Tryd.checked os 3 .any (fun w args => (Rows.pageTellsSpec.pre enc Tryd.prog Tryd.f3 [] false w args ∧ laidMetH Tryd.prog Rows.pageTellsRow.laid w) ∧ sizedMet enc Tryd.prog Tryd.f3 (OpenSpec.ofChange Rows.pageTellsSpec) false w args)
      (Rows.pageTellsSpec.post enc Tryd.prog Tryd.f3 false true false false) := by
  refine returnsInHanded_of_change_and (C := Tryd.checked) (X := fun w _ => laidMetH Tryd.prog Rows.pageTellsRow.laid w) (fun _ _ _ hh h => h.of_heap hh) own started (by kernel_rfl) Tryd.func3
    (ChangeSpec.witness_shaped (enc := enc) (C := Tryd.checked) (os := os) (X := fun w _ => laidMetH Tryd.prog Rows.pageTellsRow.laid w) false (World.laidAll Tryd.prog os Rows.pageTellsRow.laid) #[.agg #[.int .i64 0, .int .i64 0, .int .i64 0, .string ByteArray.empty], .int .i64 0, .string ByteArray.empty] 8 (World.laidAll_os _ _ _)
      (World.shaped_of_ZipB (by kernel_rfl) (by kernel_rfl)) (by kernel_rfl) (by kernel_rfl) (by kernel_rfl)
      (by rw [MakeChecks.laidMetH_plain _ _ _ (by kernel_rfl)]; exact laidMet_laidAll _ (by kernel_rfl) (by kernel_rfl))) ?_
  intro W base args ds gs before hval0 hW hcnd hsz0 hL _
  have hT : Tb W := tabs_of_laid hL
  have hval : ∀ (j : Nat) t v, Tryd.f3.params[j]? = some t → args[j]? = some v → Value.okWide Tryd.prog W .any base t v := hval0
  have hsz : (DataW.weightsEach Tryd.prog (Tryd.f3.params.toList ++ Rows.pageTellsSpec.plain.varTypes Tryd.prog) (ds ++ gs)).all (· ≤ reachBytes) = true := hsz0
  have hW' := hW
  obtain ⟨p, q, hA0, hV, rfl, hfz, hnd⟩ := hW
  have hA : DataW.TrodAll enc Tryd.prog W 0 (fun _ => true) true Tryd.f3.params.toList args.toList ds p := hA0
  rw [Tryd.params3] at hA hval hsz
  obtain ⟨v0, vs0, d0, ds0, p0, q0, hargs, rfl, rfl, h0, r0⟩ := trodAll_cons hA
  obtain ⟨v1, vs1, d1, ds1, p1, q1, rfl, rfl, rfl, h1, r1⟩ := trodAll_cons r0
  obtain ⟨v2, vs2, d2, ds2, p2, q2, rfl, rfl, rfl, h2, r2⟩ := trodAll_cons r1
  obtain ⟨rfl, rfl, rfl⟩ := trodAll_nil r2
  obtain rfl : args = #[v0, v1, v2] := by cases args; simp_all
  obtain ⟨rfl, rfl⟩ := trodVars_none hV
  obtain ⟨a0, rfl, wd0⟩ := open_page (hval 0 23 v0 rfl rfl) h0
  obtain ⟨a1, rfl, rfl, rfl, w1⟩ := open_int Tryd.underlying3 (hval 1 3 v1 rfl rfl) h1
  obtain ⟨a2, rfl, rfl, rfl, w2⟩ := open_string Tryd.underlying9 (hval 2 9 v2 rfl rfl) h2
  have b2 : a2.size ≤ 140737488351232 := by
    have h := sized_string hsz (j := 2) (t := 9) rfl rfl
    simpa [reachBytes] using h
  clear hA0 hval0 hsz0
  refine (walk a0 a1 a2 W hT wd0 (wf_i64 w1) b2).mono fun e W' ⟨he, bel⟩ => ?_
  subst he
  exact ⟨_, rfl, _, _, _, [], _, [], hW', trodAll_mk1 (shut_bool Tryd.underlying4 _), (trodAll_cons_mk (shut_page h0 bel) (trodAll_cons_mk (shut_int Tryd.underlying3 w1) (trodAll_cons_mk (shut_string Tryd.underlying9 w2) trodAll_mk0))), rfl, Below.frame bel _, fun h => by cases h⟩

theorem over : Rows.pageTellsRow.holds Tryd.pinned (OpenSpec.ofChange Rows.pageTellsSpec) :=
  OpenClaim.holds_of_wide 3 Tryd.f3 rfl rfl rfl rfl rfl rfl rfl ⟨rfl, rfl, rfl, rfl, rfl⟩ rfl rfl rfl rfl rfl (by kernel_rfl) Tryd.func3 (by kernel_rfl)
    (of_decide_eq_true (by kernel_rfl)) (by unfold Func.isWrapper; first | (rw [if_pos (by decide +kernel)]; kernel_rfl) | (rw [if_neg (by decide +kernel)]; exact ⟨rfl, rfl⟩))
    (fun os started H enc _ => lifted os started H enc)

theorem card : Rows.PageTellsCardSaid :=
  Claim7.holds_tied_plain_at .later [] [.data, .pinned] true (true, "59045a2a302e576d36634984a5a2261e4b9b5f3ca25b2db331640d2961848aad") false
    over (fun _ h => by cases h) (by kernel_rfl) (fun _ h => by cases h) pageTells_row_tie rfl ⟨rfl, rfl⟩ (by kernel_rfl) rfl
    (fun f fn hf hfn => by
      obtain rfl : f = 3 := Option.some.inj ((show Tryd.prog.funcNamed "starling/starlinglaw.PageTells" = some 3 by kernel_rfl).symm.trans hf) |>.symm
      obtain rfl : fn = Tryd.f3 := (Option.some.inj (Tryd.func3.symm.trans hfn)).symm
      exact ⟨by kernel_rfl, fun j t ht => by
        rw [Tryd.params3] at ht
        have hm : t ∈ [23, 3, 9] := by simpa using Array.mem_of_getElem? ht
        have hall : ([23, 3, 9].all fun u => !Tryd.prog.wantsStandIn u) = true := by kernel_rfl
        exact (show Tryd.prog.wantsStandIn t = false by simpa using List.all_eq_true.1 hall t hm)⟩)
    (by kernel_rfl)

end Go.Proofs.YtfjdialbjbomdaaDoor.pageTellsProof
namespace Go.Proofs.YtfjdialbjbomdaaDoor
theorem pageTells_holds : Rows.PageTellsCardSaid := pageTellsProof.card
#print axioms pageTells_holds
end Go.Proofs.YtfjdialbjbomdaaDoor
