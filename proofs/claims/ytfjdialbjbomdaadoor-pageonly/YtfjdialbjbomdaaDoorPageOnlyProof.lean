/-
  Proved: for every place and text PageOnly answers true: what is opened is sealed as it stood, so no page has two texts. No condition but the form's own reach.
-/
import Derived.Test.YtfjdialbjbomdaaDoorTabs
namespace Go.Proofs.YtfjdialbjbomdaaDoor.pageOnlyProof
open Go.ChangeShapes Go.WideShapes Go.ChangeAt Go.RowKit
open Go.ChangeMaps (open_string shut_string)
set_option linter.unusedVariables false
set_option linter.unusedSimpArgs false
set_option maxRecDepth 100000

set_option maxHeartbeats 4000000 in
theorem core (n no kind owner : Int) (s t : ByteArray) (c : Nat) (w : World) (h0 : c ≠ 0 → no = 0 ∧ kind = 0 ∧ owner = 0 ∧ t = ⟨#[]⟩) (h1 : c = 0 → no = n)
    (c1 : ∀ W, Calls Tryd.prog 10 #[.int .i64 n, .string s] W fun e w' => e = .returned (.tuple #[.agg #[.int .i64 no, .int .i64 kind, .int .i64 owner, .string t], .int .i64 (c : Int)]) ∧ Fr W w')
    (c2 : c = 0 → ∀ W, Calls Tryd.prog 9 #[.agg #[.int .i64 no, .int .i64 kind, .int .i64 owner, .string t]] W fun e w' => e = .returned (.tuple #[.string s, .int .i64 0]) ∧ Fr W w') :
    Calls Tryd.prog 5 #[.int .i64 n, .string s] w fun e w' => e = .returned (.bool true) ∧ Fr w w' := by
  go_enter Tryd.func5, Tryd.ntmps5
  go_wp2_with fail
  refine (c1 _).mono ?_
  rintro _ w1 ⟨rfl, f1⟩
  obtain ⟨W2, hW2⟩ : ∃ W2, w1.alloc (.cells #[.int .i64 no, .int .i64 kind, .int .i64 owner, .string t] 23) = W2 := ⟨_, rfl⟩
  have f2 : Fr w1 W2 := by rw [← hW2]; exact (Fr.refl w1).alloc _
  have b2 : Bp W2 w1.heap.size no kind owner t := by rw [← hW2]; exact Bp.new _ _ _ _ _
  obtain ⟨g, hg⟩ : ∃ g, w1.heap.size = g := ⟨_, rfl⟩
  rw [hg] at b2
  have F2 : Fr w W2 := f1.trans f2
  clear f1 f2 c1
  go_wp2_with fail
  refine (begun_any _).mono ?_
  rintro _ w3 ⟨rfl, f3⟩
  have F3 : Fr w w3 := F2.trans f3
  have b3 := b2.fr f3
  clear f3 b2 F2 hW2
  have q0 := b3.c0
  have q1 := b3.c1
  have q2 := b3.c2
  have q3 := b3.c3
  by_cases hc : c = 0
  · subst hc
    have c4 := c2 rfl
    obtain rfl := h1 rfl
    clear c2 h0 h1
    go_wp2_with fail
    refine (c4 _).mono ?_
    rintro _ w4 ⟨rfl, f4⟩
    have F4 : Hid (Fr w w4) := F3.trans f4
    have b4 := b3.fr f4
    clear f4 b3 F3 q0 q1 q2 q3 c4
    have q0 := b4.c0
    clear b4
    go_wp2_with fail
    go_ret
    exact ⟨rfl, F4.out⟩
  · have n1 : ((c : Int) != 0) = true := by simp; omega
    have n2 : ¬ ((c : Int) = 0) := by omega
    obtain ⟨rfl, rfl, rfl, rfl⟩ := h0 hc
    clear c2 h0 hc h1
    go_wp2_with fail
    go_ret
    exact ⟨rfl, F3⟩

theorem walk (n : Int) (s : ByteArray) (w : World) (hT : Tb w) (hn : -9223372036854775808 ≤ n ∧ n ≤ 9223372036854775807) (hs : s.size ≤ 140737488351232) : Calls Tryd.prog 5 #[.int .i64 n, .string s] w fun e w' => e = .returned (.bool true) ∧ Fr w w' := by
  have h1 := @PG.open_only n s.data.toList
  have h2 := @PG.open_fail n s.data.toList
  have c1 := fun W => open_any n s W
  unfold opV pgV at c1
  generalize PG.opn n s.data.toList = r at *
  obtain ⟨p, c⟩ := r
  simp only at h1 h2 c1
  refine core n p.no p.kind p.owner s ⟨p.body.toArray⟩ c w (fun hc => ?_) (fun hc => (h1 hc).2.2) c1 (fun hc W => ?_)
  · rw [h2 hc]
    exact ⟨rfl, rfl, rfl, rfl⟩
  · have := seal_any p W
    rw [slV_ok (h1 hc).1, (h1 hc).2.1, dl_eq] at this
    exact this

set_option maxRecDepth 100000 in
theorem lifted (os : Os) (started : os.Started) (H : Type) (enc : TypeId × Value → H) :
    ReturnsInHanded {} Tryd.checked os 5 .any (fun w args => (Rows.pageOnlySpec.pre enc Tryd.prog Tryd.f5 [] false w args ∧ laidMetH Tryd.prog Rows.pageOnlyRow.laid w) ∧ sizedMet enc Tryd.prog Tryd.f5 (OpenSpec.ofChange Rows.pageOnlySpec) false w args)
      (Rows.pageOnlySpec.post enc Tryd.prog Tryd.f5 false true false false) := by
  refine returnsInHanded_of_change_and (C := Tryd.checked) (X := fun w _ => laidMetH Tryd.prog Rows.pageOnlyRow.laid w) (fun _ _ _ hh h => h.of_heap hh) own started (by kernel_rfl) Tryd.func5
    (ChangeSpec.witness_shaped (enc := enc) (C := Tryd.checked) (os := os) (X := fun w _ => laidMetH Tryd.prog Rows.pageOnlyRow.laid w) false (World.laidAll Tryd.prog os Rows.pageOnlyRow.laid) #[.int .i64 0, .string ByteArray.empty] 8 (World.laidAll_os _ _ _)
      (World.shaped_of_ZipB (by kernel_rfl) (by kernel_rfl)) (by kernel_rfl) (by kernel_rfl) (by kernel_rfl)
      (by rw [MakeChecks.laidMetH_plain _ _ _ (by kernel_rfl)]; exact laidMet_laidAll _ (by kernel_rfl) (by kernel_rfl))) ?_
  intro W base args ds gs before hval0 hW hcnd hsz0 hL _
  have hT : Tb W := tabs_of_laid hL
  have hval : ∀ (j : Nat) t v, Tryd.f5.params[j]? = some t → args[j]? = some v → Value.okWide Tryd.prog W .any base t v := hval0
  have hsz : (DataW.weightsEach Tryd.prog (Tryd.f5.params.toList ++ Rows.pageOnlySpec.plain.varTypes Tryd.prog) (ds ++ gs)).all (· ≤ reachBytes) = true := hsz0
  have hW' := hW
  obtain ⟨p, q, hA0, hV, rfl, hfz, hnd⟩ := hW
  have hA : DataW.TrodAll enc Tryd.prog W 0 (fun _ => true) true Tryd.f5.params.toList args.toList ds p := hA0
  rw [Tryd.params5] at hA hval hsz
  obtain ⟨v0, vs0, d0, ds0, p0, q0, hargs, rfl, rfl, h0, r0⟩ := trodAll_cons hA
  obtain ⟨v1, vs1, d1, ds1, p1, q1, rfl, rfl, rfl, h1, r1⟩ := trodAll_cons r0
  obtain ⟨rfl, rfl, rfl⟩ := trodAll_nil r1
  obtain rfl : args = #[v0, v1] := by cases args; simp_all
  obtain ⟨rfl, rfl⟩ := trodVars_none hV
  obtain ⟨a0, rfl, rfl, rfl, w0⟩ := open_int Tryd.underlying3 (hval 0 3 v0 rfl rfl) h0
  obtain ⟨a1, rfl, rfl, rfl, w1⟩ := open_string Tryd.underlying9 (hval 1 9 v1 rfl rfl) h1
  have b1 : a1.size ≤ 140737488351232 := by
    have h := sized_string hsz (j := 1) (t := 9) rfl rfl
    simpa [reachBytes] using h
  clear hA0 hval0 hsz0
  refine (walk a0 a1 W hT (wf_i64 w0) b1).mono fun e W' ⟨he, bel⟩ => ?_
  subst he
  exact ⟨_, rfl, _, _, _, [], _, [], hW', trodAll_mk1 (shut_bool Tryd.underlying4 _), (trodAll_cons_mk (shut_int Tryd.underlying3 w0) (trodAll_cons_mk (shut_string Tryd.underlying9 w1) trodAll_mk0)), rfl, Below.frame bel _, fun h => by cases h⟩

theorem over : Rows.pageOnlyRow.holds Tryd.pinned (OpenSpec.ofChange Rows.pageOnlySpec) :=
  OpenClaim.holds_of_wide 5 Tryd.f5 rfl rfl rfl rfl rfl rfl rfl ⟨rfl, rfl, rfl, rfl, rfl⟩ rfl rfl rfl rfl rfl (by kernel_rfl) Tryd.func5 (by kernel_rfl)
    (of_decide_eq_true (by kernel_rfl)) (by unfold Func.isWrapper; first | (rw [if_pos (by decide +kernel)]; kernel_rfl) | (rw [if_neg (by decide +kernel)]; exact ⟨rfl, rfl⟩))
    (fun os started H enc _ => lifted os started H enc)

theorem card : Rows.PageOnlyCardSaid :=
  Claim7.holds_tied_plain_at .later [] [.data, .pinned] true (true, "59045a2a302e576d36634984a5a2261e4b9b5f3ca25b2db331640d2961848aad") false
    over (fun _ h => by cases h) (by kernel_rfl) (fun _ h => by cases h) pageOnly_row_tie rfl ⟨rfl, rfl⟩ (by kernel_rfl) rfl
    (fun f fn hf hfn => by
      obtain rfl : f = 5 := Option.some.inj ((show Tryd.prog.funcNamed "starling/starlinglaw.PageOnly" = some 5 by kernel_rfl).symm.trans hf) |>.symm
      obtain rfl : fn = Tryd.f5 := (Option.some.inj (Tryd.func5.symm.trans hfn)).symm
      exact ⟨by kernel_rfl, fun j t ht => by
        rw [Tryd.params5] at ht
        have hm : t ∈ [3, 9] := by simpa using Array.mem_of_getElem? ht
        have hall : ([3, 9].all fun u => !Tryd.prog.wantsStandIn u) = true := by kernel_rfl
        exact (show Tryd.prog.wantsStandIn t = false by simpa using List.all_eq_true.1 hall t hm)⟩)
    (by kernel_rfl)

end Go.Proofs.YtfjdialbjbomdaaDoor.pageOnlyProof
namespace Go.Proofs.YtfjdialbjbomdaaDoor
theorem pageOnly_holds : Rows.PageOnlyCardSaid := pageOnlyProof.card
#print axioms pageOnly_holds
end Go.Proofs.YtfjdialbjbomdaaDoor
