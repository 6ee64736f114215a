/-
  Proved: for every page PageBack answers true: what is sealed is opened as it was, at its place. No condition but the form's own reach.
-/
import Derived.Test.YtfjdialbjbomdaaDoorTabs
namespace Go.Proofs.YtfjdialbjbomdaaDoor.pageBackProof
open Go.ChangeShapes Go.WideShapes Go.ChangeAt Go.RowKit
open Go.ChangeMaps (open_string shut_string)
set_option linter.unusedVariables false
set_option linter.unusedSimpArgs false
set_option maxRecDepth 100000

set_option maxHeartbeats 4000000 in
theorem core (no kind owner : Int) (s S : ByteArray) (c : Nat) (w : World) (h0 : c ≠ 0 → S = ⟨#[]⟩)
    (c1 : ∀ W, Calls Tryd.prog 9 #[.agg #[.int .i64 no, .int .i64 kind, .int .i64 owner, .string s]] W fun e w' => e = .returned (.tuple #[.string S, .int .i64 (c : Int)]) ∧ Fr W w')
    (c2 : ∀ W, Calls Tryd.prog 15 #[.agg #[.int .i64 no, .int .i64 kind, .int .i64 owner, .string s]] W fun e w' => e = .returned (.int .i64 (c : Int)) ∧ Fr W w')
    (c3 : c = 0 → ∀ W, Calls Tryd.prog 10 #[.int .i64 no, .string S] W fun e w' => e = .returned (.tuple #[.agg #[.int .i64 no, .int .i64 kind, .int .i64 owner, .string s], .int .i64 0]) ∧ Fr W w') :
    Calls Tryd.prog 4 #[.agg #[.int .i64 no, .int .i64 kind, .int .i64 owner, .string s]] w fun e w' => e = .returned (.bool true) ∧ Fr w w' := by
  obtain ⟨W0, hW0⟩ : ∃ W0, w.alloc (.cells #[.int .i64 no, .int .i64 kind, .int .i64 owner, .string s] 23) = W0 := ⟨_, rfl⟩
  have f0 : Fr w W0 := by rw [← hW0]; exact (Fr.refl w).alloc _
  have b0 : Bp W0 w.heap.size no kind owner s := by rw [← hW0]; exact Bp.new _ _ _ _ _
  obtain ⟨g, hg⟩ : ∃ g, w.heap.size = g := ⟨_, rfl⟩
  rw [hg] at b0
  have q0 := b0.c0
  have q1 := b0.c1
  have q2 := b0.c2
  have q3 := b0.c3
  go_enter Tryd.func4, Tryd.ntmps4
  go_wp2_with fail
  refine (c1 _).mono ?_
  rintro _ w1 ⟨rfl, f1⟩
  have F1 : Fr w w1 := f0.trans f1
  have b1 := b0.fr f1
  clear f0 f1 b0 hW0 c1 q0 q1 q2 q3
  go_wp2_with fail
  refine (begun_any _).mono ?_
  rintro _ w2 ⟨rfl, f2⟩
  have F2 : Fr w w2 := F1.trans f2
  have b2 := b1.fr f2
  clear f2 b1 F1
  have q0 := b2.c0
  have q1 := b2.c1
  have q2 := b2.c2
  have q3 := b2.c3
  go_wp2_with fail
  refine (c2 _).mono ?_
  rintro _ w3 ⟨rfl, f3⟩
  have F3 : Fr w w3 := F2.trans f3
  have b3 := b2.fr f3
  clear f3 b2 F2 q0 q1 q2 q3 c2
  have q0 := b3.c0
  by_cases hc : c = 0
  · subst hc
    have c4 := c3 rfl
    clear c3 h0
    go_wp2_with fail
    refine (c4 _).mono ?_
    rintro _ w4 ⟨rfl, f4⟩
    have F4 : Hid (Fr w w4) := F3.trans f4
    have b4 := (b3.fr f4).fr ((Fr.refl _).alloc (.cells #[.int .i64 no, .int .i64 kind, .int .i64 owner, .string s] 23))
    clear f4 b3 F3 q0 c4
    have q0 := b4.c0
    have q1 := b4.c1
    have q2 := b4.c2
    have q3 := b4.c3
    clear b4
    go_wp2_with fail
    go_ret
    exact ⟨rfl, F4.out.alloc _⟩
  · have n1 : ((c : Int) != 0) = true := by simp; omega
    have n2 : ¬ ((c : Int) = 0) := by omega
    obtain rfl := h0 hc
    clear c3 h0 hc
    go_wp2_with fail
    go_ret
    exact ⟨rfl, F3⟩

theorem walk (p : PG.Pg) (w : World) (hT : Tb w) (hp : p.body.length ≤ maxLen) : Calls Tryd.prog 4 #[pgV p] w fun e w' => e = .returned (.bool true) ∧ Fr w w' := by
  by_cases h : PG.chk p = 0
  · refine core p.no p.kind p.owner ⟨p.body.toArray⟩ ⟨(PG.sld p).toArray⟩ 0 w (fun c => absurd rfl c) (fun W => ?_) (fun W => ?_) (fun _ W => ?_)
    · have := seal_any p W
      rw [slV_ok h] at this
      exact this
    · have := check_any p W
      rw [h] at this
      exact this
    · have := open_any p.no ⟨(PG.sld p).toArray⟩ W
      rw [dl_mk, PG.open_seal h] at this
      exact this
  · refine core p.no p.kind p.owner ⟨p.body.toArray⟩ ⟨#[]⟩ (PG.chk p) w (fun _ => rfl) (fun W => ?_) (fun W => check_any p W) (fun c => absurd c h)
    have := seal_any p W
    rw [slV_bad h] at this
    exact this

set_option maxRecDepth 100000 in
theorem lifted (os : Os) (started : os.Started) (H : Type) (enc : TypeId × Value → H) :
    ReturnsInHanded {} Tryd.checked os 4 .any (fun w args => (Rows.pageBackSpec.pre enc Tryd.prog Tryd.f4 [] false w args ∧ laidMetH Tryd.prog Rows.pageBackRow.laid w) ∧ sizedMet enc Tryd.prog Tryd.f4 (OpenSpec.ofChange Rows.pageBackSpec) false w args)
      (Rows.pageBackSpec.post enc Tryd.prog Tryd.f4 false true false false) := by
  refine returnsInHanded_of_change_and (C := Tryd.checked) (X := fun w _ => laidMetH Tryd.prog Rows.pageBackRow.laid w) (fun _ _ _ hh h => h.of_heap hh) own started (by kernel_rfl) Tryd.func4
    (ChangeSpec.witness_shaped (enc := enc) (C := Tryd.checked) (os := os) (X := fun w _ => laidMetH Tryd.prog Rows.pageBackRow.laid w) false (World.laidAll Tryd.prog os Rows.pageBackRow.laid) #[.agg #[.int .i64 0, .int .i64 0, .int .i64 0, .string ByteArray.empty]] 8 (World.laidAll_os _ _ _)
      (World.shaped_of_ZipB (by kernel_rfl) (by kernel_rfl)) (by kernel_rfl) (by kernel_rfl) (by kernel_rfl)
      (by rw [MakeChecks.laidMetH_plain _ _ _ (by kernel_rfl)]; exact laidMet_laidAll _ (by kernel_rfl) (by kernel_rfl))) ?_
  intro W base args ds gs before hval0 hW hcnd hsz0 hL _
  have hT : Tb W := tabs_of_laid hL
  have hval : ∀ (j : Nat) t v, Tryd.f4.params[j]? = some t → args[j]? = some v → Value.okWide Tryd.prog W .any base t v := hval0
  have hsz : (DataW.weightsEach Tryd.prog (Tryd.f4.params.toList ++ Rows.pageBackSpec.plain.varTypes Tryd.prog) (ds ++ gs)).all (· ≤ reachBytes) = true := hsz0
  have hW' := hW
  obtain ⟨p, q, hA0, hV, rfl, hfz, hnd⟩ := hW
  have hA : DataW.TrodAll enc Tryd.prog W 0 (fun _ => true) true Tryd.f4.params.toList args.toList ds p := hA0
  rw [Tryd.params4] at hA hval hsz
  obtain ⟨v0, vs0, d0, ds0, p0, q0, hargs, rfl, rfl, h0, r0⟩ := trodAll_cons hA
  obtain ⟨rfl, rfl, rfl⟩ := trodAll_nil r0
  obtain rfl : args = #[v0] := by cases args; simp_all
  obtain ⟨rfl, rfl⟩ := trodVars_none hV
  obtain ⟨a0, rfl, wd0⟩ := open_page (hval 0 23 v0 rfl rfl) h0
  clear hA0 hval0 hsz0
  refine (walk a0 W hT wd0).mono fun e W' ⟨he, bel⟩ => ?_
  subst he
  exact ⟨_, rfl, _, _, _, [], _, [], hW', trodAll_mk1 (shut_bool Tryd.underlying4 _), (trodAll_cons_mk (shut_page h0 bel) trodAll_mk0), rfl, Below.frame bel _, fun h => by cases h⟩

theorem over : Rows.pageBackRow.holds Tryd.pinned (OpenSpec.ofChange Rows.pageBackSpec) :=
  OpenClaim.holds_of_wide 4 Tryd.f4 rfl rfl rfl rfl rfl rfl rfl ⟨rfl, rfl, rfl, rfl, rfl⟩ rfl rfl rfl rfl rfl (by kernel_rfl) Tryd.func4 (by kernel_rfl)
    (of_decide_eq_true (by kernel_rfl)) (by unfold Func.isWrapper; first | (rw [if_pos (by decide +kernel)]; kernel_rfl) | (rw [if_neg (by decide +kernel)]; exact ⟨rfl, rfl⟩))
    (fun os started H enc _ => lifted os started H enc)

theorem card : Rows.PageBackCardSaid :=
  Claim7.holds_tied_plain_at .later [] [.data, .pinned] true (true, "59045a2a302e576d36634984a5a2261e4b9b5f3ca25b2db331640d2961848aad") false
    over (fun _ h => by cases h) (by kernel_rfl) (fun _ h => by cases h) pageBack_row_tie rfl ⟨rfl, rfl⟩ (by kernel_rfl) rfl
    (fun f fn hf hfn => by
      obtain rfl : f = 4 := Option.some.inj ((show Tryd.prog.funcNamed "starling/starlinglaw.PageBack" = some 4 by kernel_rfl).symm.trans hf) |>.symm
      obtain rfl : fn = Tryd.f4 := (Option.some.inj (Tryd.func4.symm.trans hfn)).symm
      exact ⟨by kernel_rfl, fun j t ht => by
        rw [Tryd.params4] at ht
        have hm : t ∈ [23] := by simpa using Array.mem_of_getElem? ht
        have hall : ([23].all fun u => !Tryd.prog.wantsStandIn u) = true := by kernel_rfl
        exact (show Tryd.prog.wantsStandIn t = false by simpa using List.all_eq_true.1 hall t hm)⟩)
    (by kernel_rfl)

end Go.Proofs.YtfjdialbjbomdaaDoor.pageBackProof
namespace Go.Proofs.YtfjdialbjbomdaaDoor
theorem pageBack_holds : Rows.PageBackCardSaid := pageBackProof.card
#print axioms pageBack_holds
end Go.Proofs.YtfjdialbjbomdaaDoor
