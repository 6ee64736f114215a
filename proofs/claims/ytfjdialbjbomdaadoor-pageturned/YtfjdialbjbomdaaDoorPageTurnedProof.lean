/-
  Proved: for every page, place and mask PageTurned answers true: a page of which bits were turned, within 32 in a row, its sum among them, is not opened. No condition but the form's own reach.
-/
import Derived.Test.YtfjdialbjbomdaaDoorTabs
import Derived.Test.YtfjdialbjbomdaaDoorTurned
namespace Go.Proofs.YtfjdialbjbomdaaDoor.pageTurnedProof
open Go.ChangeShapes Go.WideShapes Go.ChangeAt Go.RowKit
open Go.ChangeMaps (open_string shut_string)
set_option linter.unusedVariables false
set_option linter.unusedSimpArgs false
set_option maxRecDepth 100000

set_option maxHeartbeats 4000000 in
theorem core (no kind owner k m : Int) (s S T : ByteArray) (c : Nat) (p : PG.Pg) (w : World)
    (c1 : ∀ W, Calls Tryd.prog 9 #[.agg #[.int .i64 no, .int .i64 kind, .int .i64 owner, .string s]] W fun e w' => e = .returned (.tuple #[.string S, .int .i64 (c : Int)]) ∧ Fr W w')
    (c2 : c = 0 → ∀ W, Calls Tryd.prog 16 #[.string S, .int .i64 k, .int .u32 m] W fun e w' => e = .returned (.string T) ∧ Fr W w')
    (c3 : c = 0 → T = S → ∀ W, Calls Tryd.prog 10 #[.int .i64 no, .string S] W fun e w' => e = .returned (.tuple #[.agg #[.int .i64 no, .int .i64 kind, .int .i64 owner, .string s], .int .i64 0]) ∧ Fr W w')
    (c4 : c = 0 → T ≠ S → ∀ W, Calls Tryd.prog 10 #[.int .i64 no, .string T] W fun e w' => e = .returned (.tuple #[.agg #[.int .i64 0, .int .i64 0, .int .i64 0, .string ⟨#[]⟩], .int .i64 11]) ∧ Fr W w') :
    Calls Tryd.prog 7 #[.agg #[.int .i64 no, .int .i64 kind, .int .i64 owner, .string s], .int .i64 k, .int .u32 m] w fun e w' => e = .returned (.bool true) ∧ Fr w w' := by
  obtain ⟨W0, hW0⟩ : ∃ W0, w.alloc (.cells #[.int .i64 no, .int .i64 kind, .int .i64 owner, .string s] 23) = W0 := ⟨_, rfl⟩
  have f0 : Fr w W0 := by rw [← hW0]; exact (Fr.refl w).alloc _
  have b0 : Bp W0 w.heap.size no kind owner s := by rw [← hW0]; exact Bp.new _ _ _ _ _
  obtain ⟨g, hg⟩ : ∃ g, w.heap.size = g := ⟨_, rfl⟩
  rw [hg] at b0
  have q0 := b0.c0
  have q1 := b0.c1
  have q2 := b0.c2
  have q3 := b0.c3
  go_enter Tryd.func7, Tryd.ntmps7
  go_wp2_with fail
  refine (c1 _).mono ?_
  rintro _ w1 ⟨rfl, f1⟩
  have F1 : Fr w w1 := f0.trans f1
  have b1 := b0.fr f1
  clear f0 f1 b0 hW0 c1 q0 q1 q2 q3
  go_wp2_with fail
  refine (begun_any _).mono ?_
  rintro _ w2 ⟨rfl, f2⟩
  have F2 : Fr w w2 := F1.trans f2
  have b2 := b1.fr f2
  clear f2 b1 F1
  by_cases hc : c = 0
  · subst hc
    have c2' := c2 rfl
    have c3' := c3 rfl
    have c4' := c4 rfl
    clear c2 c3 c4
    go_wp2_with fail
    refine (c2' _).mono ?_
    rintro _ w3 ⟨rfl, f3⟩
    have F3 : Fr w w3 := F2.trans f3
    have b3 := b2.fr f3
    clear f3 b2 F2 c2'
    have q0 := b3.c0
    by_cases hT : T = S
    · subst hT
      have c5 := c3' rfl
      clear c3' c4'
      go_wp2_with fail
      refine (c5 _).mono ?_
      rintro _ w4 ⟨rfl, f4⟩
      have F4 : Hid (Fr w w4) := F3.trans f4
      clear f4 b3 F3 q0 c5
      go_wp2_with fail
      go_ret
      exact ⟨rfl, F4.out.alloc _⟩
    · have c5 := c4' hT
      have hne : ¬ S.toList = T.toList := fun q => hT (by
        rw [ByteArray.toList_eq, ByteArray.toList_eq] at q
        rw [← dl_eq T, ← q, dl_eq])
      have n1 : (S.toList == T.toList) = false := by simpa using hne
      clear c3' c4' hT
      go_wp2_with fail
      refine (c5 _).mono ?_
      rintro _ w4 ⟨rfl, f4⟩
      have F4 : Hid (Fr w w4) := F3.trans f4
      clear f4 b3 F3 q0 c5
      go_wp2_with fail
      go_ret
      exact ⟨rfl, F4.out.alloc _⟩
  · have n1 : ((c : Int) != 0) = true := by simp; omega
    have n2 : ¬ ((c : Int) = 0) := by omega
    clear c2 c3 c4 hc
    go_wp2_with fail
    go_ret
    exact ⟨rfl, F2⟩

theorem walk (p : PG.Pg) (k m : Int) (w : World) (hT : Tb w) (hp : p.body.length ≤ maxLen) (hk : -9223372036854775808 ≤ k ∧ k ≤ 9223372036854775807) (hm : 0 ≤ m ∧ m ≤ 4294967295) : Calls Tryd.prog 7 #[pgV p, .int .i64 k, .int .u32 m] w fun e w' => e = .returned (.bool true) ∧ Fr w w' := by
  by_cases h : PG.chk p = 0
  · have hl := PG.seal_len h
    have hsz : (⟨(PG.sld p).toArray⟩ : ByteArray).size = 256 := by rw [mk_size]; exact hl
    have c1 : ∀ W, Calls Tryd.prog 9 #[pgV p] W fun e w' => e = .returned (.tuple #[.string ⟨(PG.sld p).toArray⟩, .int .i64 ((0 : Nat) : Int)]) ∧ Fr W w' := fun W => by
      have := seal_any p W
      rw [slV_ok h] at this
      exact this
    have c3 : ∀ W, Calls Tryd.prog 10 #[.int .i64 p.no, .string ⟨(PG.sld p).toArray⟩] W fun e w' => e = .returned (.tuple #[pgV p, .int .i64 0]) ∧ Fr W w' := fun W => by
      have := open_any p.no ⟨(PG.sld p).toArray⟩ W
      rw [dl_mk, PG.open_seal h] at this
      exact this
    by_cases hin : 0 ≤ k ∧ k < 2048
    · obtain ⟨K, rfl⟩ := Int.eq_ofNat_of_zero_le hin.1
      obtain ⟨M, rfl⟩ := Int.eq_ofNat_of_zero_le hm.1
      have hK : K < 2048 := by omega
      refine core p.no p.kind p.owner (K : Int) (M : Int) ⟨p.body.toArray⟩ ⟨(PG.sld p).toArray⟩ ⟨(SM.turned (PG.sld p) K M 32).toArray⟩ 0 p w c1 (fun _ W => ?_) (fun _ _ => c3) (fun _ hne W => ?_)
      · exact turned_in ⟨(PG.sld p).toArray⟩ K M W (by omega) (by omega) (by omega)
      · have := open_any p.no ⟨(SM.turned (PG.sld p) K M 32).toArray⟩ W
        rw [dl_mk, PG.turned h _ (by rw [SM.turned_len]; exact hl) K (by omega) (fun i hi hd => (SM.turned_other (PG.sld p) K M 32 i (by omega) hd).symm) (fun q => hne (by rw [q]))] at this
        exact this
    · refine core p.no p.kind p.owner k m ⟨p.body.toArray⟩ ⟨(PG.sld p).toArray⟩ ⟨(PG.sld p).toArray⟩ 0 p w c1 (fun _ W => ?_) (fun _ _ => c3) (fun _ hne => absurd rfl hne)
      exact turned_out ⟨(PG.sld p).toArray⟩ k m W (by omega) (by omega)
  · refine core p.no p.kind p.owner k m ⟨p.body.toArray⟩ ⟨#[]⟩ ⟨#[]⟩ (PG.chk p) p w (fun W => ?_) (fun c => absurd c h) (fun c => absurd c h) (fun c => absurd c h)
    have := seal_any p W
    rw [slV_bad h] at this
    exact this

set_option maxRecDepth 100000 in
theorem lifted (os : Os) (started : os.Started) (H : Type) (enc : TypeId × Value → H) :
    ReturnsInHanded {} Tryd.checked os 7 .any (fun w args => (Rows.pageTurnedSpec.pre enc Tryd.prog Tryd.f7 [] false w args ∧ laidMetH Tryd.prog Rows.pageTurnedRow.laid w) ∧ sizedMet enc Tryd.prog Tryd.f7 (OpenSpec.ofChange Rows.pageTurnedSpec) false w args)
      (Rows.pageTurnedSpec.post enc Tryd.prog Tryd.f7 false true false false) := by
  refine returnsInHanded_of_change_and (C := Tryd.checked) (X := fun w _ => laidMetH Tryd.prog Rows.pageTurnedRow.laid w) (fun _ _ _ hh h => h.of_heap hh) own started (by kernel_rfl) Tryd.func7
    (ChangeSpec.witness_shaped (enc := enc) (C := Tryd.checked) (os := os) (X := fun w _ => laidMetH Tryd.prog Rows.pageTurnedRow.laid w) false (World.laidAll Tryd.prog os Rows.pageTurnedRow.laid) #[.agg #[.int .i64 0, .int .i64 0, .int .i64 0, .string ByteArray.empty], .int .i64 0, .int .u32 0] 8 (World.laidAll_os _ _ _)
      (World.shaped_of_ZipB (by kernel_rfl) (by kernel_rfl)) (by kernel_rfl) (by kernel_rfl) (by kernel_rfl)
      (by rw [MakeChecks.laidMetH_plain _ _ _ (by kernel_rfl)]; exact laidMet_laidAll _ (by kernel_rfl) (by kernel_rfl))) ?_
  intro W base args ds gs before hval0 hW hcnd hsz0 hL _
  have hT : Tb W := tabs_of_laid hL
  have hval : ∀ (j : Nat) t v, Tryd.f7.params[j]? = some t → args[j]? = some v → Value.okWide Tryd.prog W .any base t v := hval0
  have hsz : (DataW.weightsEach Tryd.prog (Tryd.f7.params.toList ++ Rows.pageTurnedSpec.plain.varTypes Tryd.prog) (ds ++ gs)).all (· ≤ reachBytes) = true := hsz0
  have hW' := hW
  obtain ⟨p, q, hA0, hV, rfl, hfz, hnd⟩ := hW
  have hA : DataW.TrodAll enc Tryd.prog W 0 (fun _ => true) true Tryd.f7.params.toList args.toList ds p := hA0
  rw [Tryd.params7] at hA hval hsz
  obtain ⟨v0, vs0, d0, ds0, p0, q0, hargs, rfl, rfl, h0, r0⟩ := trodAll_cons hA
  obtain ⟨v1, vs1, d1, ds1, p1, q1, rfl, rfl, rfl, h1, r1⟩ := trodAll_cons r0
  obtain ⟨v2, vs2, d2, ds2, p2, q2, rfl, rfl, rfl, h2, r2⟩ := trodAll_cons r1
  obtain ⟨rfl, rfl, rfl⟩ := trodAll_nil r2
  obtain rfl : args = #[v0, v1, v2] := by cases args; simp_all
  obtain ⟨rfl, rfl⟩ := trodVars_none hV
  obtain ⟨a0, rfl, wd0⟩ := open_page (hval 0 23 v0 rfl rfl) h0
  obtain ⟨a1, rfl, rfl, rfl, w1⟩ := open_int Tryd.underlying3 (hval 1 3 v1 rfl rfl) h1
  obtain ⟨a2, rfl, rfl, rfl, w2⟩ := open_int Tryd.underlying36 (hval 2 36 v2 rfl rfl) h2
  clear hA0 hval0 hsz0
  refine (walk a0 a1 a2 W hT wd0 (wf_i64 w1) (wf_u32 w2)).mono fun e W' ⟨he, bel⟩ => ?_
  subst he
  exact ⟨_, rfl, _, _, _, [], _, [], hW', trodAll_mk1 (shut_bool Tryd.underlying4 _), (trodAll_cons_mk (shut_page h0 bel) (trodAll_cons_mk (shut_int Tryd.underlying3 w1) (trodAll_cons_mk (shut_int Tryd.underlying36 w2) trodAll_mk0))), rfl, Below.frame bel _, fun h => by cases h⟩

theorem over : Rows.pageTurnedRow.holds Tryd.pinned (OpenSpec.ofChange Rows.pageTurnedSpec) :=
  OpenClaim.holds_of_wide 7 Tryd.f7 rfl rfl rfl rfl rfl rfl rfl ⟨rfl, rfl, rfl, rfl, rfl⟩ rfl rfl rfl rfl rfl (by kernel_rfl) Tryd.func7 (by kernel_rfl)
    (of_decide_eq_true (by kernel_rfl)) (by unfold Func.isWrapper; first | (rw [if_pos (by decide +kernel)]; kernel_rfl) | (rw [if_neg (by decide +kernel)]; exact ⟨rfl, rfl⟩))
    (fun os started H enc _ => lifted os started H enc)

theorem card : Rows.PageTurnedCardSaid :=
  Claim7.holds_tied_plain_at .later [] [.data, .pinned] true (true, "59045a2a302e576d36634984a5a2261e4b9b5f3ca25b2db331640d2961848aad") false
    over (fun _ h => by cases h) (by kernel_rfl) (fun _ h => by cases h) pageTurned_row_tie rfl ⟨rfl, rfl⟩ (by kernel_rfl) rfl
    (fun f fn hf hfn => by
      obtain rfl : f = 7 := Option.some.inj ((show Tryd.prog.funcNamed "starling/starlinglaw.PageTurned" = some 7 by kernel_rfl).symm.trans hf) |>.symm
      obtain rfl : fn = Tryd.f7 := (Option.some.inj (Tryd.func7.symm.trans hfn)).symm
      exact ⟨by kernel_rfl, fun j t ht => by
        rw [Tryd.params7] at ht
        have hm : t ∈ [23, 3, 36] := by simpa using Array.mem_of_getElem? ht
        have hall : ([23, 3, 36].all fun u => !Tryd.prog.wantsStandIn u) = true := by kernel_rfl
        exact (show Tryd.prog.wantsStandIn t = false by simpa using List.all_eq_true.1 hall t hm)⟩)
    (by kernel_rfl)

end Go.Proofs.YtfjdialbjbomdaaDoor.pageTurnedProof
namespace Go.Proofs.YtfjdialbjbomdaaDoor
theorem pageTurned_holds : Rows.PageTurnedCardSaid := pageTurnedProof.card
#print axioms pageTurned_holds
end Go.Proofs.YtfjdialbjbomdaaDoor
