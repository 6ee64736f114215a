/-
  Proved: for every list SortTells answers true: Sort answers just what the document says, errors too. No condition but the form's own reach.
-/
import Derived.Test.YtjadmefiilkgmaaGreatDoorSrtE
import Derived.Test.YtjadmefiilkgmaaGreatDoorSrtOf
namespace Go.Proofs.YtjadmefiilkgmaaGreatDoor.sortTellsProof
open Go.ChangeShapes Go.WideShapes Go.ChangeAt Go.RowKit
set_option linter.unusedVariables false
set_option linter.unusedSimpArgs false
set_option maxRecDepth 100000

theorem Tryz.bytesVal : Tryz.prog.bytesOf 23 = 32 := by kernel_rfl
theorem open_nilrow {H : Type} {enc : TypeId × Value → H} {W : World} {base : Nat} {r : Reach} {v : Value} {d : DataW H} {p : List MemPlace} (hval : Value.okWide Tryz.prog W r base 28 v)
    (h : DataW.Trod enc Tryz.prog W 0 (fun _ => true) true 28 v d p) : NilOrRow v := by
  obtain ⟨a0, len0, cap0, rfl⟩ := okWide_slice Tryz.underlying28 hval
  obtain ⟨fuel, hf⟩ := h
  rcases Deep.open_slice Tryz.underlying28 hf with ⟨hcs, hx⟩ | ⟨a, len, cap, m, n, D, Pl, hcs, _⟩
  · simp only [Value.cells] at hcs
    simp at hcs
    obtain ⟨rfl, rfl, rfl⟩ := hcs
    exact Or.inl rfl
  · simp only [Value.cells] at hcs
    simp at hcs
    obtain ⟨rfl, rfl, rfl⟩ := hcs
    exact Or.inr ⟨a, _, _, rfl⟩

def Ways (w : World) (v : Value) (n e c : Nat) (m : List VM.Vl) : Prop :=
  ((40 : Int) < (n : Int) ∧ e = 2 ∧ m = []) ∨ ((n : Int) ≤ 40 ∧ e = c ∧ c ≠ 0 ∧ m = []) ∨
  ((n : Int) ≤ 40 ∧ e = 0 ∧ c = 0 ∧ ∀ W, Fr w W → Calls Tryz.prog 23 #[v] W fun r w' => ∃ v', r = .returned v' ∧ Fr W w' ∧ IsRow w' v' m)
set_option maxHeartbeats 4000000 in
theorem core (a : Option Addr) (n cap : Nat) (m : List VM.Vl) (c e : Nat) (w : World) (hT : Tb w) (hm : m.length ≤ 9223372036854775806) (hw : Ways w (.slice a n cap) n e c m)
    (c1 : Calls Tryz.prog 22 #[.slice a n cap] w fun r w' => ∃ v', r = .returned (.tuple #[v', .int .i64 e]) ∧ Fr w w' ∧ IsRow w' v' m)
    (c2 : ∀ W, Fr w W → Calls Tryz.prog 13 #[.slice a n cap] W fun r w' => r = .returned (.int .i64 c) ∧ Fr W w') :
    Calls Tryz.prog 8 #[.slice a n cap] w fun r w' => r = .returned (.bool true) ∧ Fr w w' := by
  have HW : Hid _ := hw
  clear hw
  go_enter Tryz.func8, Tryz.ntmps8
  go_wp2_with fail
  refine c1.mono ?_
  rintro _ w1 ⟨v', rfl, f1, hv⟩
  have HV1 : Hid _ := hv
  have F1 : Hid _ := f1
  have c2' := c2 w1 f1
  clear f1 c1 c2 hv
  go_wp2_with fail
  refine c2'.mono ?_
  rintro _ w2 ⟨rfl, f2⟩
  have F2 : Hid (Fr w w2) := Fr.trans F1.out f2
  have HV2 : Hid (IsRow w2 v' m) := IsRow.fr HV1.out f2
  clear f2 c2' F1 HV1
  have hw := HW.out
  unfold Ways at hw
  clear HW
  rcases hw with ⟨h1, rfl, rfl⟩ | ⟨h1, rfl, h2, rfl⟩ | ⟨h1, rfl, rfl, c3⟩
  · go_wp2_with fail
    refine (begun_any _ (hT.fr F2.out)).mono ?_
    rintro _ w3 ⟨rfl, f3⟩
    have F3 : Hid (Fr w w3) := Fr.trans F2.out f3
    have hsr := sameRow_eq v' (.slice none 0 0) [] w3 (IsRow.fr HV2.out f3) ⟨none, 0, rfl, Or.inl rfl⟩ hm
    clear f3
    go_wp2_with fail
    refine hsr.mono ?_
    rintro _ w4 ⟨rfl, f4⟩
    have F4 : Hid (Fr w w4) := Fr.trans F3.out f4
    clear f4 hsr
    go_wp2_with fail
    go_ret
    exact ⟨rfl, F4.out⟩
  · have q1 : ((e : Int) == 0) = false := by rw [beq_eq_false_iff_ne]; omega
    have q2 : ¬ ((e : Int) = 0) := by omega
    go_wp2_with fail
    refine (begun_any _ (hT.fr F2.out)).mono ?_
    rintro _ w3 ⟨rfl, f3⟩
    have F3 : Hid (Fr w w3) := Fr.trans F2.out f3
    have hsr := sameRow_eq v' (.slice none 0 0) [] w3 (IsRow.fr HV2.out f3) ⟨none, 0, rfl, Or.inl rfl⟩ hm
    clear f3
    go_wp2_with fail
    refine hsr.mono ?_
    rintro _ w4 ⟨rfl, f4⟩
    have F4 : Hid (Fr w w4) := Fr.trans F3.out f4
    clear f4 hsr
    go_wp2_with fail
    go_ret
    exact ⟨rfl, F4.out⟩
  · have c3' := c3 w2 F2.out
    clear c3
    go_wp2_with fail
    refine c3'.mono ?_
    rintro _ w3 ⟨u, rfl, f3, hu⟩
    have F3 : Hid (Fr w w3) := Fr.trans F2.out f3
    have HV3 : Hid (IsRow w3 v' m) := IsRow.fr HV2.out f3
    have HU3 : Hid _ := hu
    clear f3 c3' hu F2 HV2
    go_wp2_with fail
    refine (begun_any _ (hT.fr F3.out)).mono ?_
    rintro _ w4 ⟨rfl, f4⟩
    have F4 : Hid (Fr w w4) := Fr.trans F3.out f4
    have hsr := sameRow_eq v' u m w4 (IsRow.fr HV3.out f4) (IsRow.fr HU3.out f4) hm
    clear f4 F3 HV3 HU3
    go_wp2_with fail
    refine hsr.mono ?_
    rintro _ w5 ⟨rfl, f5⟩
    have F5 : Hid (Fr w w5) := Fr.trans F4.out f5
    clear f5 hsr
    go_wp2_with fail
    go_ret
    exact ⟨rfl, F5.out⟩

theorem walk (v : Value) (l : List VM.Vl) (w : World) (hT : Tb w) (hr : IsRow w v l) (hs : ∀ y ∈ l, y.s.size ≤ maxLen) (hb : l.length * 32 ≤ 140737488351232) (hn : NilOrRow v) :
    Calls Tryz.prog 8 #[v] w fun e w' => e = .returned (.bool true) ∧ Fr w w' := by
  have c1 := sort_in v l w hr hn (by omega)
  have c2 := fun W (f : Fr w W) => rcheckAll_any v l W (hr.fr f) (by omega)
  have c3 := fun (h : l.length ≤ 40) W (f : Fr w W) => sortedOf_any v l W (hr.fr f) h hs
  have hm : (srtOf l).length ≤ 9223372036854775806 := by
    unfold srtOf
    split
    · rw [SM.srt_len]; omega
    · simp
  have hW : Ways w v l.length (sErr l) (VM.chkAll l) (srtOf l) := by
    unfold Ways srtOf sErr
    by_cases h40 : 40 < l.length
    · left
      rw [if_pos h40, if_neg (by decide)]
      exact ⟨by omega, rfl, rfl⟩
    · rw [if_neg h40]
      right
      by_cases hc : VM.chkAll l = 0
      · right
        rw [if_pos hc]
        exact ⟨by omega, hc, hc, c3 (by omega)⟩
      · left
        rw [if_neg hc]
        exact ⟨by omega, rfl, hc, rfl⟩
  obtain ⟨a, cap, rfl, _⟩ := hr
  exact core a l.length cap (srtOf l) (VM.chkAll l) (sErr l) w hT hm hW c1 c2

set_option maxRecDepth 100000 in
theorem lifted (os : Os) (started : os.Started) (H : Type) (enc : TypeId × Value → H) :
    ReturnsInHanded {} Tryz.checked os 8 .any (fun w args => (Rows.sortTellsSpec.pre enc Tryz.prog Tryz.f8 [] false w args ∧ laidMetH Tryz.prog Rows.sortTellsRow.laid w) ∧ sizedMet enc Tryz.prog Tryz.f8 (OpenSpec.ofChange Rows.sortTellsSpec) false w args)
      (Rows.sortTellsSpec.post enc Tryz.prog Tryz.f8 false true false false) := by
  refine returnsInHanded_of_change_and (C := Tryz.checked) (X := fun w _ => laidMetH Tryz.prog Rows.sortTellsRow.laid w) (fun _ _ _ hh h => h.of_heap hh) own started (by kernel_rfl) Tryz.func8
    (ChangeSpec.witness_shaped (enc := enc) (C := Tryz.checked) (os := os) (X := fun w _ => laidMetH Tryz.prog Rows.sortTellsRow.laid w) false (World.laidAll Tryz.prog os Rows.sortTellsRow.laid) #[.slice none 0 0] 8 (World.laidAll_os _ _ _)
      (World.shaped_of_ZipB (by kernel_rfl) (by kernel_rfl)) (by kernel_rfl) (by kernel_rfl) (by kernel_rfl)
      (by rw [MakeChecks.laidMetH_plain _ _ _ (by kernel_rfl)]; exact laidMet_laidAll _ (by kernel_rfl) (by kernel_rfl))) ?_
  intro W base args ds gs before hval0 hW hcnd hsz0 hL _
  have hT : Tb W := tabs_of_laid hL
  have hval : ∀ (j : Nat) t v, Tryz.f8.params[j]? = some t → args[j]? = some v → Value.okWide Tryz.prog W .any base t v := hval0
  have hsz : (DataW.weightsEach Tryz.prog (Tryz.f8.params.toList ++ Rows.sortTellsSpec.plain.varTypes Tryz.prog) (ds ++ gs)).all (· ≤ reachBytes) = true := hsz0
  have hW' := hW
  obtain ⟨p, q, hA0, hV, rfl, hfz, hnd⟩ := hW
  have hA : DataW.TrodAll enc Tryz.prog W 0 (fun _ => true) true Tryz.f8.params.toList args.toList ds p := hA0
  rw [Tryz.params8] at hA hval hsz
  obtain ⟨v0, vs0, d0, ds0, p0, q0, hargs, rfl, rfl, h0, r0⟩ := trodAll_cons hA
  obtain ⟨rfl, rfl, rfl⟩ := trodAll_nil r0
  obtain rfl : args = #[v0] := by cases args; simp_all
  obtain ⟨rfl, rfl⟩ := trodVars_none hV
  obtain ⟨l0, rw0, wd0, ln0, sl0, dd0⟩ := open_row (hval 0 28 v0 rfl rfl) h0
  have b0 : l0.length * 32 ≤ 140737488351232 := by
    rcases dd0 with ⟨_, rfl⟩ | ⟨es, sp, hd, hl⟩
    · simp
    · have h := sized_slice hsz (j := 0) (t := 28) rfl (by rw [hd]; rfl) Tryz.underlying28
      rw [Tryz.bytesVal] at h
      unfold reachBytes at h
      omega
  clear hA0 hval0 hsz0
  refine (walk v0 l0 W hT rw0 sl0 b0 (open_nilrow (hval 0 28 v0 rfl rfl) h0)).mono fun e W' ⟨he, bel⟩ => ?_
  subst he
  exact ⟨_, rfl, _, _, _, [], _, [], hW', trodAll_mk1 (shut_bool Tryz.underlying4 _), (trodAll_cons_mk (shut_row h0 bel) trodAll_mk0), rfl, Below.frame bel _, fun h => by cases h⟩

theorem over : Rows.sortTellsRow.holds Tryz.pinned (OpenSpec.ofChange Rows.sortTellsSpec) :=
  OpenClaim.holds_of_wide 8 Tryz.f8 rfl rfl rfl rfl rfl rfl rfl ⟨rfl, rfl, rfl, rfl, rfl⟩ rfl rfl rfl rfl rfl (by kernel_rfl) Tryz.func8 (by kernel_rfl)
    (of_decide_eq_true (by kernel_rfl)) (by unfold Func.isWrapper; first | (rw [if_pos (by decide +kernel)]; kernel_rfl) | (rw [if_neg (by decide +kernel)]; exact ⟨rfl, rfl⟩))
    (fun os started H enc _ => lifted os started H enc)

theorem card : Rows.SortTellsCardSaid :=
  Claim7.holds_tied_plain_at .later [] [.data, .data, .data, .sentinel, .sentinel] true (true, "096a2825e3b49c34390402dbfe12fba8205c45b11441fe7016cc1e7c1d5b3e22") true
    over (fun _ h => by cases h) (by kernel_rfl) (fun _ h => by cases h) sortTells_row_tie rfl ⟨rfl, rfl⟩ (by kernel_rfl) rfl
    (fun f fn hf hfn => by
      obtain rfl : f = 8 := Option.some.inj ((show Tryz.prog.funcNamed "starling/starlinglaw.SortTells" = some 8 by kernel_rfl).symm.trans hf) |>.symm
      obtain rfl : fn = Tryz.f8 := (Option.some.inj (Tryz.func8.symm.trans hfn)).symm
      exact ⟨by kernel_rfl, fun j t ht => by
        rw [Tryz.params8] at ht
        have hm : t ∈ [28] := by simpa using Array.mem_of_getElem? ht
        have hall : ([28].all fun u => !Tryz.prog.wantsStandIn u) = true := by kernel_rfl
        exact (show Tryz.prog.wantsStandIn t = false by simpa using List.all_eq_true.1 hall t hm)⟩)
    (by kernel_rfl)

end Go.Proofs.YtjadmefiilkgmaaGreatDoor.sortTellsProof
namespace Go.Proofs.YtjadmefiilkgmaaGreatDoor
theorem sortTells_holds : Rows.SortTellsCardSaid := sortTellsProof.card
#print axioms sortTells_holds
end Go.Proofs.YtjadmefiilkgmaaGreatDoor
